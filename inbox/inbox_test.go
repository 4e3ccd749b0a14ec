package inbox_test

import (
	"fmt"
	"slices"
	"strings"
	"testing"

	"postchaise/api"
	"postchaise/disk"
	"postchaise/inbox"
	"postchaise/job"
)

// kinds: each with the letters of its files: where bytes have come, and where they are gathered.
var kinds = []struct {
	kind           int
	comes, gathers string
}{{'X', "X", "T"}, {'F', "F", "U"}}

// noKinds: numbers that are no kind, those of other files among them.
var noKinds = []int{0, -1, 1, 'T', 'U', 'C', 'D', 'E', 'O', 'Q', 'S', 'N', 'x', 'f', 'X' + 256, 'F' - 256, 1 << 62}

// must: the disk of a call that has to be done.
func must(d api.Disk, e api.Errno) api.Disk {
	if e != api.OK {
		panic(e)
	}
	return d
}

func file(name, data string) api.File { return api.File{Name: name, Data: data} }

// made: a disk of all room with these files, synced.
func made(files ...api.File) api.Disk {
	d := disk.New(api.MaxDisk)
	for _, f := range files {
		d = must(disk.Write(d, f.Name, f.Data))
	}
	return must(disk.Sync(d))
}

func id(grade rune, number int) api.Id { return api.Id{Grade: int(grade), Number: number} }

// sent: a job n1 that is sent, of that size: its text is S n1 ann /a /b and the size.
func sent(size int) api.Job {
	return api.Job{Id: id('n', 1), Kind: api.JobSend, User: "ann", From: "/a", To: "/b", Size: size}
}

// text: the job's text, of a job that may be.
func text(j api.Job) string {
	s, e := job.Text(j)
	if e != api.OK {
		panic(e)
	}
	return s
}

// isAs: whether got is want, each as it prints.
func isAs(t *testing.T, what string, got, want any) {
	t.Helper()
	if a, b := fmt.Sprintf("%+v", got), fmt.Sprintf("%+v", want); a != b {
		t.Errorf("%s: %.2000s, want %.2000s", what, a, b)
	}
}

// isDisk: whether got is want, field by field.
func isDisk(t *testing.T, what string, got, want api.Disk) {
	t.Helper()
	if !disk.Same(got, want) {
		t.Errorf("%s: %.2000v, want %.2000v", what, got, want)
	}
}

// trial: what is handed to a call.
type trial struct {
	d      api.Disk
	kind   int
	system string
	j      api.Job
	s      string
}

// The calls that change a disk, each with the number of Begin.
func begin(x trial) (api.Disk, int, api.Errno) { return inbox.Begin(x.d, x.kind, x.system, x.j) }

func more(x trial) (api.Disk, int, api.Errno) {
	d, e := inbox.More(x.d, x.kind, x.system, x.j.Id, x.s)
	return d, 0, e
}

func finish(x trial) (api.Disk, int, api.Errno) {
	d, e := inbox.Finish(x.d, x.kind, x.system, x.j.Id)
	return d, 0, e
}

func drop(x trial) (api.Disk, int, api.Errno) {
	d, e := inbox.Drop(x.d, x.kind, x.system, x.j.Id)
	return d, 0, e
}

type call struct {
	what string
	do   func(trial) (api.Disk, int, api.Errno)
}

var calls = []call{{"Begin", begin}, {"More", more}, {"Finish", finish}, {"Drop", drop}}

// refuses: whether the call answers that error, and nothing else but the disk as it was.
func (c call) refuses(t *testing.T, x trial, want api.Errno) {
	t.Helper()
	d, n, e := c.do(x)
	if n != 0 || e != want {
		t.Errorf("%s of %+v: %d, error %d, want %d", c.what, x, n, e, want)
	}
	isDisk(t, c.what+" beside an error", d, x.d)
}

// makes: whether the call answers OK and a number, and a disk that has these files, all safe.
func (c call) makes(t *testing.T, x trial, number int, files ...api.File) {
	t.Helper()
	d, n, e := c.do(x)
	if n != number || e != api.OK {
		t.Errorf("%s of %+v: %d, error %d, want %d", c.what, x, n, e, number)
	}
	want := x.d
	want.Safe, want.Ops = files, nil
	isDisk(t, c.what, d, want)
}

// The chapter's example.
func TestExample(t *testing.T) {
	j := sent(5)
	d, n, e := inbox.Begin(disk.New(20000), 'X', "duke", j)
	isAs(t, "Begin", []any{n, e, disk.Files(d)}, []any{0, api.OK, []api.File{file("T.duke.n1", "S n1 ann /a /b 5\n")}})
	d = must(inbox.More(d, 'X', "duke", j.Id, "abc"))
	d, n, e = inbox.Begin(d, 'X', "duke", j)
	isAs(t, "Begin", []any{n, e}, []any{3, api.OK})
	d = must(inbox.More(d, 'X', "duke", j.Id, "de"))
	d = must(inbox.Finish(d, 'X', "duke", j.Id))
	isAs(t, "files", disk.Files(d), []api.File{file("X.duke.n1", "S n1 ann /a /b 5\nabcde")})
	_, _, e = inbox.Begin(d, 'X', "duke", j)
	isAs(t, "Begin of what has come", e, api.ErrThere)
}

// P19.1: the files of both kinds, of jobs of all kinds, of any bytes; the kinds do not meddle with one another.
func TestFiles(t *testing.T) {
	exec := api.Job{Id: id('Z', 99999), Kind: api.JobExec, User: "a2345678", From: "/", To: "/a/b", Command: "rmail a b", Size: 256}
	fetch := api.Job{Id: id('0', 10), Kind: api.JobFetch, User: "0", From: "/~", To: "/x", Size: 6000}
	all := ""
	for c := range 256 {
		all += string([]byte{byte(c)})
	}
	for _, k := range kinds {
		d := made(file("C.duke.n1", "x"), file(kinds[0].gathers+".other.n1", "x"), file(kinds[1].comes+".other.n1", "x"))
		for _, c := range []struct {
			system, behind, text, data string
			j                          api.Job
		}{
			{"duke", ".duke.n1", "S n1 ann /a /b 0\n", "", sent(0)},
			{"a", ".a.Z99999", "E Z99999 a2345678 / /a/b 256 rmail a b\n", all, exec},
			{"zzzzzz9", ".zzzzzz9.010", "R 010 0 /~ /x 6000\n", strings.Repeat("\n\x00", 3000), fetch},
		} {
			before, gathers, comes := disk.Files(d), file(k.gathers+c.behind, c.text), file(k.comes+c.behind, c.text+c.data)
			x := trial{d, k.kind, c.system, c.j, ""}
			call{"Begin", begin}.makes(t, x, 0, with(before, gathers)...)
			x.d, _, _ = begin(x)
			x.s = c.data[:len(c.data)/3]
			gathers.Data += x.s
			call{"More", more}.makes(t, x, 0, with(before, gathers)...)
			x.d, _, _ = more(x)
			isAs(t, "Has ahead of all", inbox.Has(x.d, k.kind, c.system, c.j.Id), false)
			call{"Drop", drop}.makes(t, x, 0, before...)
			x.s = c.data[len(c.data)/3:]
			x.d, _, _ = more(x)
			call{"Finish", finish}.makes(t, x, 0, with(before, comes)...)
			d, _, _ = finish(x)
			isAs(t, "Has", inbox.Has(d, k.kind, c.system, c.j.Id), true)
			isAs(t, "Came", inbox.Came(d, k.kind, c.system), []api.Held{{System: c.system, Job: c.j, Data: c.data}})
		}
	}
}

// with: the files with f in the place of what has its name, by rising names.
func with(files []api.File, f api.File) []api.File {
	l := without(files, f.Name)
	at, _ := slices.BinarySearchFunc(l, f, func(a, b api.File) int { return strings.Compare(a.Name, b.Name) })
	return slices.Insert(l, at, f)
}

func without(files []api.File, name string) []api.File {
	return slices.DeleteFunc(slices.Clone(files), func(f api.File) bool { return f.Name == name })
}

// P19.2: whether the file is there, whatever it says; that of another kind, system or id is another one.
func TestHas(t *testing.T) {
	for _, k := range kinds {
		for _, says := range []string{"S n1 ann /a /b 3\nabc", "S n1 ann /a /b 3\n", "S n2 ann /a /b 3\nabc", "S n1 ann /a /b 3", "nonsense", ""} {
			d := made(file(k.comes+".duke.n1", says))
			for _, system := range []string{"duke", "duk", "dukf", "Duke", "", "duke.n1"} {
				for _, x := range []api.Id{id('n', 1), id('n', 2), id('n', 11), id('N', 1), id('n', 0), id('n', -1), id('n'+256, 1), {}} {
					isAs(t, fmt.Sprintf("Has of %v of %q", x, system), inbox.Has(d, k.kind, system, x), system == "duke" && x == id('n', 1))
				}
			}
			for _, other := range append([]int{kinds[0].kind + kinds[1].kind - k.kind}, noKinds...) {
				isAs(t, fmt.Sprintf("Has of kind %d", other), inbox.Has(d, other, "duke", id('n', 1)), false)
			}
			down := disk.Crash(d, 0)
			isAs(t, "Has of a disk that is down", inbox.Has(down, k.kind, "duke", id('n', 1)), false)
			isAs(t, "Has behind the start", inbox.Has(disk.Start(down), k.kind, "duke", id('n', 1)), true)
		}
	}
	var files []api.File
	for _, letter := range strings.Split("CDENOQSTUxf", "") {
		files = append(files, file(letter+".duke.n1", "S n1 ann /a /b 3\nabc"))
	}
	for _, kind := range append([]int{'X', 'F'}, noKinds...) {
		isAs(t, fmt.Sprintf("Has of kind %d beside all other files", kind), inbox.Has(made(files...), kind, "duke", id('n', 1)), false)
	}
}

// fault: an error, and what makes a call answer it.
type fault struct {
	e    api.Errno
	make func(*trial)
}

// common: the errors that every call answers first.
var common = []fault{
	{api.ErrDown, func(x *trial) { x.d.Down = true }},
	{api.ErrArg, func(x *trial) { x.kind = 'C' }},
	{api.ErrName, func(x *trial) { x.system = "Duke" }},
	{api.ErrArg, func(x *trial) { x.j.Id.Number = 0 }},
}

// inOrder: whether the call answers, for every set of the faults, the first one, with the disk as it was.
func inOrder(t *testing.T, c call, base trial, faults ...fault) {
	t.Helper()
	faults = slices.Concat(common, faults)
	for set := range 1 << len(faults) {
		x, want := base, api.OK
		for i := len(faults) - 1; i >= 0; i-- { // from the last one on, so that no fault undoes an earlier one, and a disk is down at last
			if set>>i&1 == 1 {
				faults[i].make(&x)
				want = faults[i].e
			}
		}
		if want != api.OK {
			c.refuses(t, x, want)
		} else if _, _, e := c.do(x); e != api.OK {
			t.Errorf("%s without a fault: %d", c.what, e)
		}
	}
}

// lay: x's disk with that file, whatever room it has.
func (x *trial) lay(name, data string) {
	room := x.d.Cap
	x.d = disk.Room(must(disk.Write(disk.Room(x.d, api.MaxDisk), name, data)), room)
}

// P19.3, P19.4, P19.5, P19.6: every set of faults answers the first of them.
func TestErrors(t *testing.T) {
	for _, k := range kinds {
		gathers := k.gathers + ".duke.n1"
		noJob := fault{api.ErrName, func(x *trial) { x.j.User = "Ann" }}
		hasCome := fault{api.ErrThere, func(x *trial) { x.lay(k.comes+".duke.n1", "nonsense") }}
		noRoom := fault{api.ErrFull, func(x *trial) { x.d.Cap = disk.Used(x.d) }}
		noFile := fault{api.ErrNone, func(x *trial) { x.d = must(disk.Remove(x.d, gathers)) }}
		ofOther := fault{api.ErrNone, func(x *trial) { x.lay(gathers, "S n2 ann /a /b 5\nab") }}
		tooLong := fault{api.ErrLong, func(x *trial) { x.s = "cdef" }}
		short := fault{api.ErrShort, func(x *trial) { x.lay(gathers, "S n1 ann /a /b 5\nabcd") }}
		base := trial{made(file("N", "7")), k.kind, "duke", sent(5), "cd"}
		inOrder(t, call{"Begin", begin}, base, noJob, hasCome, noRoom)
		base.d = made(file(gathers, "S n1 ann /a /b 5\nab"))
		inOrder(t, call{"Begin", begin}, base, noJob, hasCome, noRoom)
		inOrder(t, call{"More", more}, base, ofOther, tooLong, noRoom)
		inOrder(t, call{"More", more}, base, noFile)
		inOrder(t, call{"Drop", drop}, base, noFile)
		base.d = made(file(gathers, "S n1 ann /a /b 5\nabcde"))
		inOrder(t, call{"Finish", finish}, base, ofOther, short, hasCome)
		inOrder(t, call{"Finish", finish}, base, noFile, hasCome)
	}
}

// P19.3, P19.4, P19.5, P19.6: each argument that may not be, and those at their edges that may.
func TestArguments(t *testing.T) {
	for _, k := range kinds {
		for _, c := range calls {
			for system, want := range map[string]api.Errno{
				"a": api.OK, "duke": api.OK, "a234567": api.OK, "z0": api.OK,
				"": api.ErrName, "0a": api.ErrName, "A": api.ErrName, "dukeduke": api.ErrName, "du.ke": api.ErrName, "du/ke": api.ErrName, "du ke": api.ErrName, "é": api.ErrName,
			} {
				argumentIs(t, c, k.gathers, trial{made(), k.kind, system, sent(0), ""}, want)
			}
			for x, want := range map[api.Id]api.Errno{
				id('0', 1): api.OK, id('9', 9): api.OK, id('A', 10): api.OK, id('Z', 99): api.OK, id('a', 99998): api.OK, id('z', 99999): api.OK,
				{}: api.ErrArg, id('n', 0): api.ErrArg, id('n', -1): api.ErrArg, id('n', 100000): api.ErrArg, id('n', 1<<40): api.ErrArg,
				id('/', 1): api.ErrArg, id(':', 1): api.ErrArg, id('@', 1): api.ErrArg, id('[', 1): api.ErrArg, id('`', 1): api.ErrArg, id('{', 1): api.ErrArg, id('n'+256, 1): api.ErrArg, id(-1, 1): api.ErrArg,
			} {
				j := sent(0)
				j.Id = x
				argumentIs(t, c, k.gathers, trial{made(), k.kind, "duke", j, ""}, want)
			}
			for _, kind := range noKinds {
				argumentIs(t, c, k.gathers, trial{made(file("T.duke.n1", "S n1 ann /a /b 0\n"), file("U.duke.n1", "S n1 ann /a /b 0\n")), kind, "duke", sent(0), ""}, api.ErrArg)
			}
		}
	}
}

// argumentIs: what the call says of x where, if it has a name, its file gathers all its bytes: that error, or OK.
func argumentIs(t *testing.T, c call, gathers string, x trial, want api.Errno) {
	t.Helper()
	if want != api.OK {
		c.refuses(t, x, want)
		return
	}
	x.d = must(disk.Write(x.d, fmt.Sprintf("%s.%s.%c%d", gathers, x.system, x.j.Id.Grade, x.j.Id.Number), text(x.j)+"\n"))
	if _, n, e := c.do(x); n != 0 || e != api.OK {
		t.Errorf("%s of %+v: %d, error %d", c.what, x, n, e)
	}
}

// P19.3: jobs that may not be, by their text's errors; those at their edges are begun.
func TestBeginJobs(t *testing.T) {
	for want, changes := range map[api.Errno][]func(*api.Job){
		api.OK: {
			func(j *api.Job) { j.Size = 0 },
			func(j *api.Job) { j.Size = 6000 },
			func(j *api.Job) { j.Kind = api.JobFetch },
			func(j *api.Job) { j.Kind, j.Command = api.JobExec, strings.Repeat("x", 60) },
			func(j *api.Job) { j.User = "a2345678" },
			func(j *api.Job) { j.To = "/" + strings.Repeat("b", 39) },
		},
		api.ErrArg: {
			func(j *api.Job) { j.Kind = 0 },
			func(j *api.Job) { j.Kind = 4 },
			func(j *api.Job) { j.Kind, j.User, j.Size = -1, "", -1 },
		},
		api.ErrName: {
			func(j *api.Job) { j.User = "" },
			func(j *api.Job) { j.User = "a23456789" },
			func(j *api.Job) { j.User, j.From = "a b", "x" },
		},
		api.ErrForm: {
			func(j *api.Job) { j.From = "a" },
			func(j *api.Job) { j.To = "/" + strings.Repeat("b", 40) },
			func(j *api.Job) { j.Command = "ls" },
			func(j *api.Job) { j.Kind = api.JobExec },
			func(j *api.Job) { j.Kind, j.Command = api.JobExec, "ls\n" },
		},
		api.ErrLong: {
			func(j *api.Job) { j.Size = -1 },
			func(j *api.Job) { j.Size = 6001 },
			func(j *api.Job) { j.Size = 1 << 62 },
		},
	} {
		for _, change := range changes {
			for _, k := range kinds {
				x := trial{made(), k.kind, "duke", sent(5), ""}
				change(&x.j)
				if want != api.OK {
					call{"Begin", begin}.refuses(t, x, want)
					continue
				}
				call{"Begin", begin}.makes(t, x, 0, file(k.gathers+".duke.n1", text(x.j)+"\n"))
			}
		}
	}
}

// P19.3: what is gathered is told, and the disk is as it was: nothing is written, nothing synced.
func TestBeginAgain(t *testing.T) {
	for _, k := range kinds {
		for _, size := range []int{0, 1, 2, 9, 10, 600, 6000} {
			for _, n := range []int{0, 1, 2, size / 2, size - 1, size} {
				if n < 0 || n > size {
					continue
				}
				begun := file(k.gathers+".duke.n1", text(sent(size))+"\n"+strings.Repeat("\n", n))
				for _, d := range []api.Disk{made(begun), must(disk.Write(made(file("N", "7")), begun.Name, begun.Data)), disk.Arm(made(begun), 0)} {
					x := trial{disk.Room(d, disk.Used(d)+size-n), k.kind, "duke", sent(size), ""}
					after, m, e := begin(x)
					isAs(t, "Begin anew", []any{m, e}, []any{n, api.OK})
					isDisk(t, "Begin anew", after, x.d)
					x.d = d
					after, m, e = begin(x)
					isAs(t, "Begin anew with all room", []any{m, e}, []any{n, api.OK})
					isDisk(t, "Begin anew with all room", after, d)
					x.d = disk.Room(d, disk.Used(d)+size-n-1)
					call{"Begin", begin}.refuses(t, x, api.ErrFull)
				}
			}
		}
	}
}

// P19.3: a file with another text, or with too many bytes, is written anew; its room is asked for beside what it takes already.
func TestBeginOver(t *testing.T) {
	for _, k := range kinds {
		for _, says := range []string{
			"", "\n", "S n1 ann /a /b 5", "S n1 ann /a /b ", "S n1 ann /a /b 5 \nab", " S n1 ann /a /b 5\nab", "\nS n1 ann /a /b 5\nab", "S n1 ann /a /b 5\r\nab", "S n1 ann /a /b 5\x00\nab", "S n1 ann /a /b 5ab",
			"S n1 ann /a /b 6\nab", "S n1 ann /a /b 55\nab", "S n1 ann /a /c 5\nab", "S n1 ann /c /b 5\nab", "S n1 bob /a /b 5\nab", "S n2 ann /a /b 5\nab", "S m1 ann /a /b 5\nab", "R n1 ann /a /b 5\nab", "E n1 ann /a /b 5 ls\nab",
			"S n1 ann /a /b 5\nabcdef", "S n1 ann /a /b 5\nabcde\n", "S n1 ann /a /b 5\n" + strings.Repeat("a", 6000),
		} {
			name := k.gathers + ".duke.n1"
			for _, d := range []api.Disk{made(file("N", "7"), file(name, says)), must(disk.Write(made(file("N", "7")), name, says))} {
				beginsAnew(t, trial{d, k.kind, "duke", sent(5), ""}, name)
			}
		}
		beginsAnew(t, trial{made(), k.kind, "duke", sent(0), ""}, k.gathers+".duke.n1")
		beginsAnew(t, trial{made(file("N", "7")), k.kind, "a", sent(6000), ""}, k.gathers+".a.n1")
		beginsAnew(t, trial{must(disk.Write(made(), "N", "7")), k.kind, "a", sent(600), ""}, k.gathers+".a.n1")
	}
}

// beginsAnew: whether the file is written with the text alone, if there is room for all, to the byte.
func beginsAnew(t *testing.T, x trial, name string) {
	t.Helper()
	files := with(disk.Files(x.d), file(name, text(x.j)+"\n"))
	need := disk.Used(x.d) + len(text(x.j)) + 17 + x.j.Size
	call{"Begin", begin}.makes(t, x, 0, files...)
	x.d = disk.Room(x.d, need)
	call{"Begin", begin}.makes(t, x, 0, files...)
	x.d = disk.Room(x.d, need-1)
	call{"Begin", begin}.refuses(t, x, api.ErrFull)
}

// P19.3, P19.5, P19.9: what has come is neither begun nor finished again, whatever is gathered beside it; that of another kind, system or id does not matter.
func TestThere(t *testing.T) {
	for i, k := range kinds {
		gathers := file(k.gathers+".duke.n1", "S n1 ann /a /b 2\nab")
		for _, says := range []string{"S n1 ann /a /b 2\nab", "S n1 ann /a /b 2\nxy", "S n1 bob /a /b 1\nx", "nonsense", ""} {
			x := trial{made(gathers, file(k.comes+".duke.n1", says)), k.kind, "duke", sent(2), ""}
			call{"Begin", begin}.refuses(t, x, api.ErrThere)
			call{"Finish", finish}.refuses(t, x, api.ErrThere)
			x.d = must(disk.Remove(x.d, gathers.Name))
			call{"Begin", begin}.refuses(t, x, api.ErrThere)
			call{"Finish", finish}.refuses(t, x, api.ErrNone)
		}
		others := []api.File{gathers}
		for _, name := range []string{k.comes + ".duke.n2", k.comes + ".duke.N1", k.comes + ".duke.n11", k.comes + ".duk.n1", k.comes + ".dukes.n1", kinds[1-i].comes + ".duke.n1", kinds[1-i].gathers + ".duke.n1", "O.duke.n1", "E.duke.n1"} {
			others = with(others, file(name, "S n1 ann /a /b 2\nab"))
		}
		x := trial{made(others...), k.kind, "duke", sent(2), ""}
		if _, n, e := begin(x); n != 2 || e != api.OK {
			t.Errorf("Begin beside others: %d, %d", n, e)
		}
		call{"Finish", finish}.makes(t, x, 0, with(without(others, gathers.Name), file(k.comes+".duke.n1", gathers.Data))...)
	}
}

// P19.4, P19.5: files in which nothing of the job is gathered; Drop takes them all the same (P19.6).
func TestNoneGathered(t *testing.T) {
	for i, k := range kinds {
		for _, says := range []string{
			"", "\n", "\nabc", "S n1 ann /a /b 0", "S n1 ann /a /b 0 ", "S n1 ann /a /b\n", "S n1 ann /a /b 00\n", "S n1 ann /a /b 0 \n", " S n1 ann /a /b 0\n", "\nS n1 ann /a /b 0\n", "S n1 ann /a /b 0\r\n", "S  n1 ann /a /b 0\n",
			"T n1 ann /a /b 0\n", "S n1 Ann /a /b 0\n", "S n1 ann a /b 0\n", "S n1 ann /a /b 6001\n", "S n1 ann /a /b 0 ls\n", "E n1 ann /a /b 0\n",
			"S n2 ann /a /b 0\n", "S N1 ann /a /b 0\n", "S m1 ann /a /b 0\n", "S n10 ann /a /b 0\n", "S n11 ann /a /b 0\n", "S n01 ann /a /b 0\n", "S n ann /a /b 0\n", "S n100000 ann /a /b 0\n",
		} {
			x := trial{made(file(k.gathers+".duke.n1", says), file("N", "7")), k.kind, "duke", sent(0), ""}
			call{"More", more}.refuses(t, x, api.ErrNone)
			call{"Finish", finish}.refuses(t, x, api.ErrNone)
			call{"Drop", drop}.makes(t, x, 0, without(disk.Files(x.d), k.gathers+".duke.n1")...)
		}
		var others []api.File
		for _, name := range []string{k.gathers + ".duke.n2", k.gathers + ".duke.n11", k.gathers + ".duke.N1", k.gathers + ".duk.n1", k.gathers + ".dukes.n1", k.comes + ".duke.n1", kinds[1-i].gathers + ".duke.n1", kinds[1-i].comes + ".duke.n1", "C.duke.n1", "N"} {
			others = append(others, file(name, "S n1 ann /a /b 0\n"))
		}
		x := trial{made(others...), k.kind, "duke", sent(0), ""}
		for _, c := range calls[1:] {
			c.refuses(t, x, api.ErrNone)
		}
	}
}

// P19.4: so many bytes and no more than Size; the room to the byte.
func TestMore(t *testing.T) {
	for _, k := range kinds {
		name := k.gathers + ".duke.n1"
		for _, size := range []int{0, 1, 5, 600, 6000} {
			for _, n := range []int{0, 1, size / 2, size - 1, size, size + 1} {
				for _, s := range []string{"", "a", "\n", "\x00\xff", strings.Repeat("b", max(size-n, 0)), strings.Repeat("b", max(size-n+1, 0)), strings.Repeat("b", 6001)} {
					if n < 0 {
						continue
					}
					begun := text(sent(size)) + "\n" + strings.Repeat("x", n)
					x := trial{made(file("C.a.n1", "y"), file(name, begun)), k.kind, "duke", sent(size), s}
					if n+len(s) > size {
						call{"More", more}.refuses(t, x, api.ErrLong)
						continue
					}
					x.d = disk.Room(x.d, disk.Used(x.d)+len(s))
					call{"More", more}.makes(t, x, 0, file("C.a.n1", "y"), file(name, begun+s))
					if s != "" {
						x.d = disk.Room(x.d, disk.Used(x.d)+len(s)-1)
						call{"More", more}.refuses(t, x, api.ErrFull)
					}
				}
			}
		}
	}
}

// P19.5: just so many bytes as Size; no room is asked for.
func TestFinish(t *testing.T) {
	for _, k := range kinds {
		for _, size := range []int{0, 1, 5, 600, 6000} {
			for _, n := range []int{0, 1, size / 2, size - 1, size, size + 1, size + 2, 6001} {
				if n < 0 {
					continue
				}
				begun := text(sent(size)) + "\n" + strings.Repeat("\n", n)
				x := trial{disk.Room(made(file("C.a.n1", "y"), file(k.gathers+".duke.n1", begun)), 0), k.kind, "duke", sent(size), ""}
				if n != size {
					call{"Finish", finish}.refuses(t, x, api.ErrShort)
					continue
				}
				call{"Finish", finish}.makes(t, x, 0, with([]api.File{file("C.a.n1", "y")}, file(k.comes+".duke.n1", begun))...)
			}
		}
	}
}

// P19.3, P19.4, P19.5, P19.6: what each call does, and that it is synced behind what was not: a disk that lasts so many stops there, as it is then.
func TestDoes(t *testing.T) {
	for _, k := range kinds {
		gathers, comes := k.gathers+".duke.n1", k.comes+".duke.n1"
		for _, c := range []struct {
			call
			files []api.File
			op    api.DiskOp
		}{
			{call{"Begin", begin}, nil, api.DiskOp{Kind: api.DiskWrite, Name: gathers, Data: "S n1 ann /a /b 5\n"}},
			{call{"Begin", begin}, []api.File{file(gathers, "S n1 bob /a /b 5\nabc")}, api.DiskOp{Kind: api.DiskWrite, Name: gathers, Data: "S n1 ann /a /b 5\n"}},
			{call{"More", more}, []api.File{file(gathers, "S n1 ann /a /b 5\nabc")}, api.DiskOp{Kind: api.DiskAppend, Name: gathers, Data: "de"}},
			{call{"Finish", finish}, []api.File{file(gathers, "S n1 ann /a /b 5\nabcde")}, api.DiskOp{Kind: api.DiskRename, Name: gathers, To: comes}},
			{call{"Drop", drop}, []api.File{file(gathers, "S n1 ann /a /b 5\nabc"), file(comes, "x")}, api.DiskOp{Kind: api.DiskRemove, Name: gathers}},
		} {
			begun := must(disk.Write(made(append(c.files, file("N", "7"))...), "old", "x"))
			for lasts := -1; lasts < 4; lasts++ {
				d, n, e := c.do(trial{disk.Arm(begun, lasts), k.kind, "duke", sent(5), "de"})
				want, error := stopped(begun, c.op, lasts)
				isAs(t, fmt.Sprintf("%s of a disk that lasts %d", c.what, lasts), []any{n, e}, []any{0, error})
				isDisk(t, fmt.Sprintf("%s of a disk that lasts %d", c.what, lasts), d, want)
			}
		}
	}
}

// stopped: begun behind op and a sync, or as far as it lasts, and the error.
func stopped(begun api.Disk, op api.DiskOp, lasts int) (api.Disk, api.Errno) {
	want := begun
	if lasts != 0 {
		want.Ops = append(slices.Clone(begun.Ops), op)
	}
	if lasts == 0 || lasts == 1 {
		want.Fuse, want.Down = 0, true
		return want, api.ErrDown
	}
	return disk.Arm(must(disk.Sync(want)), max(lasts-2, -1)), api.OK
}
