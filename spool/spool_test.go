package spool

import (
	"fmt"
	"strings"
	"testing"

	"postchaise/api"
	"postchaise/disk"
	"postchaise/job"
)

// must: the disk of a call that has to be done.
func must(d api.Disk, e api.Errno) api.Disk {
	if e != api.OK {
		panic(e)
	}
	return d
}

func file(name, data string) api.File { return api.File{Name: name, Data: data} }

// made: a disk of all room with these files, synced.
func made(files ...api.File) api.Disk {
	d := disk.New(api.MaxDisk)
	for _, f := range files {
		d = must(disk.Write(d, f.Name, f.Data))
	}
	return must(disk.Sync(d))
}

func id(grade rune, number int) api.Id { return api.Id{Grade: int(grade), Number: number} }

// wish: a job of that kind as a user hands it in.
func wish(kind int) api.Job {
	j := api.Job{Id: id('n', 0), Kind: kind, User: "ann", From: "/a", To: "/b"}
	if kind == api.JobExec {
		j.Command = "rmail bob"
	}
	return j
}

// as: j with that id and size.
func as(j api.Job, x api.Id, size int) api.Job {
	j.Id, j.Size = x, size
	return j
}

// text: the job's text, of a job that may be.
func text(j api.Job) string {
	s, e := job.Text(j)
	if e != api.OK {
		panic(e)
	}
	return s
}

func keeps(system string, j api.Job, data string) api.Held {
	return api.Held{System: system, Job: j, Data: data}
}

// queued: d with the job behind all others, which has to be done, and its id.
func queued(d api.Disk, system string, j api.Job, data string) (api.Disk, api.Id) {
	d, x, e := Queue(d, system, j, data)
	return must(d, e), x
}

// isAs: whether got is want, each as it prints.
func isAs(t *testing.T, what string, got, want any) {
	t.Helper()
	if a, b := fmt.Sprintf("%+v", got), fmt.Sprintf("%+v", want); a != b {
		t.Errorf("%s: %.2000s, want %.2000s", what, a, b)
	}
}

// isDisk: whether got is want, field by field.
func isDisk(t *testing.T, what string, got, want api.Disk) {
	t.Helper()
	if !disk.Same(got, want) {
		t.Errorf("%s: %.2000v, want %.2000v", what, got, want)
	}
}

// The chapter's examples.
func TestExamples(t *testing.T) {
	d, x, e := Queue(disk.New(20000), "duke", wish(api.JobSend), "abc")
	isAs(t, "Queue", []any{x, e}, []any{id('n', 1), api.OK})
	isAs(t, "files", disk.Files(d), []api.File{file("C.duke.n1", "S n1 ann /a /b 3"), file("D.duke.n1", "abc"), file("N", "2")})
	isAs(t, "Jobs", Jobs(d, "duke"), []api.Held{keeps("duke", as(wish(api.JobSend), id('n', 1), 3), "abc")})
	d, e = Done(d, "duke", x)
	isAs(t, "Done", []any{e, disk.Files(d)}, []any{api.OK, []api.File{file("N", "2")}})
	d, x, e = Queue(d, "duke", wish(api.JobSend), "abc")
	isAs(t, "Queue likewise", []any{x, e}, []any{id('n', 2), api.OK})
	d, e = Fail(d, "duke", x)
	isAs(t, "Fail", []any{e, disk.Files(d)}, []any{api.OK, []api.File{file("E.duke.n2", "S n2 ann /a /b 3"), file("N", "3")}})
	isAs(t, "Failed", Failed(d, "duke"), []api.Held{keeps("duke", as(wish(api.JobSend), id('n', 2), 3), "")})
}

// P18.1: the number that the next job gets, by what N says, and what N says behind it.
func TestNumber(t *testing.T) {
	for says, want := range map[string]int{
		"": 1, "0": 1, "x": 1, "-1": 1, "+7": 1, "007": 1, "07": 1, " 7": 1, "7 ": 1, "7\n": 1, "7x": 1, "0x7": 1, "\x007": 1,
		"1": 1, "2": 2, "7": 7, "10": 10, "99": 99, "12345": 12345, "99998": 99998, "99999": 99999,
	} {
		for kind := api.JobSend; kind <= api.JobFetch; kind++ {
			d, x, e := Queue(made(file("N", says)), "duke", wish(kind), "")
			if x != id('n', want) || e != api.OK {
				t.Errorf("Queue where N says %q: %v, %d, want %d", says, x, e, want)
			}
			behind, e := disk.Read(d, "N")
			isAs(t, "N behind "+says, []any{behind, e}, []any{fmt.Sprint(want + 1), api.OK})
		}
	}
	if _, x, _ := Queue(made(), "duke", wish(api.JobSend), ""); x != id('n', 1) {
		t.Errorf("Queue without N: %v", x)
	}
	for _, says := range []string{"100000", "100001", "999999", "4294967297", "1099511627776"} { // P18.2
		d := made(file("N", says))
		after, x, e := Queue(d, "duke", wish(api.JobSend), "")
		isAs(t, "Queue where N says "+says, []any{x, e}, []any{api.Id{}, api.ErrFull})
		isDisk(t, "Queue where N says "+says, after, d)
	}
}

// P18.1, P18.7: a number goes on whichever system, grade and kind the jobs have.
func TestNumberGoesOn(t *testing.T) {
	d, n := made(), 0
	for _, system := range []string{"duke", "a", "zzzzzzz"} {
		for _, grade := range "Az0n" {
			for kind := api.JobSend; kind <= api.JobFetch; kind++ {
				n++
				j := wish(kind)
				j.Id = id(grade, 77777) // whatever number is handed in
				var x api.Id
				if d, x = queued(d, system, j, ""); x != id(grade, n) {
					t.Fatalf("job %d: %v", n, x)
				}
			}
		}
	}
	for _, h := range Jobs(d, "") {
		d = must(Done(d, h.System, h.Job.Id))
	}
	if _, x := queued(d, "duke", wish(api.JobSend), ""); x.Number != n+1 {
		t.Errorf("behind %d jobs that are done: %v", n, x)
	}
}

// one: the files of a disk with a job of each kind that waits, and one of each that has failed.
func one() []api.File {
	return []api.File{
		file("C.duke.n1", "S n1 ann /a /b 3"), file("D.duke.n1", "abc"),
		file("C.duke.n2", "E n2 ann /a /b 2 rmail bob"), file("D.duke.n2", "de"),
		file("C.duke.n3", "R n3 ann /a /b 0"),
		file("E.duke.n4", "S n4 ann /a /b 3"),
		file("E.duke.n5", "E n5 ann /a /b 2 rmail bob"),
		file("E.duke.n6", "R n6 ann /a /b 0"),
		file("N", "7"),
	}
}

// P18.1: just what is there of it is a job, and each stands with its bytes.
func TestJobs(t *testing.T) {
	d := made(one()...)
	isAs(t, "Jobs", Jobs(d, "duke"), []api.Held{
		keeps("duke", as(wish(api.JobSend), id('n', 1), 3), "abc"),
		keeps("duke", as(wish(api.JobExec), id('n', 2), 2), "de"),
		keeps("duke", as(wish(api.JobFetch), id('n', 3), 0), ""),
	})
	isAs(t, "Failed", Failed(d, "duke"), []api.Held{
		keeps("duke", as(wish(api.JobSend), id('n', 4), 3), ""),
		keeps("duke", as(wish(api.JobExec), id('n', 5), 2), ""),
		keeps("duke", as(wish(api.JobFetch), id('n', 6), 0), ""),
	})
	for _, h := range Jobs(d, "duke") {
		got, e := Load(d, "duke", h.Job.Id)
		isAs(t, "Load", []any{got, e}, []any{h, api.OK})
	}
}

// noJob: Jobs, Failed and Load of a disk with these files alone, which are no job.
func noJob(t *testing.T, files ...api.File) {
	t.Helper()
	d := made(files...)
	if w, f := Jobs(d, ""), Failed(d, ""); len(w) != 0 || len(f) != 0 {
		t.Errorf("of %+v: %+v wait, %+v have failed", files, w, f)
	}
	for n := 1; n < 8; n++ {
		if h, e := Load(d, "duke", id('n', n)); h != (api.Held{}) || e != api.ErrNone {
			t.Errorf("Load of n%d of %+v: %+v, %d", n, files, h, e)
		}
	}
}

// P18.1: a text that is none, or that of another id.
func TestNoText(t *testing.T) {
	bytes := file("D.duke.n1", "abc")
	for _, s := range []string{
		"", " ", "S", "S n1 ann /a /b", "S n1 ann /a /b 03", "S n1 ann /a /b 3 ", " S n1 ann /a /b 3", "S n1 ann /a /b 3\n", "S n1 ann /a /b 3 ls",
		"T n1 ann /a /b 3", "s n1 ann /a /b 3", "S n1 Ann /a /b 3", "S n1 ann a /b 3", "S n1 ann /a b 3", "S n1 ann /a /b 6001", "S  n1 ann /a /b 3",
		"S n2 ann /a /b 3", "S N1 ann /a /b 3", "S m1 ann /a /b 3", "S n10 ann /a /b 3", "S n11 ann /a /b 3", "S n01 ann /a /b 3", "S n ann /a /b 3", "S n100000 ann /a /b 3",
		"E n1 ann /a /b 3", "E n2 ann /a /b 3 ls", "R n2 ann /a /b 0", "R n1 ann /a /b 0 ls",
	} {
		noJob(t, file("C.duke.n1", s), bytes)
		noJob(t, file("E.duke.n1", s))
		noJob(t, file("E.duke.n1", s), bytes)
	}
}

// P18.1: bytes that are not there, or not as many as Size says; a fetch asks for none.
func TestNoBytes(t *testing.T) {
	for _, s := range []string{"S n1 ann /a /b 3", "E n1 ann /a /b 3 ls"} {
		waits := file("C.duke.n1", s)
		noJob(t, waits)
		for _, data := range []string{"", "a", "ab", "abcd", "abcabc", strings.Repeat("a", 6000)} {
			noJob(t, waits, file("D.duke.n1", data))
		}
		for _, other := range []string{"D.duke.n2", "D.duke.m1", "D.duk.n1", "D.dukf.n1", "T.duke.n1", "F.duke.n1", "d.duke.n1", "D.duke.n01", "E.duke.n2"} {
			noJob(t, waits, file(other, "abc"))
		}
		if l := Jobs(made(waits, file("D.duke.n1", "\x00\xff\n")), ""); len(l) != 1 || l[0].Data != "\x00\xff\n" {
			t.Errorf("of %q with bytes: %+v", s, l)
		}
		empty := strings.Replace(s, " 3", " 0", 1)
		noJob(t, file("C.duke.n1", empty))
		if l := Jobs(made(file("C.duke.n1", empty), file("D.duke.n1", "")), ""); len(l) != 1 {
			t.Errorf("of %q with an empty file: %+v", empty, l)
		}
	}
	for _, s := range []string{"R n1 ann /a /b 0", "R n1 ann /a /b 3"} {
		for _, files := range [][]api.File{nil, {file("D.duke.n1", "")}, {file("D.duke.n1", "abc")}} {
			want, _ := job.Parse(s)
			isAs(t, s, Jobs(made(append(files, file("C.duke.n1", s))...), ""), []api.Held{keeps("duke", want, "")})
		}
	}
	isAs(t, "a job that failed, and bytes", Failed(made(file("E.duke.n1", "S n1 ann /a /b 3"), file("D.duke.n1", "abc")), ""),
		[]api.Held{keeps("duke", as(wish(api.JobSend), id('n', 1), 3), "")})
}

// P18.1: a text under another name.
func TestNoName(t *testing.T) {
	for _, name := range []string{
		"D.duke.n1", "F.duke.n1", "O.duke.n1", "T.duke.n1", "U.duke.n1", "X.duke.n1", "c.duke.n1", "A.duke.n1", "CC.duke.n1", ".duke.n1",
		"C.duke.n01", "C.duke.n", "C.duke.1", "C.duke", "C.duke.n1.", "C.duke.n1.x", "C..n1", "C.Duke.n1", "C.1duke.n1", "C.dukeduke.n1", "C", "n1", "C-duke-n1", "S.duke", "Q.duke",
	} {
		noJob(t, file(name, "S n1 ann /a /b 3"), file("D.duke.n2", "abc"))
		noJob(t, file(name, "R n1 ann /a /b 0"))
	}
}

// P18.2: what Queue does, each thing in its place: a disk that lasts so many stops there, as it is then.
func TestQueueDoes(t *testing.T) {
	old := api.DiskOp{Kind: api.DiskWrite, Name: "old", Data: "x"} // not synced ahead
	for kind := api.JobSend; kind <= api.JobFetch; kind++ {
		data := "abc"
		if kind == api.JobFetch {
			data = ""
		}
		ops := []api.DiskOp{old, {Kind: api.DiskWrite, Name: "N", Data: "8"}}
		if kind != api.JobFetch {
			ops = append(ops, api.DiskOp{Kind: api.DiskWrite, Name: "D.duke.n7", Data: data})
		}
		ops = append(ops, api.DiskOp{Kind: api.DiskWrite, Name: "C.duke.n7", Data: text(as(wish(kind), id('n', 7), len(data)))})
		begun := must(disk.Write(made(one()...), "old", "x"))
		call := func(d api.Disk) (api.Disk, api.Errno) {
			d, x, e := Queue(d, "duke", wish(kind), data)
			isAs(t, "the id", x, map[bool]api.Id{true: id('n', 7)}[e == api.OK])
			return d, e
		}
		does(t, begun, ops, call)
	}
}

// does: whether call does the operations of ops that begun has not, and then a sync; a disk that lasts fewer is down behind those that it lasts.
func does(t *testing.T, begun api.Disk, ops []api.DiskOp, call func(api.Disk) (api.Disk, api.Errno)) {
	t.Helper()
	whole := begun
	whole.Ops = ops
	synced := must(disk.Sync(whole))
	more := len(ops) - len(begun.Ops)
	for lasts := -1; lasts < more+3; lasts++ {
		got, e := call(disk.Arm(begun, lasts))
		want := begun
		switch {
		case lasts < 0:
			want = synced
		case lasts <= more:
			want.Ops, want.Fuse, want.Down = ops[:len(begun.Ops)+lasts], 0, true
		default:
			want = disk.Arm(synced, lasts-more-1)
		}
		isDisk(t, fmt.Sprintf("a disk that lasts %d of %d", lasts, more+1), got, want)
		isAs(t, "its error", e == api.ErrDown, want.Down)
		isAs(t, "its error", e == api.OK, !want.Down)
	}
}

// P18.2: what is queued under a name that something has already takes its place.
func TestQueueOver(t *testing.T) {
	d := made(file("C.duke.n1", "R n1 bob /x /y 0"), file("D.duke.n1", strings.Repeat("x", 100)), file("N", "nonsense"))
	d, x := queued(d, "duke", wish(api.JobSend), "abc")
	isAs(t, "Jobs", []any{x, Jobs(d, "")}, []any{id('n', 1), []api.Held{keeps("duke", as(wish(api.JobSend), id('n', 1), 3), "abc")}})
}

// trial: what is handed to Queue.
type trial struct {
	d      api.Disk
	system string
	j      api.Job
	data   string
}

// P18.2: every set of faults answers the first of them, in their order, with the disk as it was.
func TestQueueErrors(t *testing.T) {
	faults := []struct {
		e    api.Errno
		make func(*trial)
	}{
		{api.ErrDown, func(x *trial) { x.d.Down = true }},
		{api.ErrName, func(x *trial) { x.system = "Duke" }},
		{api.ErrLong, func(x *trial) { x.data = strings.Repeat("x", 6001) }},
		{api.ErrArg, func(x *trial) { x.j.Kind, x.j.Command = api.JobFetch, "" }}, // data is never empty here
		{api.ErrFull, func(x *trial) { x.d = must(disk.Write(x.d, "N", "100000")) }},
		{api.ErrName, func(x *trial) { x.j.User = "Ann" }},
		{api.ErrFull, func(x *trial) { x.d.Cap = 100 }},
	}
	for set := range 1 << len(faults) {
		x := trial{d: made(one()...), system: "duke", j: wish(api.JobSend), data: "abc"}
		want := api.OK
		for i := len(faults) - 1; i >= 0; i-- { // the room goes last, so that N can be written
			if set>>i&1 == 1 {
				want = faults[i].e
			}
		}
		for i, f := range faults {
			if i > 0 && set>>i&1 == 1 {
				f.make(&x)
			}
		}
		if set&1 == 1 {
			faults[0].make(&x)
		}
		d, y, e := Queue(x.d, x.system, x.j, x.data)
		if e != want {
			t.Errorf("faults %b: %d, want %d", set, e, want)
		}
		if want != api.OK {
			isDisk(t, fmt.Sprintf("faults %b", set), d, x.d)
			isAs(t, "the id", y, api.Id{})
		}
	}
}

// P18.2: each argument that may not be, and those at their edges that may.
func TestQueueArguments(t *testing.T) {
	for system, want := range map[string]api.Errno{
		"a": api.OK, "duke": api.OK, "a234567": api.OK, "z0": api.OK,
		"": api.ErrName, "0a": api.ErrName, "A": api.ErrName, "dukeduke": api.ErrName, "du.ke": api.ErrName, "du/ke": api.ErrName, "du ke": api.ErrName, "é": api.ErrName,
	} {
		queueIs(t, trial{made(), system, wish(api.JobSend), "abc"}, want)
	}
	for n, want := range map[int]api.Errno{0: api.OK, 1: api.OK, 5999: api.OK, 6000: api.OK, 6001: api.ErrLong, 60001: api.ErrLong} {
		queueIs(t, trial{made(), "duke", wish(api.JobSend), strings.Repeat("\xff", n)}, want)
		queueIs(t, trial{made(), "duke", wish(api.JobExec), strings.Repeat("\n", n)}, want)
		if n > 0 && n <= 6000 {
			want = api.ErrArg
		}
		queueIs(t, trial{made(), "duke", wish(api.JobFetch), strings.Repeat("\x00", n)}, want)
	}
	for want, changes := range map[api.Errno][]func(*api.Job){
		api.OK: {
			func(j *api.Job) { j.Size = -5 }, // Size and number are Queue's own
			func(j *api.Job) { j.Size = 100000 },
			func(j *api.Job) { j.Id.Number = -5 },
			func(j *api.Job) { j.Id.Number = 100000 },
			func(j *api.Job) { j.User = "a2345678" },
			func(j *api.Job) { j.To = "/" + strings.Repeat("b", 10) + "/c" },
		},
		api.ErrArg: {
			func(j *api.Job) { j.Id.Grade = '-' },
			func(j *api.Job) { j.Id.Grade = 0 },
			func(j *api.Job) { j.Id.Grade = 'n' + 256 },
			func(j *api.Job) { j.Kind = 0 },
			func(j *api.Job) { j.Kind = 4 },
			func(j *api.Job) { j.Kind = -1 },
			func(j *api.Job) { j.Kind, j.User = 9, "" },
		},
		api.ErrName: {
			func(j *api.Job) { j.User = "" },
			func(j *api.Job) { j.User = "a23456789" },
			func(j *api.Job) { j.User, j.From = "a b", "x" },
		},
		api.ErrForm: {
			func(j *api.Job) { j.From = "a" },
			func(j *api.Job) { j.To = "" },
			func(j *api.Job) { j.Command = "ls" },
			func(j *api.Job) { j.Kind = api.JobExec },
			func(j *api.Job) { j.Kind, j.Command = api.JobExec, "ls " },
		},
	} {
		for _, change := range changes {
			j := wish(api.JobSend)
			change(&j)
			queueIs(t, trial{made(), "duke", j, "abc"}, want)
		}
	}
}

// queueIs: what Queue says of x: its error, or the job as it waits then.
func queueIs(t *testing.T, x trial, want api.Errno) {
	t.Helper()
	d, y, e := Queue(x.d, x.system, x.j, x.data)
	if e != want {
		t.Errorf("Queue of %+v for %q, %d bytes: %d, want %d", x.j, x.system, len(x.data), e, want)
	}
	if want != api.OK {
		isDisk(t, "beside an error", d, x.d)
		isAs(t, "beside an error", y, api.Id{})
		return
	}
	isAs(t, "what waits", Jobs(d, ""), []api.Held{keeps(x.system, as(x.j, id(rune(x.j.Id.Grade), 1), len(x.data)), x.data)})
}

// P18.2: the room to the byte: what is there, the bytes, the text, and 60.
func TestQueueRoom(t *testing.T) {
	for kind := api.JobSend; kind <= api.JobFetch; kind++ {
		for _, n := range []int{0, 1, 9, 10, 99, 100, 5999, 6000} {
			for _, begun := range []api.Disk{made(), made(one()...), must(disk.Write(made(one()...), "old", "x"))} {
				if kind == api.JobFetch {
					n = 0
				}
				data := strings.Repeat("x", n)
				number := 1
				if len(begun.Safe) > 0 {
					number = 7
				}
				need := disk.Used(begun) + n + len(text(as(wish(kind), id('n', number), n))) + 60
				_, x, e := Queue(disk.Room(begun, need), "duke", wish(kind), data)
				isAs(t, "just room", []any{x, e}, []any{id('n', number), api.OK})
				less := disk.Room(begun, need-1)
				d, x, e := Queue(less, "duke", wish(kind), data)
				isAs(t, "a byte less", []any{x, e}, []any{api.Id{}, api.ErrFull})
				isDisk(t, "a byte less", d, less)
			}
		}
	}
}

// P18.2: 40 jobs may wait, for whichever systems; what has failed, and what is no job, does not count.
func TestQueueJobs(t *testing.T) {
	d := made(file("C.half.n99", "S n99 ann /a /b 3"), file("D.other.n98", "abc"), file("E.duke.n97", "S n97 ann /a /b 3"), file("X.duke.n96", "S n96 ann /a /b 0\n"))
	systems := []string{"duke", "a", "b"}
	for n := range 40 {
		d, _ = queued(d, systems[n%3], wish(1+n%3), "")
	}
	full := func(d api.Disk) {
		t.Helper()
		for _, system := range []string{"duke", "a", "new"} {
			after, x, e := Queue(d, system, wish(api.JobSend), "")
			isAs(t, "Queue of a job too many", []any{x, e}, []any{api.Id{}, api.ErrFull})
			isDisk(t, "Queue of a job too many", after, d)
			_, _, e = Queue(d, system, api.Job{}, "x") // ahead of the text's error
			isAs(t, "Queue of a job that may not be", e, api.ErrFull)
			_, _, e = Queue(d, system, wish(api.JobFetch), "x") // behind a fetch's
			isAs(t, "Queue of a fetch with bytes", e, api.ErrArg)
		}
	}
	full(d)
	l := Jobs(d, "")
	isAs(t, "how many", len(l), 40)
	d, x := queued(must(Done(d, l[0].System, l[0].Job.Id)), "new", wish(api.JobSend), "")
	isAs(t, "behind one that is done", x.Number, 41)
	full(d)
	d, x = queued(must(Fail(d, l[1].System, l[1].Job.Id)), "new", wish(api.JobSend), "")
	isAs(t, "behind one that failed", x.Number, 42)
	full(d)
}
