package inbox_test

import (
	"cmp"
	"fmt"
	"math/rand/v2"
	"regexp"
	"slices"
	"strconv"
	"strings"
	"testing"

	"postchaise/api"
	"postchaise/disk"
	"postchaise/inbox"
	"postchaise/job"
)

// second: P19.2 to P19.7 written once more, on a map of files that no power leaves; each call says what it answers where no name is wrong.
type second struct {
	files map[string]string
	room  int
}

var comeFile = regexp.MustCompile(`^([XF])\.([a-z0-9]+)\.([0-9A-Za-z])([0-9]+)$`)

func filesOf(d api.Disk) second {
	s := second{map[string]string{}, d.Cap}
	for _, f := range disk.Files(d) {
		s.files[f.Name] = f.Data
	}
	return s
}

// told: the files as a disk has them.
func (s second) told() []api.File {
	var l []api.File
	for name, data := range s.files {
		l = append(l, file(name, data))
	}
	slices.SortFunc(l, func(a, b api.File) int { return strings.Compare(a.Name, b.Name) })
	return l
}

func (s second) used() int {
	n := 0
	for _, data := range s.files {
		n += 16 + len(data)
	}
	return n
}

// names: where bytes of the job are gathered, and where they have come.
func names(x trial) (string, string) {
	letter := map[int]string{'X': "T", 'F': "U"}[x.kind]
	behind := fmt.Sprintf(".%s.%c%d", x.system, x.j.Id.Grade, x.j.Id.Number)
	return letter + behind, string(rune(x.kind)) + behind
}

// says: the size that a file says, and its bytes, if it is one of the job with that id.
func says(data string, x api.Id) (int, string, bool) {
	l := strings.SplitN(data, "\n", 2)
	j, e := job.Parse(l[0])
	if len(l) < 2 || e != api.OK || j.Id != x {
		return 0, "", false
	}
	return j.Size, l[1], true
}

func (s second) begin(x trial) (int, api.Errno) {
	gathers, comes := names(x)
	if _, there := s.files[comes]; there {
		return 0, api.ErrThere
	}
	head := text(x.j) + "\n"
	if data := s.files[gathers]; strings.HasPrefix(data, head) && len(data) <= len(head)+x.j.Size {
		if s.used()+len(head)+x.j.Size-len(data) > s.room {
			return 0, api.ErrFull
		}
		return len(data) - len(head), api.OK
	}
	if s.used()+len(head)+16+x.j.Size > s.room {
		return 0, api.ErrFull
	}
	s.files[gathers] = head
	return 0, api.OK
}

func (s second) more(x trial) (int, api.Errno) {
	gathers, _ := names(x)
	size, data, ok := says(s.files[gathers], x.j.Id)
	switch {
	case !ok:
		return 0, api.ErrNone
	case len(data)+len(x.s) > size:
		return 0, api.ErrLong
	case s.used()+len(x.s) > s.room:
		return 0, api.ErrFull
	}
	s.files[gathers] += x.s
	return 0, api.OK
}

func (s second) finish(x trial) (int, api.Errno) {
	gathers, comes := names(x)
	size, data, ok := says(s.files[gathers], x.j.Id)
	if !ok {
		return 0, api.ErrNone
	}
	if len(data) != size {
		return 0, api.ErrShort
	}
	if _, there := s.files[comes]; there {
		return 0, api.ErrThere
	}
	s.files[comes] = s.files[gathers]
	delete(s.files, gathers)
	return 0, api.OK
}

func (s second) drop(x trial) (int, api.Errno) {
	gathers, _ := names(x)
	if _, there := s.files[gathers]; !there {
		return 0, api.ErrNone
	}
	delete(s.files, gathers)
	return 0, api.OK
}

// came: the texts, systems and bytes of what has come.
func (s second) came(kind int, system string) []string {
	type row struct {
		grade, system, told string
		number              int
	}
	var rows []row
	for name, data := range s.files {
		m := comeFile.FindStringSubmatch(name)
		if m == nil || m[1] != string(rune(kind)) || system != "" && m[2] != system {
			continue
		}
		number, _ := strconv.Atoi(m[4])
		if size, bytes, ok := says(data, id(rune(m[3][0]), number)); ok && len(bytes) == size {
			rows = append(rows, row{m[3], m[2], m[2] + " " + data, number})
		}
	}
	slices.SortFunc(rows, func(a, b row) int {
		return cmp.Or(cmp.Compare(a.grade, b.grade), cmp.Compare(a.number, b.number), cmp.Compare(a.system, b.system))
	})
	var l []string
	for _, r := range rows {
		l = append(l, r.told)
	}
	return l
}

var someSystems = []string{"duke", "a", "ab", "zzzzzzz"}

// anyTrial: what may be handed to a call, of few jobs, so that they meet.
func anyTrial(r *rand.Rand, d api.Disk) trial {
	j := sent(r.IntN(6))
	j.Id = id(rune("nNz"[r.IntN(3)]), 1+r.IntN(2)*9)
	j.Kind = 1 + r.IntN(3)
	if j.Kind == api.JobExec {
		j.Command = "rmail bob"
	}
	return trial{d, []int{'X', 'F'}[r.IntN(2)], someSystems[r.IntN(4)], j, strings.Repeat("\n", r.IntN(4))}
}

// spoil: d with one of x's files changed by another hand.
func spoil(r *rand.Rand, d api.Disk, x trial) api.Disk {
	gathers, comes := names(x)
	name := []string{gathers, comes}[r.IntN(2)]
	switch r.IntN(6) {
	case 0:
		d, _ = disk.Append(d, name, "x")
	case 1:
		d, _ = disk.Remove(d, name)
	case 2:
		d, _ = disk.Write(d, name, text(x.j)+"\n"+strings.Repeat("y", x.j.Size))
	case 3:
		d, _ = disk.Write(d, name, text(x.j)+[]string{"", "\nabc", " \n"}[r.IntN(3)])
	case 4:
		d, _ = disk.Write(d, name, "S n1 ann /a /b 3\nabc")
	case 5:
		d = disk.Room(d, []int{400, 800, api.MaxDisk, api.MaxDisk}[r.IntN(4)])
	}
	return d
}

// P19.1 to P19.7: disks with all sorts of files, held against the second writing.
func TestAgain(t *testing.T) {
	r := rand.New(rand.NewPCG(5, 6))
	seen := map[string]int{}
	for range 300 {
		d := made()
		for range 80 {
			x := anyTrial(r, d)
			if r.IntN(3) == 0 {
				x.d = spoil(r, d, x)
			}
			s := filesOf(x.d)
			at := r.IntN(4)
			want, e := []func(trial) (int, api.Errno){s.begin, s.more, s.finish, s.drop}[at](x)
			after, n, f := calls[at].do(x)
			if n != want || f != e || !slices.Equal(disk.Files(after), s.told()) {
				t.Fatalf("%s of %+v: %d, %d, %+v, want %d, %d, %+v", calls[at].what, x, n, f, disk.Files(after), want, e, s.told())
			}
			seen[fmt.Sprintf("%s %d %v", calls[at].what, e, n > 0)]++
			d = after
			for _, kind := range []int{'X', 'F'} {
				for _, system := range []string{"", x.system} {
					var got []string
					for _, h := range inbox.Came(d, kind, system) {
						got = append(got, h.System+" "+text(h.Job)+"\n"+h.Data)
					}
					if !slices.Equal(got, s.came(kind, system)) {
						t.Fatalf("Came of %q: %q, want %q", system, got, s.came(kind, system))
					}
				}
			}
			_, comes := names(x)
			if _, there := s.files[comes]; inbox.Has(d, x.kind, x.system, x.j.Id) != there {
				t.Fatalf("Has of %s: %v", comes, !there)
			}
		}
	}
	for _, what := range []string{"Begin 0 false", "Begin 0 true", "Begin 7 false", "Begin 8 false", "More 0 false", "More 5 false", "More 6 false", "More 8 false", "Finish 0 false", "Finish 2 false", "Finish 6 false", "Finish 7 false", "Drop 0 false", "Drop 6 false"} {
		if seen[what] < 10 {
			t.Errorf("%s was seen too seldom: %v", what, seen)
		}
	}
}

// transfer: a job on its way, the bytes that it has to bring, and how far it is.
type transfer struct {
	kind   int
	system string
	j      api.Job
	data   string
	begun  bool
	n      int // of the bytes
	came   bool
}

// file: the file that has what came of it.
func (w transfer) file() (api.File, bool) {
	gathers, comes := names(trial{kind: w.kind, system: w.system, j: w.j})
	switch {
	case w.came:
		return file(comes, text(w.j)+"\n"+w.data), true
	case w.begun:
		return file(gathers, text(w.j)+"\n"+w.data[:w.n]), true
	}
	return api.File{}, false
}

// shown: the files that transfers have.
func shown(l []transfer) []api.File {
	var files []api.File
	for _, w := range l {
		if f, there := w.file(); there {
			files = append(files, f)
		}
	}
	slices.SortFunc(files, func(a, b api.File) int { return strings.Compare(a.Name, b.Name) })
	return files
}

// step: a call of the transfer chosen by chance: d behind it, the transfer as it is if it was done, and the errors, the one that came and the one that is to come.
func (w transfer) step(r *rand.Rand, d api.Disk) (after api.Disk, next transfer, n int, e, want api.Errno) {
	x := trial{d, w.kind, w.system, w.j, w.data[w.n:min(w.n+r.IntN(4), len(w.data))]}
	next = w
	at := []int{0, 0, 1, 1, 1, 1, 1, 1, 2, 2, 2, 3}[r.IntN(12)]
	switch {
	case at == 0 && w.came:
		want = api.ErrThere
	case at == 0:
		next.begun = true
	case w.came || !w.begun:
		want = api.ErrNone
	case at == 1 && r.IntN(8) == 0:
		x.s, want = strings.Repeat("x", len(w.data)-w.n+1), api.ErrLong
	case at == 1:
		next.n += len(x.s)
	case at == 2 && w.n != len(w.data):
		want = api.ErrShort
	case at == 2:
		next.came = true
	case at == 3:
		next.begun, next.n = false, 0
	}
	after, n, e = calls[at].do(x)
	return after, next, n, e, want
}

// P19.8, P19.9, P19.10: walks of calls, some of which the power does not outlast: what is gathered is a beginning, told by Begin, what has come is whole and stays, and all other files are as they were.
func TestWalks(t *testing.T) {
	r := rand.New(rand.NewPCG(7, 8))
	lost, kept, came := 0, 0, 0
	for range 200 {
		var l []transfer
		for i := range 8 {
			j := sent(r.IntN(8))
			j.Id.Number = 1 + i/4 // four of each id: two kinds, two systems
			data := fmt.Sprintf("\n%d%d%d%d%d%d%d", i, i+1, i+2, i+3, i+4, i+5, i+6)[:j.Size]
			l = append(l, transfer{kind: kinds[i%2].kind, system: someSystems[i/2%2], j: j, data: data})
		}
		d := made()
		for range 150 {
			if r.IntN(3) == 0 {
				d = disk.Arm(d, r.IntN(3))
			}
			at := r.IntN(len(l))
			before := shown(l)
			after, next, n, e, want := l[at].step(r, d)
			if e != want && e != api.ErrDown || n != 0 && (e != api.OK || n != l[at].n) {
				t.Fatalf("a step of %+v: %d, error %d, want %d", l[at], n, e, want)
			}
			if e == api.ErrDown && want == api.OK {
				// What is not lost is synced, so that the next call begins on a disk of which nothing may be lost.
				if r.IntN(2) == 0 {
					after = disk.Crash(after, r.IntN(3))
				}
				after = must(disk.Sync(disk.Arm(disk.Start(after), -1)))
			}
			was := l[at]
			l[at] = next
			switch files := disk.Files(after); {
			case slices.Equal(files, shown(l)):
				kept++
			case slices.Equal(files, before) && e == api.ErrDown:
				l[at] = was
				lost++
			default:
				t.Fatalf("behind a step that answered %d: %+v, want %+v or %+v", e, files, shown(l), before)
			}
			d = after
			isWhole(t, d, l)
		}
		came += len(inbox.Came(d, 'X', "")) + len(inbox.Came(d, 'F', ""))
	}
	if lost < 500 || kept < 10000 || came < 500 {
		t.Errorf("too few calls were cut off, or done, or jobs came: %d, %d, %d", lost, kept, came)
	}
}

// isWhole: whether just the transfers that came are there, each with its bytes.
func isWhole(t *testing.T, d api.Disk, l []transfer) {
	t.Helper()
	for _, k := range kinds {
		var want []api.Held
		for _, w := range l {
			if w.came && w.kind == k.kind {
				want = append(want, api.Held{System: w.system, Job: w.j, Data: w.data})
			}
			if w.kind == k.kind && inbox.Has(d, w.kind, w.system, w.j.Id) != w.came {
				t.Fatalf("Has of %+v: %v", w, !w.came)
			}
		}
		slices.SortFunc(want, func(a, b api.Held) int {
			return cmp.Or(cmp.Compare(a.Job.Id.Number, b.Job.Id.Number), cmp.Compare(a.System, b.System))
		})
		if got := inbox.Came(d, k.kind, ""); !slices.Equal(got, want) {
			t.Fatalf("Came: %+v, want %+v", got, want)
		}
	}
}

// P19.10: a crash at each place of each call, with each beginning of what it did: all or nothing of it, and Begin tells how many bytes there are.
func TestCrashes(t *testing.T) {
	for _, k := range kinds {
		name := k.gathers + ".duke.n1"
		for _, begun := range []api.Disk{made(), made(file(name, "S n1 bob /a /b 5\nxyz")), made(file(name, "S n1 ann /a /b 5\nabc")), made(file(name, "S n1 ann /a /b 5\nabcde"))} {
			for _, c := range calls {
				x := trial{begun, k.kind, "duke", sent(5), "de"}
				whole, _, e := c.do(x)
				if e != api.OK {
					continue
				}
				seen := map[bool]int{}
				for lasts := range 3 {
					for keep := range 3 {
						x.d = disk.Arm(begun, lasts)
						cut, _, _ := c.do(x)
						d := disk.Start(disk.Crash(cut, keep))
						isDone := slices.Equal(disk.Files(d), disk.Files(whole))
						if !isDone && !slices.Equal(disk.Files(d), disk.Files(begun)) {
							t.Errorf("%s, lasting %d, %d kept: %+v", c.what, lasts, keep, disk.Files(d))
						}
						seen[isDone]++
						tellsHowMany(t, trial{d, k.kind, "duke", sent(5), ""}, name)
					}
				}
				if c.what != "Begin" && len(seen) != 2 {
					t.Errorf("%s of %+v: %v", c.what, disk.Files(begun), seen)
				}
			}
		}
	}
}

// tellsHowMany: whether Begin says how many bytes of abcde the file has, if it is one of the job.
func tellsHowMany(t *testing.T, x trial, name string) {
	t.Helper()
	s, _ := disk.Read(x.d, name)
	data, begun := strings.CutPrefix(s, "S n1 ann /a /b 5\n")
	if begun && !strings.HasPrefix("abcde", data) {
		t.Errorf("what is gathered: %q", data)
	}
	_, n, e := begin(x)
	switch has := inbox.Has(x.d, x.kind, x.system, x.j.Id); {
	case has:
		isAs(t, "Begin of what has come", []any{n, e}, []any{0, api.ErrThere})
	case begun:
		isAs(t, "Begin", []any{n, e}, []any{len(data), api.OK})
	default:
		isAs(t, "Begin anew", []any{n, e}, []any{0, api.OK})
	}
}
