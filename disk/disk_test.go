package disk

import (
	"maps"
	"math"
	"math/rand/v2"
	"slices"
	"strings"
	"testing"

	"postchaise/api"
)

// must: the disk of a call that has to be done.
func must(d api.Disk, e api.Errno) api.Disk {
	if e != api.OK {
		panic(e)
	}
	return d
}

func file(name, data string) api.File { return api.File{Name: name, Data: data} }

func write(name, data string) api.DiskOp {
	return api.DiskOp{Kind: api.DiskWrite, Name: name, Data: data}
}

func more(name, data string) api.DiskOp {
	return api.DiskOp{Kind: api.DiskAppend, Name: name, Data: data}
}

func rename(from, to string) api.DiskOp {
	return api.DiskOp{Kind: api.DiskRename, Name: from, To: to}
}

func remove(name string) api.DiskOp { return api.DiskOp{Kind: api.DiskRemove, Name: name} }

// call: the call that does op.
func call(d api.Disk, op api.DiskOp) (api.Disk, api.Errno) {
	switch op.Kind {
	case api.DiskWrite:
		return Write(d, op.Name, op.Data)
	case api.DiskAppend:
		return Append(d, op.Name, op.Data)
	case api.DiskRename:
		return Rename(d, op.Name, op.To)
	}
	return Remove(d, op.Name)
}

// made: a disk of much room with these files, synced, and these ops behind.
func made(safe []api.File, ops ...api.DiskOp) api.Disk {
	d := New(api.MaxDisk)
	for _, f := range safe {
		d = must(Write(d, f.Name, f.Data))
	}
	d = must(Sync(d))
	for _, op := range ops {
		d = must(call(d, op))
	}
	return d
}

// some: a disk with a (abc) and b (de) that are safe, and ops behind: a ends in f, c is new, b is gone.
func some() api.Disk {
	return made([]api.File{file("a", "abc"), file("b", "de")}, more("a", "f"), write("c", "gh"), remove("b"))
}

// copied: d with lists of its own.
func copied(d api.Disk) api.Disk {
	d.Safe, d.Ops = slices.Clone(d.Safe), slices.Clone(d.Ops)
	return d
}

// with: d, changed.
func with(d api.Disk, change func(*api.Disk)) api.Disk {
	d = copied(d)
	change(&d)
	return d
}

// alike: P6.7, written once more.
func alike(a, b api.Disk) bool {
	if len(a.Safe) != len(b.Safe) || len(a.Ops) != len(b.Ops) {
		return false
	}
	for i := range a.Safe {
		if a.Safe[i] != b.Safe[i] {
			return false
		}
	}
	for i := range a.Ops {
		if a.Ops[i] != b.Ops[i] {
			return false
		}
	}
	return a.Cap == b.Cap && a.Fuse == b.Fuse && a.Down == b.Down
}

// replay: P6.2's operations, written once more on a map.
func replay(safe []api.File, ops []api.DiskOp) map[string]string {
	files := map[string]string{}
	for _, f := range safe {
		files[f.Name] = f.Data
	}
	for _, op := range ops {
		switch op.Kind {
		case api.DiskWrite:
			files[op.Name] = op.Data
		case api.DiskAppend:
			files[op.Name] += op.Data
		case api.DiskRename:
			data := files[op.Name]
			delete(files, op.Name)
			files[op.To] = data
		case api.DiskRemove:
			delete(files, op.Name)
		}
	}
	return files
}

// sorted: the files of such a map, by rising names.
func sorted(files map[string]string) []api.File {
	var l []api.File
	for _, name := range slices.Sorted(maps.Keys(files)) {
		l = append(l, file(name, files[name]))
	}
	return l
}

func size(files map[string]string) int {
	n := 0
	for _, data := range files {
		n += len(data) + 16
	}
	return n
}

// P6.1
func TestNew(t *testing.T) {
	for room, want := range map[int]int{
		0: 0, 1: 1, 100: 100, 59999: 59999, 60000: 60000, 60001: 60000, 1 << 32: 60000, math.MaxInt: 60000, -1: 0, -60000: 0, math.MinInt: 0,
	} {
		if got := New(room); !alike(got, api.Disk{Cap: want, Fuse: -1}) {
			t.Errorf("New(%d): %+v", room, got)
		}
		if got, old := Room(some(), room), some(); !alike(got, with(old, func(d *api.Disk) { d.Cap = want })) { // P6.6
			t.Errorf("Room of %d: %+v", room, got)
		}
	}
	if d := New(100); len(Files(d)) != 0 || len(List(d)) != 0 || Used(d) != 0 {
		t.Errorf("a new disk has files: %v", Files(d))
	}
}

// namesAre: what Write, Append and Rename say of a name.
func namesAre(t *testing.T, name string, want api.Errno) {
	t.Helper()
	d := made([]api.File{file("old", "x")})
	for _, op := range []api.DiskOp{write(name, "y"), more(name, "y"), rename("old", name)} {
		after, e := call(d, op)
		if e != want || want != api.OK && !alike(after, d) {
			t.Errorf("%+v: %d, want %d; %+v", op, e, want, after)
		}
		if data, f := Read(after, name); want == api.OK && f != api.OK {
			t.Errorf("behind %+v: %q, %d", op, data, f)
		}
	}
}

// P6.1: each byte, alone and at each place of a name, and its length.
func TestNames(t *testing.T) {
	for c := range 256 {
		b := string([]byte{byte(c)})
		want := api.ErrName
		if c >= 33 && c <= 126 && c != '/' {
			want = api.OK
		}
		for _, name := range []string{b, b + "a", "a" + b, "a" + b + "a", strings.Repeat("a", 29) + b, b + strings.Repeat("a", 29)} {
			namesAre(t, name, want)
		}
	}
	for n := range 300 {
		want := api.OK
		if n < 1 || n > 30 {
			want = api.ErrName
		}
		namesAre(t, strings.Repeat("n", n), want)
	}
	for _, name := range []string{"é", "a/b", "/", "a b", " a", "a\n", strings.Repeat("é", 15), strings.Repeat("n", 100000)} {
		namesAre(t, name, api.ErrName)
	}
	for _, name := range []string{".", "..", "C.duke.n1", "~", "!", "\\", "*"} {
		namesAre(t, name, api.OK)
	}
}

// P6.2: what each operation leaves.
func TestFiles(t *testing.T) {
	safe := []api.File{file("a", "1"), file("c", "3")}
	for _, c := range []struct {
		what string
		ops  []api.DiskOp
		want []api.File
	}{
		{"nothing", nil, safe},
		{"write anew", []api.DiskOp{write("a", "xy")}, []api.File{file("a", "xy"), file("c", "3")}},
		{"write nothing", []api.DiskOp{write("a", "")}, []api.File{file("a", ""), file("c", "3")}},
		{"write ahead", []api.DiskOp{write("A", "0")}, []api.File{file("A", "0"), file("a", "1"), file("c", "3")}},
		{"write between", []api.DiskOp{write("b", "2")}, []api.File{file("a", "1"), file("b", "2"), file("c", "3")}},
		{"write behind", []api.DiskOp{write("d", "4")}, []api.File{file("a", "1"), file("c", "3"), file("d", "4")}},
		{"write a longer name", []api.DiskOp{write("aa", "0")}, []api.File{file("a", "1"), file("aa", "0"), file("c", "3")}},
		{"append", []api.DiskOp{more("a", "xy")}, []api.File{file("a", "1xy"), file("c", "3")}},
		{"append nothing", []api.DiskOp{more("a", "")}, safe},
		{"append to none", []api.DiskOp{more("b", "xy")}, []api.File{file("a", "1"), file("b", "xy"), file("c", "3")}},
		{"append nothing to none", []api.DiskOp{more("b", "")}, []api.File{file("a", "1"), file("b", ""), file("c", "3")}},
		{"append twice", []api.DiskOp{more("d", "x"), more("d", "y")}, []api.File{file("a", "1"), file("c", "3"), file("d", "xy")}},
		{"append to what was written", []api.DiskOp{write("a", "x"), more("a", "y")}, []api.File{file("a", "xy"), file("c", "3")}},
		{"write over what was appended", []api.DiskOp{more("a", "y"), write("a", "x")}, []api.File{file("a", "x"), file("c", "3")}},
		{"rename ahead", []api.DiskOp{rename("c", "A")}, []api.File{file("A", "3"), file("a", "1")}},
		{"rename to the end", []api.DiskOp{rename("a", "d")}, []api.File{file("c", "3"), file("d", "1")}},
		{"rename between", []api.DiskOp{rename("a", "b")}, []api.File{file("b", "1"), file("c", "3")}},
		{"rename over a later one", []api.DiskOp{rename("a", "c")}, []api.File{file("c", "1")}},
		{"rename over an earlier one", []api.DiskOp{rename("c", "a")}, []api.File{file("a", "3")}},
		{"rename to itself", []api.DiskOp{rename("a", "a")}, safe},
		{"rename and back", []api.DiskOp{rename("a", "z"), rename("z", "a")}, safe},
		{"turn about", []api.DiskOp{rename("a", "z"), rename("c", "a"), rename("z", "c")}, []api.File{file("a", "3"), file("c", "1")}},
		{"remove the first", []api.DiskOp{remove("a")}, []api.File{file("c", "3")}},
		{"remove the last", []api.DiskOp{remove("c")}, []api.File{file("a", "1")}},
		{"remove all", []api.DiskOp{remove("a"), remove("c")}, nil},
		{"remove and append", []api.DiskOp{remove("a"), more("a", "x")}, []api.File{file("a", "x"), file("c", "3")}},
		{"remove between", []api.DiskOp{write("b", "2"), remove("b")}, safe},
	} {
		d := made(safe, c.ops...)
		if got := Files(d); !slices.Equal(got, c.want) {
			t.Errorf("%s: Files: %v, want %v", c.what, got, c.want)
		}
		if !slices.Equal(d.Ops, c.ops) || !slices.Equal(d.Safe, safe) { // P6.3, P6.4
			t.Errorf("%s: the disk is %+v", c.what, d)
		}
		synced := must(Sync(d))
		if !alike(synced, api.Disk{Safe: c.want, Cap: d.Cap, Fuse: -1}) { // P6.5
			t.Errorf("%s: Sync: %+v", c.what, synced)
		}
		if got := Files(synced); !slices.Equal(got, c.want) {
			t.Errorf("%s: Files behind Sync: %v", c.what, got)
		}
	}
}

// P6.2: names rise byte by byte, in whichever order they come.
func TestFilesRise(t *testing.T) {
	names := []string{"!", "-", "0", "10", "2", "A", "B", "Z", "_", "a", "a!", "a.b", "aa", "ab", "b", "~", "~~"}
	shuffler := rand.New(rand.NewPCG(6, 2))
	for range 200 {
		d := New(60000)
		for _, i := range shuffler.Perm(len(names)) {
			d = must(Write(d, names[i], "x"))
		}
		if got := List(d); !slices.Equal(got, names) {
			t.Fatalf("List: %q", got)
		}
	}
}

// P6.2
func TestReadListUsed(t *testing.T) {
	d := some()
	for name, want := range map[string]string{"a": "abcf", "c": "gh"} {
		if got, e := Read(d, name); got != want || e != api.OK {
			t.Errorf("Read(%q): %q, %d, want %q", name, got, e, want)
		}
	}
	for _, name := range []string{"b", "d", "", "A", "aa", "a/b", " ", "\xff", strings.Repeat("a", 31)} {
		if got, e := Read(d, name); got != "" || e != api.ErrNone {
			t.Errorf("Read(%q): %q, %d", name, got, e)
		}
	}
	if got := List(d); !slices.Equal(got, []string{"a", "c"}) {
		t.Errorf("List: %q", got)
	}
	if got := Used(d); got != 4+2+16+16 {
		t.Errorf("Used: %d", got)
	}
	if got := Used(must(Write(New(100), "e", ""))); got != 16 {
		t.Errorf("Used of an empty file: %d", got)
	}
}

// P6.2 to P6.5: nothing is had from a disk that is down, and nothing done to it.
func TestDown(t *testing.T) {
	for _, d := range []api.Disk{Crash(some(), 3), with(some(), func(d *api.Disk) { d.Down = true }), with(some(), func(d *api.Disk) { d.Down, d.Fuse = true, 0 }), with(some(), func(d *api.Disk) { d.Down, d.Fuse, d.Cap = true, 5, 0 }), Crash(New(0), 0)} {
		if got, e := Read(d, "a"); got != "" || e != api.ErrDown {
			t.Errorf("Read: %q, %d", got, e)
		}
		if got, e := Read(d, "none"); got != "" || e != api.ErrDown {
			t.Errorf("Read of none: %q, %d", got, e)
		}
		if len(Files(d)) != 0 || len(List(d)) != 0 || Used(d) != 0 {
			t.Errorf("there are %v, %q, %d", Files(d), List(d), Used(d))
		}
		for _, op := range []api.DiskOp{
			write("a", "x"), write("/", "x"), write("a", strings.Repeat("x", 60000)), more("a", "x"), more("", ""), more("a", strings.Repeat("x", 60000)),
			rename("a", "x"), rename("a", "a"), rename("a", "/"), rename("none", "x"), remove("a"), remove("none"),
		} {
			if got, e := call(d, op); e != api.ErrDown || !alike(got, d) {
				t.Errorf("%+v: %d, %+v", op, e, got)
			}
		}
		if got, e := Sync(d); e != api.ErrDown || !alike(got, d) {
			t.Errorf("Sync: %d, %+v", e, got)
		}
	}
}

// fault: what may be wrong when an operation is called, and what is said of it.
type fault struct {
	answer api.Errno
	spoil  func(*api.Disk, *api.DiskOp)
}

// P6.3, P6.4, R2: of several faults the first one is told, whichever others there are; the disk is as it was, but that it goes down by its Fuse.
func TestErrorsInOrder(t *testing.T) {
	down := fault{api.ErrDown, func(d *api.Disk, _ *api.DiskOp) { d.Down = true }}
	full := fault{api.ErrFull, func(d *api.Disk, _ *api.DiskOp) { d.Cap = 10 }}
	fuse := fault{api.ErrDown, func(d *api.Disk, _ *api.DiskOp) { d.Fuse = 0 }}
	name := fault{api.ErrName, func(_ *api.Disk, op *api.DiskOp) { op.Name = "a b" }}
	to := fault{api.ErrName, func(_ *api.Disk, op *api.DiskOp) { op.To = "a/b" }}
	none := fault{api.ErrNone, func(_ *api.Disk, op *api.DiskOp) { op.Name = "none" }}
	for _, c := range []struct {
		op     api.DiskOp
		faults []fault
	}{
		{write("a", "xyz"), []fault{down, name, full, fuse}},
		{write("new", "xyz"), []fault{down, name, full, fuse}},
		{more("a", "xyz"), []fault{down, name, full, fuse}},
		{more("new", "xyz"), []fault{down, name, full, fuse}},
		{rename("a", "new"), []fault{down, to, none, fuse}},
		{rename("a", "c"), []fault{down, to, none, fuse}},
		{rename("a", "a"), []fault{down, to, none, fuse}},
		{remove("a"), []fault{down, none, fuse}},
	} {
		for set := range 1 << len(c.faults) {
			d, op, want, last := some(), c.op, api.OK, -1
			for i, f := range c.faults {
				if set>>i&1 == 0 {
					continue
				}
				f.spoil(&d, &op)
				if want == api.OK {
					want, last = f.answer, i
				}
			}
			after := copied(d)
			switch {
			case want == api.OK:
				after.Ops = append(after.Ops, op)
			case last == len(c.faults)-1:
				after.Down = true
			}
			if got, e := call(d, op); e != want || !alike(got, after) {
				t.Errorf("%+v, faults %b: %d, want %d; %+v, want %+v", op, set, e, want, got, after)
			}
		}
	}
}

// P6.3: a file more, a file written anew and one appended to, with just the room that they need and with one byte less.
func TestFull(t *testing.T) {
	for _, c := range []struct {
		op   api.DiskOp
		need int
	}{
		{write("x", ""), 38 + 16}, {write("x", "1234"), 38 + 20}, {write("a", "1234567890"), 38 + 6}, {write("a", "1234"), 38}, {write("a", "1"), 38 - 3}, {write("a", ""), 38 - 4}, {write("b", "12"), 38 + 18},
		{more("x", ""), 38 + 16}, {more("x", "1234"), 38 + 20}, {more("a", "1234567890"), 38 + 10}, {more("a", ""), 38}, {more("b", "12"), 38 + 18},
		{write("x", strings.Repeat("z", 5000)), 38 + 5016}, {more("a", strings.Repeat("z", 59962)), 60000},
	} {
		for room, want := range map[int]api.Errno{c.need: api.OK, c.need - 1: api.ErrFull, c.need - 2: api.ErrFull, 0: api.ErrFull, 60000: api.OK} {
			d := Room(some(), room)
			got, e := call(d, c.op)
			if e != want || want != api.OK && !alike(got, d) || want == api.OK && Used(got) != c.need {
				t.Errorf("kind %d of %q, %d bytes, with room for %d: %d, want %d", c.op.Kind, c.op.Name, len(c.op.Data), room, e, want)
			}
		}
	}
	for _, op := range []api.DiskOp{write("x", strings.Repeat("z", 59985)), more("x", strings.Repeat("z", 59985)), write("x", strings.Repeat("z", 1<<20))} {
		if got, e := call(New(math.MaxInt), op); e != api.ErrFull || !alike(got, New(60000)) {
			t.Errorf("%d bytes: %d", len(op.Data), e)
		}
	}
	if d, e := Write(New(60000), "x", strings.Repeat("z", 59984)); e != api.OK || Used(d) != 60000 {
		t.Errorf("all the room: %d, Used %d", e, Used(d))
	}
}

// P6.3: as many files without bytes as a disk may have, and none more.
func TestFullOfFiles(t *testing.T) {
	d := New(60000)
	name := func(i int) string {
		return "f" + string(rune('a'+i/200)) + string(rune('A'+i/10%20)) + string(rune('0'+i%10))
	}
	for i := range 3750 {
		d = must(Write(d, name(i), ""))
		if i%100 == 0 {
			d = must(Sync(d))
		}
	}
	if got, e := Write(d, "one-more", ""); e != api.ErrFull || !alike(got, d) || Used(d) != 60000 || len(List(d)) != 3750 {
		t.Errorf("one more: %d, Used %d", e, Used(d))
	}
	if _, e := Write(must(Remove(d, name(17))), "one-more", ""); e != api.OK {
		t.Errorf("one for another: %d", e)
	}
}

// P6.4, P6.5: on a disk that has more than its room files may still get names, go, and be synced.
func TestNoRoomAsked(t *testing.T) {
	d := Room(some(), 0)
	for _, op := range []api.DiskOp{rename("a", "longer-than-it-was"), rename("a", "c"), rename("a", "a"), remove("a")} {
		if got, e := call(d, op); e != api.OK || !slices.Equal(got.Ops, append(copied(d).Ops, op)) {
			t.Errorf("%+v: %d, %+v", op, e, got)
		}
	}
	if got, e := Sync(d); e != api.OK || !slices.Equal(got.Safe, Files(d)) || got.Cap != 0 {
		t.Errorf("Sync: %d, %+v", e, got)
	}
}

// P6.3 to P6.6: an armed disk does so many operations, of whichever kinds, and none more.
func TestFuse(t *testing.T) {
	steps := []func(api.Disk) (api.Disk, api.Errno){
		func(d api.Disk) (api.Disk, api.Errno) { return Write(d, "x", "1") },
		func(d api.Disk) (api.Disk, api.Errno) { return Append(d, "x", "2") },
		Sync,
		func(d api.Disk) (api.Disk, api.Errno) { return Rename(d, "x", "y") },
		func(d api.Disk) (api.Disk, api.Errno) { return Rename(d, "y", "y") },
		Sync,
		Sync,
		func(d api.Disk) (api.Disk, api.Errno) { return Remove(d, "y") },
		Sync,
	}
	for n := range len(steps) + 3 {
		d, free := Arm(some(), n), some()
		for i, step := range steps {
			after, e := step(d)
			if i >= n {
				if e != api.ErrDown || !alike(after, with(d, func(d *api.Disk) { d.Down = true })) || after.Fuse != 0 {
					t.Fatalf("armed with %d, step %d: %d, %+v", n, i, e, after)
				}
				break
			}
			free = must(step(free))
			if free.Fuse != -1 {
				t.Fatalf("a disk that is not armed: %+v", free)
			}
			if e != api.OK || !alike(after, with(free, func(d *api.Disk) { d.Fuse = n - i - 1 })) {
				t.Fatalf("armed with %d, step %d: %d, %+v", n, i, e, after)
			}
			d = after
		}
	}
}

// P6.3 to P6.5: what is wrong otherwise, and what is only asked, takes nothing of the Fuse.
func TestFuseIsKept(t *testing.T) {
	for _, n := range []int{-1, 0, 1, 7} {
		d := Arm(Room(some(), 40), n)
		for _, op := range []api.DiskOp{write("/", ""), write("x", "12345"), more("/", ""), more("x", "12345"), more("a", "123"), rename("a", ""), rename("none", "x"), rename("b", "b"), remove("none"), remove("b")} {
			if got, e := call(d, op); e == api.OK || e == api.ErrDown || !alike(got, d) {
				t.Errorf("%+v at %d: %d, %+v", op, n, e, got)
			}
		}
		if got, e := Read(d, "a"); got != "abcf" || e != api.OK || len(List(d)) != 2 || Used(d) != 38 {
			t.Errorf("at %d: %q, %d", n, got, e)
		}
	}
}

// P6.6
func TestArm(t *testing.T) {
	for n, want := range map[int]int{-1: -1, 0: 0, 1: 1, 2: 2, 1000: 1000, math.MaxInt: math.MaxInt, -2: -1, -1000: -1, math.MinInt: -1} {
		for _, d := range []api.Disk{New(9), some(), Arm(some(), 3), Crash(some(), 1), with(some(), func(d *api.Disk) { d.Down, d.Fuse = true, 0 })} {
			if got := Arm(d, n); !alike(got, with(d, func(d *api.Disk) { d.Fuse = want })) {
				t.Errorf("Arm with %d: %+v", n, got)
			}
		}
	}
	d := must(Write(Arm(New(100), math.MaxInt), "a", ""))
	if d.Fuse != math.MaxInt-1 {
		t.Errorf("the greatest Fuse, one less: %d", d.Fuse)
	}
}

// P6.5
func TestSync(t *testing.T) {
	d := some()
	got, e := Sync(d)
	want := api.Disk{Safe: []api.File{file("a", "abcf"), file("c", "gh")}, Cap: 60000, Fuse: -1}
	if e != api.OK || !alike(got, want) {
		t.Errorf("Sync: %d, %+v", e, got)
	}
	if again, e := Sync(got); e != api.OK || !alike(again, want) {
		t.Errorf("Sync anew: %d, %+v", e, again)
	}
	if got, e := Sync(Arm(d, 0)); e != api.ErrDown || !alike(got, with(Arm(d, 0), func(d *api.Disk) { d.Down = true })) {
		t.Errorf("Sync at its end: %d, %+v", e, got)
	}
}

// P6.6, P6.9: so many as are kept, from the first one on.
func TestCrash(t *testing.T) {
	stages := [][]api.File{
		{file("a", "abc"), file("b", "de")},
		{file("a", "abcf"), file("b", "de")},
		{file("a", "abcf"), file("b", "de"), file("c", "gh")},
		{file("a", "abcf"), file("c", "gh")},
	}
	disks := []api.Disk{some(), Arm(some(), 0), Arm(some(), 4), with(some(), func(d *api.Disk) { d.Down, d.Fuse = true, 0 })}
	for keep, done := range map[int]int{0: 0, 1: 1, 2: 2, 3: 3, 4: 3, 1000: 3, math.MaxInt: 3, -1: 0, -3: 0, math.MinInt: 0} {
		for _, d := range disks {
			got := Crash(d, keep)
			if !alike(got, api.Disk{Safe: stages[done], Cap: 60000, Fuse: -1, Down: true}) {
				t.Errorf("Crash of %d: %+v", keep, got)
			}
			if again := Crash(got, 2); !alike(again, got) {
				t.Errorf("Crash of %d, and anew: %+v", keep, again)
			}
			if up := Start(got); !slices.Equal(Files(up), stages[done]) || up.Down {
				t.Errorf("Crash of %d, and Start: %+v", keep, up)
			}
		}
	}
}

// P6.6: Start gives nothing back and takes nothing away but that the disk is down.
func TestStart(t *testing.T) {
	for _, d := range []api.Disk{New(5), some(), Arm(some(), 2), Crash(some(), 1), Crash(New(7), 0)} {
		if got := Start(d); !alike(got, with(d, func(d *api.Disk) { d.Down = false })) {
			t.Errorf("Start: %+v", got)
		}
	}
	// One that went down by its Fuse has its Ops, and its Fuse, still.
	d, e := Write(Arm(some(), 0), "x", "1")
	if up := Start(d); e != api.ErrDown || !alike(up, Arm(some(), 0)) || !slices.Equal(List(up), []string{"a", "c"}) {
		t.Errorf("Start behind the Fuse: %d, %+v", e, up)
	}
}

// P6.7
func TestSame(t *testing.T) {
	changes := []func(*api.Disk){
		func(*api.Disk) {},
		func(d *api.Disk) { d.Cap++ },
		func(d *api.Disk) { d.Fuse++ },
		func(d *api.Disk) { d.Down = true },
		func(d *api.Disk) { d.Safe[0].Name = "A" },
		func(d *api.Disk) { d.Safe[1].Data += "x" },
		func(d *api.Disk) { d.Safe = d.Safe[:1] },
		func(d *api.Disk) { d.Safe = d.Safe[1:] },
		func(d *api.Disk) { d.Safe = append(d.Safe, file("z", "")) },
		func(d *api.Disk) { d.Safe = nil },
		func(d *api.Disk) { d.Ops[0].Kind = api.DiskWrite },
		func(d *api.Disk) { d.Ops[0].Name = "b" },
		func(d *api.Disk) { d.Ops[1].Data = "" },
		func(d *api.Disk) { d.Ops[2].To = "x" },
		func(d *api.Disk) { d.Ops[0], d.Ops[1] = d.Ops[1], d.Ops[0] },
		func(d *api.Disk) { d.Ops = d.Ops[:2] },
		func(d *api.Disk) { d.Ops = append(d.Ops, rename("a", "a")) },
		func(d *api.Disk) { d.Ops = nil },
	}
	for i, one := range changes {
		for k, other := range changes {
			a, b := with(some(), one), with(some(), other)
			if got := Same(a, b); got != (i == k) {
				t.Errorf("Same of the changes %d and %d: %v", i, k, got)
			}
		}
	}
	// Disks with the same files are the same only if they have them in the same way.
	if d := some(); Same(d, must(Sync(d))) || Same(d, Start(Crash(d, 3))) {
		t.Errorf("a disk is the same as it is synced")
	}
	// R3: no list and an empty one.
	if !Same(api.Disk{}, api.Disk{Safe: []api.File{}, Ops: []api.DiskOp{}}) || !Same(api.Disk{Safe: []api.File{}, Ops: []api.DiskOp{}}, api.Disk{}) {
		t.Errorf("nil lists are not the same as empty ones")
	}
}

// walk: disks that random calls make one from the other; look sees each call that is an operation.
func walk(seed uint64, steps int, look func(before, after api.Disk, op api.DiskOp, e api.Errno)) {
	dice := rand.New(rand.NewPCG(6, seed))
	names := []string{"a", "b", "c", "d", "ab", "N", "C.duke.n1", "", "x/y"}
	name := func() string { return names[dice.IntN(len(names))] }
	d := New(60 + dice.IntN(200))
	for range steps {
		before, op, e := d, api.DiskOp{}, api.OK
		switch kind := dice.IntN(30); {
		case kind < 8:
			op = write(name(), strings.Repeat(string(rune('a'+dice.IntN(26))), dice.IntN(30)))
		case kind < 14:
			op = more(name(), strings.Repeat(string(rune('A'+dice.IntN(26))), dice.IntN(9)))
		case kind < 20:
			op = rename(name(), name())
		case kind < 23:
			op = remove(name())
		case kind < 26:
			d, e = Sync(d)
		case kind < 27:
			d = Room(d, 60+dice.IntN(200))
		case kind < 28:
			d = Arm(d, dice.IntN(9)-1)
		default:
			d = Start(Crash(d, dice.IntN(len(d.Ops)+1)))
		}
		if op.Kind != 0 {
			d, e = call(d, op)
		}
		look(before, d, op, e)
	}
}

// answers: P6.3 and P6.4's errors, written once more.
func answers(d api.Disk, op api.DiskOp) api.Errno {
	files := replay(d.Safe, d.Ops)
	_, there := files[op.Name]
	named := func(s string) bool { return s != "" && s != "x/y" }
	fills := op.Kind == api.DiskWrite || op.Kind == api.DiskAppend
	switch {
	case d.Down:
		return api.ErrDown
	case fills && !named(op.Name), op.Kind == api.DiskRename && !named(op.To):
		return api.ErrName
	case fills && size(replay(d.Safe, append(slices.Clone(d.Ops), op))) > d.Cap:
		return api.ErrFull
	case !fills && !there:
		return api.ErrNone
	case d.Fuse == 0:
		return api.ErrDown
	}
	return api.OK
}

// P6.2 to P6.4, P6.10: walks of many steps, held against the map; an operation changes no file that it does not name, and one that answers an error none.
func TestWalks(t *testing.T) {
	done := map[api.Errno]int{}
	for seed := range uint64(60) {
		walk(seed, 400, func(before, after api.Disk, op api.DiskOp, e api.Errno) {
			files := replay(after.Safe, after.Ops)
			if !after.Down && (!slices.Equal(Files(after), sorted(files)) || Used(after) != size(files) || !slices.Equal(List(after), slices.Sorted(maps.Keys(files)))) {
				t.Fatalf("Files(%+v): %v", after, Files(after))
			}
			if op.Kind == 0 {
				return
			}
			done[e]++
			if want := answers(before, op); e != want {
				t.Fatalf("%+v to %+v: %d, want %d", op, before, e, want)
			}
			was := replay(before.Safe, before.Ops)
			for name, data := range files {
				if old, there := was[name]; (!there || old != data) && (e != api.OK || name != op.Name && name != op.To) {
					t.Fatalf("%+v, answered %d, changed %q from %q to %q", op, e, name, old, data)
				}
			}
			for name := range was {
				if _, there := files[name]; !there && (e != api.OK || name != op.Name) {
					t.Fatalf("%+v, answered %d, took %q away", op, e, name)
				}
			}
		})
	}
	for _, e := range []api.Errno{api.OK, api.ErrDown, api.ErrName, api.ErrNone, api.ErrFull} {
		if done[e] < 100 {
			t.Errorf("only %d operations answered %d", done[e], e)
		}
	}
}

// P6.8, P6.9: wherever the power goes, the files are those behind a beginning of what was done since the last Sync, and what nothing was done to is as it was synced.
func TestCrashAnywhere(t *testing.T) {
	for seed := range uint64(40) {
		synced, since := []api.File(nil), []api.DiskOp(nil)
		walk(1000+seed, 200, func(before, after api.Disk, op api.DiskOp, e api.Errno) {
			switch {
			case e == api.OK && op.Kind != 0:
				since = append(since, op)
			case len(after.Ops) == 0: // a Sync, or a crash: all that is there is safe
				synced, since = Files(Start(after)), nil
			}
			for keep := range len(since) + 1 {
				got := Files(Start(Crash(after, keep)))
				if !slices.Equal(got, sorted(replay(synced, since[:keep]))) {
					t.Fatalf("%d kept of %+v: %v", keep, after, got)
				}
				for _, f := range synced {
					touched := slices.ContainsFunc(since, func(op api.DiskOp) bool { return op.Name == f.Name || op.To == f.Name })
					if !touched && !slices.Contains(got, f) {
						t.Fatalf("%d kept of %+v: %v is not there", keep, after, f)
					}
				}
			}
		})
	}
}

// The chapter's examples.
func TestExamples(t *testing.T) {
	d := must(Append(must(Sync(must(Write(New(100), "a", "xy")))), "a", "z"))
	if got, e := Read(Start(Crash(d, 0)), "a"); got != "xy" || e != api.OK {
		t.Errorf("a as it was synced: %q, %d", got, e)
	}
	d = must(Write(Arm(d, 1), "b", "1"))
	if got, e := Write(d, "c", "1"); e != api.ErrDown || !got.Down {
		t.Errorf("Arm 1, the second Write: %d, %+v", e, got)
	}
	d = some()
	if got := must(Rename(d, "a", "a")); !slices.Equal(Files(got), Files(d)) {
		t.Errorf("Rename to its own name: %v", Files(got))
	}
}

// calls: each call that answers a disk.
func calls() []func(api.Disk) api.Disk {
	op := func(op api.DiskOp) func(api.Disk) api.Disk {
		return func(d api.Disk) api.Disk {
			after, _ := call(d, op)
			return after
		}
	}
	return []func(api.Disk) api.Disk{
		op(write("a", "new")), op(write("b", "new")), op(more("a", "new")), op(more("A", "new")), op(rename("a", "z")), op(rename("c", "A")), op(rename("a", "c")), op(remove("a")), op(remove("c")), op(remove("none")), op(write("/", "")),
		func(d api.Disk) api.Disk { after, _ := Sync(d); return after },
		func(d api.Disk) api.Disk { return Crash(d, 0) },
		func(d api.Disk) api.Disk { return Crash(d, 1) },
		func(d api.Disk) api.Disk { return Crash(d, 9) },
		func(d api.Disk) api.Disk { return Arm(d, 3) },
		func(d api.Disk) api.Disk { return Room(d, 3) },
		Start,
		func(d api.Disk) api.Disk { clear(Files(d)); return d },
		func(d api.Disk) api.Disk { clear(List(d)); return d },
		func(d api.Disk) api.Disk { Read(d, "a"); Used(d); Same(d, d); return d },
	}
}

// roomy: some(), with things behind the ends of its lists.
func roomy() api.Disk {
	d := some()
	d.Safe = append(slices.Clone(d.Safe), file("s1", "safe"), file("s2", "safe"))[:len(d.Safe)]
	d.Ops = append(slices.Clone(d.Ops), write("o1", "op"), write("o2", "op"))[:len(d.Ops)]
	return d
}

// R3: nothing handed in is changed, nor the room behind its lists.
func TestMemoryHandedIn(t *testing.T) {
	for i, do := range calls() {
		d := roomy()
		safe, ops := slices.Clone(d.Safe[:len(d.Safe)+2]), slices.Clone(d.Ops[:len(d.Ops)+2])
		do(d)
		if !alike(d, some()) || !slices.Equal(d.Safe[:len(safe)], safe) || !slices.Equal(d.Ops[:len(ops)], ops) {
			t.Errorf("call %d has changed what it was handed: %v, %v", i, d.Safe[:len(safe)], d.Ops[:len(ops)])
		}
	}
}

// R3: lists that a call has changed share no memory with those that were handed in: two disks made from one do not touch one another.
func TestMemoryAnswered(t *testing.T) {
	for i, one := range calls() {
		for k, other := range calls() {
			d := roomy()
			want := one(some())
			got := one(d)
			other(d)
			other(got)
			if !alike(got, want) {
				t.Errorf("call %d behind call %d: %+v, want %+v", k, i, got, want)
			}
		}
		d := roomy()
		got := one(d)
		safe, ops := Same(api.Disk{Safe: got.Safe}, api.Disk{Safe: d.Safe}), Same(api.Disk{Ops: got.Ops}, api.Disk{Ops: d.Ops})
		clear(got.Safe)
		clear(got.Ops)
		if !safe && !alike(api.Disk{Safe: d.Safe}, api.Disk{Safe: some().Safe}) || !ops && !alike(api.Disk{Ops: d.Ops}, api.Disk{Ops: some().Ops}) {
			t.Errorf("call %d answers memory that it was handed", i)
		}
	}
	// What is asked is new memory, even where the disk has it just so.
	d := must(Sync(some()))
	clear(Files(d))
	clear(List(d))
	if !alike(d, must(Sync(some()))) {
		t.Errorf("the disk's files have changed: %+v", d)
	}
}

// R1: disks that no call makes.
func TestStrangeDisks(t *testing.T) {
	for _, d := range []api.Disk{
		{},
		{Safe: []api.File{file("b", "1"), file("a", "2"), file("b", "3"), file("", ""), file("/", "\xff")}, Cap: math.MaxInt, Fuse: math.MinInt},
		{Ops: []api.DiskOp{{}, {Kind: -1, Name: "a"}, {Kind: 5}, {Kind: math.MaxInt}, rename("none", "a"), rename("none", "none"), remove("none"), write("", ""), more("\x00", "x"), rename("", "/")}, Cap: math.MinInt, Fuse: math.MaxInt},
		{Safe: []api.File{file("z", ""), file("a", ""), file("m", "")}, Ops: []api.DiskOp{rename("a", "z"), remove("z"), remove("m"), rename("m", "a"), more("z", "q")}, Cap: 1000, Fuse: 2, Down: true},
	} {
		before := copied(d)
		for _, up := range []api.Disk{d, Start(d)} {
			for _, op := range []api.DiskOp{write("a", "x"), write("", ""), more("z", "x"), rename("a", "b"), rename("", ""), rename("z", "a"), remove("a"), remove("")} {
				after, _ := call(up, op)
				Files(after)
			}
			for _, keep := range []int{math.MinInt, -1, 0, 1, 3, math.MaxInt} {
				List(Start(Crash(up, keep)))
			}
			after, _ := Sync(up)
			Used(Room(Arm(after, math.MinInt), math.MinInt))
			Read(after, "a")
			Same(after, up)
		}
		if !alike(before, d) {
			t.Errorf("%+v has changed into %+v", before, d)
		}
	}
}
