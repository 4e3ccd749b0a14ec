package spool

import (
	"fmt"
	"math/rand/v2"
	"slices"
	"testing"

	"postchaise/api"
	"postchaise/disk"
)

// P18.3: by ids: grades by their bytes, then numbers as numbers; those of one id by their systems.
func TestOrder(t *testing.T) {
	ids := []api.Id{id('0', 5), id('9', 1), id('A', 100), id('Z', 9), id('a', 2), id('n', 1), id('n', 9), id('n', 10), id('n', 99999), id('z', 1)}
	systems := []string{"a", "a1", "ab", "b", "duke"}
	var all, failed []api.Held
	files := []api.File{file("N", "100")}
	for _, x := range ids {
		for _, system := range systems {
			j := as(wish(api.JobSend), x, 1)
			all = append(all, keeps(system, j, "x"))
			failed = append(failed, keeps(system, j, ""))
			behind, s := fmt.Sprintf(".%s.%c%d", system, x.Grade, x.Number), text(j)
			files = append(files, file("C"+behind, s), file("D"+behind, "x"), file("E"+behind, s))
		}
	}
	rand.New(rand.NewPCG(1, 2)).Shuffle(len(files), func(i, k int) { files[i], files[k] = files[k], files[i] })
	d := made(files...)
	isAs(t, "Jobs of all", Jobs(d, ""), all)
	isAs(t, "Failed of all", Failed(d, ""), failed)
	for _, system := range systems {
		isOthers := func(h api.Held) bool { return h.System != system }
		isAs(t, "Jobs of "+system, Jobs(d, system), slices.DeleteFunc(slices.Clone(all), isOthers))
		isAs(t, "Failed of "+system, Failed(d, system), slices.DeleteFunc(slices.Clone(failed), isOthers))
	}
	for _, system := range []string{"duk", "dukes", "Duke", "A", ".", "a.", "abc", "a.n1", "dukeduke", "*"} {
		if w, f := Jobs(d, system), Failed(d, system); len(w) != 0 || len(f) != 0 {
			t.Errorf("of %q: %+v, %+v", system, w, f)
		}
	}
}

// P18.3: of a disk that is down none; of one that was started those that are there.
func TestDown(t *testing.T) {
	d := made(one()...)
	down := disk.Crash(d, 0)
	for _, system := range []string{"", "duke"} {
		if w, f := Jobs(down, system), Failed(down, system); len(w) != 0 || len(f) != 0 {
			t.Errorf("of %q of a disk that is down: %+v, %+v", system, w, f)
		}
		isAs(t, "behind the start", len(Jobs(disk.Start(down), system)), 3)
		isAs(t, "behind the start", len(Failed(disk.Start(down), system)), 3)
	}
}

// P18.3: files count that are not synced, as they are behind all that was done.
func TestNotSynced(t *testing.T) {
	d := made(one()...)
	d = must(disk.Remove(d, "C.duke.n1"))
	d = must(disk.Append(d, "D.duke.n2", "f"))
	d = must(disk.Rename(d, "E.duke.n6", "C.duke.n6"))
	d = must(disk.Write(d, "E.duke.n1", "S n1 ann /a /b 3"))
	isAs(t, "Jobs", Jobs(d, ""), []api.Held{keeps("duke", as(wish(api.JobFetch), id('n', 3), 0), ""), keeps("duke", as(wish(api.JobFetch), id('n', 6), 0), "")})
	isAs(t, "how many failed", len(Failed(d, "")), 3)
}

// P18.4, P18.5: Load's errors, which Done and Fail answer too, with the disk as it was.
func TestLoadErrors(t *testing.T) {
	d := made(append(one(), file("C.duke.n8", "S n8 ann /a /b 3"), file("D.duke.n8", "ab"))...)
	down := disk.Crash(d, 0)
	for _, system := range []string{"duke", "duk", "a", "", "Duke", "dukeduke", "."} {
		for _, grade := range []rune{'n', 'N', 'm', 0, -1, 'n' + 256, '.'} {
			for _, number := range []int{-1, 0, 1, 2, 3, 4, 5, 6, 7, 8, 100000, 1 << 40} {
				x := id(grade, number)
				want := api.ErrNone
				if system == "duke" && grade == 'n' && number >= 1 && number <= 3 {
					want = api.OK
				}
				loadIs(t, d, system, x, want)
				loadIs(t, down, system, x, api.ErrDown)
			}
		}
	}
}

// loadIs: whether Load, Done and Fail answer that error, and behind one nothing else.
func loadIs(t *testing.T, d api.Disk, system string, x api.Id, want api.Errno) {
	t.Helper()
	h, e := Load(d, system, x)
	if e != want || (h == api.Held{}) != (want != api.OK) {
		t.Errorf("Load of %v of %q: %+v, %d, want %d", x, system, h, e, want)
	}
	for _, call := range []func(api.Disk, string, api.Id) (api.Disk, api.Errno){Done, Fail} {
		after, e := call(d, system, x)
		if e != want {
			t.Errorf("Done or Fail of %v of %q: %d, want %d", x, system, e, want)
		}
		if want != api.OK {
			isDisk(t, "beside an error", after, d)
		}
	}
}

// P18.5: what Done and Fail do, each thing in its place, of each kind of job, and of a fetch beside which bytes lie.
func TestEndDoes(t *testing.T) {
	old := api.DiskOp{Kind: api.DiskWrite, Name: "old", Data: "x"} // not synced ahead
	for _, c := range []struct {
		name  string
		x     api.Id
		bytes bool
	}{{"duke.n1", id('n', 1), true}, {"duke.n2", id('n', 2), true}, {"duke.n3", id('n', 3), false}, {"duke.n8", id('n', 8), true}} {
		begun := must(disk.Write(made(append(one(), file("C.duke.n8", "R n8 ann /a /b 0"), file("D.duke.n8", "abc"))...), "old", "x"))
		done := []api.DiskOp{old, {Kind: api.DiskRemove, Name: "C." + c.name}}
		fail := []api.DiskOp{old, {Kind: api.DiskRename, Name: "C." + c.name, To: "E." + c.name}}
		if c.bytes {
			op := api.DiskOp{Kind: api.DiskRemove, Name: "D." + c.name}
			done, fail = append(done, op), append(fail, op)
		}
		does(t, begun, done, func(d api.Disk) (api.Disk, api.Errno) { return Done(d, "duke", c.x) })
		does(t, begun, fail, func(d api.Disk) (api.Disk, api.Errno) { return Fail(d, "duke", c.x) })
	}
}

// P18.5: Fail takes the place of what had E's name; what is done or has failed waits no more.
func TestEnds(t *testing.T) {
	d := made(append(one(), file("E.duke.n1", "nonsense"))...)
	d = must(Fail(d, "duke", id('n', 1)))
	l := Failed(d, "duke")
	isAs(t, "Failed", l[0], keeps("duke", as(wish(api.JobSend), id('n', 1), 3), ""))
	isAs(t, "how many", []int{len(l), len(Jobs(d, ""))}, []int{4, 2})
	loadIs(t, d, "duke", id('n', 1), api.ErrNone)
	d = must(Done(d, "duke", id('n', 2)))
	loadIs(t, d, "duke", id('n', 2), api.ErrNone)
	isAs(t, "how many", []int{len(Failed(d, "")), len(Jobs(d, ""))}, []int{4, 1})
}

// P18.5: no room is asked for.
func TestEndWithoutRoom(t *testing.T) {
	d := disk.Room(made(one()...), 0)
	for _, call := range []func(api.Disk, string, api.Id) (api.Disk, api.Errno){Done, Fail} {
		if after, e := call(d, "duke", id('n', 1)); e != api.OK || len(Jobs(after, "")) != 2 {
			t.Errorf("without room: %d, %+v", e, Jobs(after, ""))
		}
	}
}

// R3: what is handed in is not changed, nor what lies behind its lists' ends; what is answered shares nothing with it.
func TestMemory(t *testing.T) {
	d := must(disk.Write(made(one()...), "old", "x"))
	spoilt := file("spoilt", "spoilt")
	op := api.DiskOp{Kind: 99, Name: "spoilt"}
	safe, ops := append(slices.Clone(d.Safe), spoilt, spoilt, spoilt), append(slices.Clone(d.Ops), op, op, op, op)
	roomy := d
	roomy.Safe, roomy.Ops = safe[:len(d.Safe)], ops[:len(d.Ops)]
	for lasts := -1; lasts < 5; lasts++ {
		for _, call := range []func(api.Disk) api.Disk{
			func(d api.Disk) api.Disk { d, _, _ = Queue(d, "duke", wish(api.JobSend), "abc"); return d },
			func(d api.Disk) api.Disk { d, _, _ = Queue(d, "duke", wish(api.JobFetch), ""); return d },
			func(d api.Disk) api.Disk { d, _ = Done(d, "duke", id('n', 1)); return d },
			func(d api.Disk) api.Disk { d, _ = Fail(d, "duke", id('n', 1)); return d },
		} {
			after := call(disk.Arm(roomy, lasts))
			kept := after
			kept.Safe, kept.Ops = slices.Clone(after.Safe), slices.Clone(after.Ops)
			again := call(disk.Arm(roomy, lasts)) // must not write where the first one's lists lie
			isDisk(t, "the same call once more", again, kept)
			isDisk(t, "behind the same call once more", after, kept)
		}
	}
	Jobs(roomy, "")[0] = api.Held{}
	Failed(roomy, "")[0] = api.Held{}
	isAs(t, "Jobs once more", len(Jobs(roomy, "")), 3)
	isDisk(t, "what was handed in", roomy, d)
	isAs(t, "behind its files", safe[len(d.Safe):], []api.File{spoilt, spoilt, spoilt})
	isAs(t, "behind its operations", ops[len(d.Ops):], []api.DiskOp{op, op, op, op})
}

// R1: disks that no call makes.
func TestAnyDisk(t *testing.T) {
	r := rand.New(rand.NewPCG(3, 4))
	names := []string{"", "N", "C.duke.n1", "D.duke.n1", "E.duke.n1", "C.duke.n2", "Z", "\x00"}
	datas := []string{"", "1", "5", "S n1 ann /a /b 3", "abc", "R n2 ann /a /b 0"}
	for range 3000 {
		d := api.Disk{Cap: r.IntN(400) - 20, Fuse: r.IntN(8) - 3, Down: r.IntN(8) == 0}
		for range r.IntN(8) {
			d.Safe = append(d.Safe, file(names[r.IntN(len(names))], datas[r.IntN(len(datas))]))
		}
		for range r.IntN(5) {
			d.Ops = append(d.Ops, api.DiskOp{Kind: r.IntN(7) - 1, Name: names[r.IntN(len(names))], To: names[r.IntN(len(names))], Data: datas[r.IntN(len(datas))]})
		}
		system := []string{"duke", "", "Duke"}[r.IntN(3)]
		x := id('n', r.IntN(4))
		Jobs(d, system)
		Failed(d, system)
		Load(d, system, x)
		Done(d, system, x)
		Fail(d, system, x)
		Queue(d, system, wish(r.IntN(5)), "abc")
	}
}
