package backoff_test

import (
	"fmt"
	"strings"
	"testing"

	"postchaise/api"
	"postchaise/backoff"
	"postchaise/disk"
	"postchaise/mend"
)

// must: the disk of a call that has to be done.
func must(d api.Disk, e api.Errno) api.Disk {
	if e != api.OK {
		panic(e)
	}
	return d
}

func file(name, data string) api.File { return api.File{Name: name, Data: data} }

// made: a disk of all room with these files, synced.
func made(files ...api.File) api.Disk {
	d := disk.New(api.MaxDisk)
	for _, f := range files {
		d = must(disk.Write(d, f.Name, f.Data))
	}
	return must(disk.Sync(d))
}

func down(d api.Disk) api.Disk {
	d.Down = true
	return d
}

// isDisk: whether got is want, field by field.
func isDisk(t *testing.T, what string, got, want api.Disk) {
	t.Helper()
	if !disk.Same(got, want) {
		t.Errorf("%s: %.2000v, want %.2000v", what, got, want)
	}
}

func status(fails, last, why int) api.Status {
	return api.Status{Fails: fails, Last: last, Why: api.Errno(why)}
}

// call: a call that notes something of a system, something that it may note and what the note says then, and things that it may not.
type call struct {
	what string
	do   func(d api.Disk, system string) (api.Disk, api.Errno)
	file string // of the system duke
	says string
	bad  []func(d api.Disk, system string) (api.Disk, api.Errno)
}

func put(s api.Status) func(api.Disk, string) (api.Disk, api.Errno) {
	return func(d api.Disk, system string) (api.Disk, api.Errno) { return backoff.Put(d, system, s) }
}

func setTurn(n int) func(api.Disk, string) (api.Disk, api.Errno) {
	return func(d api.Disk, system string) (api.Disk, api.Errno) { return backoff.SetTurn(d, system, n) }
}

type change = func(api.Disk, string) (api.Disk, api.Errno)

func calls() []call {
	return []call{
		{"Put", put(status(3, 40, 10)), "S.duke", "3 40 10", []change{
			put(status(-1, 0, 0)), put(status(1001, 0, 0)), put(status(least, 0, 0)), put(status(most, 0, 0)),
			put(status(0, -1, 0)), put(status(0, api.MaxNumber+1, 0)), put(status(0, least, 0)), put(status(0, most, 0)),
			put(status(0, 0, -1)), put(status(0, 0, 100)), put(status(0, 0, least)), put(status(0, 0, most)),
			put(status(-1, -1, -1)), put(status(1001, api.MaxNumber+1, 100)),
		}},
		{"SetTurn", setTurn(77), "Q.duke", "77", []change{
			setTurn(-1), setTurn(api.MaxNumber + 1), setTurn(least), setTurn(most),
		}},
	}
}

// noSystems: texts that no system may be called.
var noSystems = []string{"", "Duke", "1duke", "toolong8", "a.b", "a b", "a/b", "\x00", "dük", ".", "du\n"}

// P21.6: what is noted is what Get answers, at the edges of each number.
func TestPutGet(t *testing.T) {
	for _, fails := range []int{0, 1, 9, 10, 999, 1000} {
		for _, last := range []int{0, 1, 40, 999999999999, api.MaxNumber - 1, api.MaxNumber} {
			for _, why := range []int{0, 1, 13, 14, 98, 99} {
				s := status(fails, last, why)
				for _, system := range []string{"duke", "a", "z234567"} {
					d, e := backoff.Put(made(file("N", "5")), system, s)
					isAs(t, "Put", e, api.OK)
					isDisk(t, "Put", d, made(file("N", "5"), file("S."+system, fmt.Sprintf("%d %d %d", fails, last, why))))
					isAs(t, "Get", backoff.Get(d, system), s)
				}
			}
		}
	}
}

// P21.7: what is noted is what Turn answers, at the number's edges.
func TestSetTurnTurn(t *testing.T) {
	for _, n := range []int{0, 1, 9, 10, 999999999999, api.MaxNumber - 1, api.MaxNumber} {
		for _, system := range []string{"duke", "a", "z234567"} {
			d, e := backoff.SetTurn(made(file("N", "5")), system, n)
			isAs(t, "SetTurn", e, api.OK)
			isDisk(t, "SetTurn", d, made(file("N", "5"), file("Q."+system, fmt.Sprint(n))))
			isAs(t, "Turn", backoff.Turn(d, system), n)
		}
	}
}

// P21.6, P21.7: each system has notes of its own, and those of the one kind are not those of the other; a new one is in the place of the old one.
func TestNotesApart(t *testing.T) {
	d := made()
	for n, system := range []string{"duke", "duk", "dukes", "a"} {
		isAs(t, "ahead of it", []any{backoff.Get(d, system), backoff.Turn(d, system)}, []any{api.Status{}, 0})
		for m := range 3 {
			d = must(backoff.SetTurn(d, system, 100*n+m))
			d = must(backoff.Put(d, system, status(n, m, 7)))
		}
	}
	for n, system := range []string{"duke", "duk", "dukes", "a"} {
		isAs(t, system, []any{backoff.Get(d, system), backoff.Turn(d, system)}, []any{status(n, 2, 7), 100*n + 2})
	}
	isAs(t, "how many files", len(d.Safe), 8)
}

// P21.6, P21.7: the errors in their order: the system's, then the number's, then the disk's; the disk is as it was.
func TestNoteErrors(t *testing.T) {
	full := made(file("a", strings.Repeat("x", api.MaxDisk-16)))
	unsynced := must(disk.Append(made(file("N", "5")), "N", "6"))
	for _, c := range calls() {
		for _, d := range []api.Disk{made(), unsynced, full, down(made()), down(unsynced), disk.Arm(made(), 0)} {
			for _, system := range noSystems {
				for _, do := range append(c.bad, c.do) {
					behind, e := do(d, system)
					isAs(t, c.what+" of "+system, e, api.ErrName)
					isDisk(t, c.what+" of "+system, behind, d)
				}
			}
			for n, do := range c.bad {
				behind, e := do(d, "duke")
				isAs(t, fmt.Sprint(c.what, " of what may not be ", n), e, api.ErrArg)
				isDisk(t, c.what+" of what may not be", behind, d)
			}
		}
		for d, want := range map[*api.Disk]api.Errno{{Down: true, Cap: 100, Fuse: -1}: api.ErrDown, &full: api.ErrFull} {
			behind, e := c.do(*d, "duke")
			isAs(t, c.what+" on no disk for it", e, want)
			isDisk(t, c.what+" on no disk for it", behind, *d)
		}
	}
}

// P21.6, P21.7: the disk's room, to the byte: for a new note, and for one in the place of another.
func TestNoteRoom(t *testing.T) {
	for _, c := range calls() {
		for _, begun := range []api.Disk{made(), made(file(c.file, "0 0 0")), made(file(c.file, "x"), file("N", "5"))} {
			without := must(disk.Write(begun, c.file, ""))
			need := disk.Used(without) + len(c.says)
			d, e := c.do(disk.Room(begun, need), "duke")
			isAs(t, c.what+" with just room", []any{e, disk.Used(d)}, []any{api.OK, need})
			less := disk.Room(begun, need-1)
			d, e = c.do(less, "duke")
			isAs(t, c.what+" with a byte less", e, api.ErrFull)
			isDisk(t, c.what+" with a byte less", d, less)
		}
	}
}

// P21.6, P21.7: the disk is written, then synced: disks that last so many operations; what was not synced ahead is synced, too.
func TestNoteSteps(t *testing.T) {
	for _, c := range calls() {
		for _, begun := range []api.Disk{made(), must(disk.Append(made(file(c.file, "1")), "N", "6"))} {
			written := must(disk.Write(begun, c.file, c.says))
			d, e := c.do(disk.Arm(begun, 0), "duke")
			isAs(t, c.what+": nothing is done", e, api.ErrDown)
			isDisk(t, c.what+": nothing is done", d, down(disk.Arm(begun, 0)))
			d, e = c.do(disk.Arm(begun, 1), "duke")
			isAs(t, c.what+": it is written", e, api.ErrDown)
			isDisk(t, c.what+": it is written", d, down(disk.Arm(written, 0)))
			d, e = c.do(disk.Arm(begun, 2), "duke")
			isAs(t, c.what+": it is synced", e, api.OK)
			isDisk(t, c.what+": it is synced", d, disk.Arm(must(disk.Sync(written)), 0))
			d, e = c.do(disk.Arm(begun, 3), "duke")
			isAs(t, c.what+": and no more", e, api.OK)
			isDisk(t, c.what+": and no more", d, disk.Arm(must(disk.Sync(written)), 1))
		}
	}
}

// P21.6: notes that say nothing which Put writes, and such as do.
func TestGetNotes(t *testing.T) {
	for _, says := range []string{
		"", " ", "  ", "3", "3 40", "3 40 ", "3  40 10", " 3 40 10", "3 40 10 ", "3 40 10 1", "3 40 10\n", "3\n40 10", "3\t40 10", "3,40,10",
		"03 40 10", "3 040 10", "3 40 010", "+3 40 10", "-3 40 10", "3 -40 10", "3 40 -1", "3.0 40 10", "3 40 1e1", "x 40 10", "3 x 10", "3 40 x", "0x3 40 10", "3 4_0 10",
		"1001 40 10", "99999999999999999999999 40 10", "3 1099511627777 10", "3 9999999999999 10", "3 99999999999999 10", "3 40 100", "3 40 1000", "3 40 256",
		"3 40 18446744073709551626", "\x003 40 10", "3 40 10\x00", "٣ 40 10", "77",
	} {
		isAs(t, "Get of "+says, backoff.Get(made(file("S.duke", says)), "duke"), api.Status{})
	}
	for says, want := range map[string]api.Status{
		"0 0 0": {}, "3 40 10": status(3, 40, 10), "1000 1099511627776 99": status(1000, api.MaxNumber, 99), "0 0 5": status(0, 0, 5), "1 0 0": status(1, 0, 0),
	} {
		isAs(t, "Get of "+says, backoff.Get(made(file("S.duke", says)), "duke"), want)
	}
}

// P21.7: notes that say no number, and such as do.
func TestTurnNotes(t *testing.T) {
	for _, says := range []string{
		"", " ", "x", "07", "00", "+7", "-7", "7 ", " 7", "7\n", "7 7", "7.0", "1099511627777", "9999999999999", "99999999999999", "18446744073709551623", "3 40 10", "٧",
	} {
		isAs(t, "Turn of "+says, backoff.Turn(made(file("Q.duke", says)), "duke"), 0)
	}
	for says, want := range map[string]int{"0": 0, "7": 7, "1099511627776": api.MaxNumber} {
		isAs(t, "Turn of "+says, backoff.Turn(made(file("Q.duke", says)), "duke"), want)
	}
}

// P21.6, P21.7: nothing is noted where no such file is, of systems that may not be, and on disks that are down; what is not synced is read.
func TestNoNotes(t *testing.T) {
	d := made(file("S.duke", "3 40 10"), file("Q.duke", "7"), file("S", "3 40 10"), file("Q", "7"), file("S.", "3 40 10"), file("Q.", "7"),
		file("S.Duke", "3 40 10"), file("Q.Duke", "7"), file("s.a", "3 40 10"), file("q.a", "7"), file("Sa", "3 40 10"), file("Qa", "7"),
		file("S.duke.n1", "3 40 10"), file("S.toolong8", "3 40 10"), file("Q.toolong8", "7"), file("S.b", "7"), file("Q.b", "3 40 10"))
	isAs(t, "what is noted", []any{backoff.Get(d, "duke"), backoff.Turn(d, "duke")}, []any{status(3, 40, 10), 7})
	for _, system := range append(noSystems, "a", "b", "duk", "dukes", "n1", "duke.n1") {
		isAs(t, "of "+system, []any{backoff.Get(d, system), backoff.Turn(d, system)}, []any{api.Status{}, 0})
	}
	isAs(t, "of a disk that is down", []any{backoff.Get(down(d), "duke"), backoff.Turn(down(d), "duke")}, []any{api.Status{}, 0})
	d = must(disk.Write(d, "S.duke", "4 0 1"))
	d = must(disk.Rename(d, "Q.duke", "Q.a"))
	isAs(t, "what is not synced", []any{backoff.Get(d, "duke"), backoff.Turn(d, "duke"), backoff.Turn(d, "a")}, []any{status(4, 0, 1), 0, 7})
}

// P21.6, P21.7: what is noted may stay where a spool is mended.
func TestNotesStay(t *testing.T) {
	d := must(backoff.SetTurn(must(backoff.Put(made(), "duke", status(3, 40, 10))), "duke", 7))
	isAs(t, "Whole", mend.Whole(d), true)
	isDisk(t, "Mend", must(mend.Mend(d)), d)
}

// R3: what is handed in stays, and what lies in the room behind its lists; what is answered shares none with it.
func TestMemory(t *testing.T) {
	for _, c := range calls() {
		for lasts := -1; lasts <= 2; lasts++ {
			files := make([]api.File, 2, 8)
			files[0], files[1] = file("N", "5"), file(c.file, "1")
			ops := make([]api.DiskOp, 1, 8)
			ops[0] = api.DiskOp{Kind: api.DiskAppend, Name: "N", Data: "6"}
			for i := 2; i < 8; i++ {
				files[:8][i], ops[:8][i-1] = file("spoilt", "x"), api.DiskOp{Kind: api.DiskRemove, Name: "spoilt"}
			}
			ops[:8][7] = api.DiskOp{Kind: api.DiskRemove, Name: "spoilt"}
			d := api.Disk{Cap: 1000, Fuse: lasts, Safe: files, Ops: ops}
			told := func() string { return fmt.Sprintf("%+v %+v %+v", d, files[:8], ops[:8]) }
			ahead := told()
			behind, e := c.do(d, "duke")
			backoff.Get(d, "duke")
			backoff.Turn(d, "duke")
			isAs(t, c.what, told(), ahead)
			if e != api.OK { // what did not change may be handed on
				continue
			}
			for i := range behind.Safe[:cap(behind.Safe)] {
				behind.Safe[:cap(behind.Safe)][i].Data = "changed"
			}
			isAs(t, c.what+", and what it answered changed", told(), ahead)
		}
	}
}

// R1: whatever disk, system and numbers are handed in, each call ends.
func TestAnything(t *testing.T) {
	disks := []api.Disk{
		{}, {Down: true}, {Cap: least, Fuse: least}, {Cap: most, Fuse: most}, disk.New(0),
		{Cap: 1000, Safe: []api.File{{}, {Name: "S.duke"}, {Name: "S.duke", Data: "1 1 1"}, {Name: "\xff"}}},
		{Cap: 1000, Fuse: -1, Ops: []api.DiskOp{{}, {Kind: -1, Name: "Q.duke"}, {Kind: 99}, {Kind: api.DiskRename, Name: "x", To: "S.duke"}, {Kind: api.DiskRemove, Name: "y"}}},
	}
	numbers := []int{least, least + 1, -1, 0, 1, 1000, most - 1, most}
	for _, d := range disks {
		for _, system := range append(noSystems, "duke", "\xff\xfe", strings.Repeat("a", 70000)) {
			backoff.Get(d, system)
			backoff.Turn(d, system)
			for _, n := range numbers {
				backoff.SetTurn(d, system, n)
				backoff.Put(d, system, status(n, n, n))
			}
		}
	}
	floats := []float64{nan, inf, -inf, negative, 0, tiny, -tiny, huge, -huge, above(1), 1}
	for _, a := range floats {
		for _, b := range floats {
			for _, c := range floats {
				backoff.Smooth(a, b, c)
				for _, n := range numbers {
					backoff.Wait(policy(a, b, c), n)
					backoff.Next(status(n, n, n), policy(a, b, c))
				}
			}
		}
	}
	for _, n := range numbers {
		backoff.After(status(n, n, n), n, api.Errno(n))
	}
}
