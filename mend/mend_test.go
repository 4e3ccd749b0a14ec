package mend_test

import (
	"fmt"
	"slices"
	"strings"
	"testing"

	"postchaise/api"
	"postchaise/disk"
	"postchaise/inbox"
	"postchaise/job"
	"postchaise/mend"
	"postchaise/spool"
)

// must: the disk of a call that has to be done.
func must(d api.Disk, e api.Errno) api.Disk {
	if e != api.OK {
		panic(e)
	}
	return d
}

func file(name, data string) api.File { return api.File{Name: name, Data: data} }

// laid: d with these files, not synced.
func laid(d api.Disk, files ...api.File) api.Disk {
	for _, f := range files {
		d = must(disk.Write(d, f.Name, f.Data))
	}
	return d
}

// made: a disk of all room with these files, synced.
func made(files ...api.File) api.Disk {
	return must(disk.Sync(laid(disk.New(api.MaxDisk), files...)))
}

// held: the job of that system that s says, and its bytes.
func held(system, s, data string) api.Held {
	j, e := job.Parse(s)
	if e != api.OK {
		panic(s)
	}
	return api.Held{System: system, Job: j, Data: data}
}

// isAs: whether got is want, each as it prints.
func isAs(t *testing.T, what string, got, want any) {
	t.Helper()
	if a, b := fmt.Sprintf("%+v", got), fmt.Sprintf("%+v", want); a != b {
		t.Errorf("%s: %.2000s, want %.2000s", what, a, b)
	}
}

// isDisk: whether got is want, field by field.
func isDisk(t *testing.T, what string, got, want api.Disk) {
	t.Helper()
	if !disk.Same(got, want) {
		t.Errorf("%s: %.2000v, want %.2000v", what, got, want)
	}
}

// mends: whether of a disk with just these files Mend leaves those that are left alone, all safe; whether Whole says so of both; whether both show the same (P20.2 to P20.5).
func mends(t *testing.T, files []api.File, left ...api.File) {
	t.Helper()
	want := made(left...)
	for _, d := range []api.Disk{made(files...), laid(disk.New(api.MaxDisk), files...)} {
		got, e := mend.Mend(d)
		isAs(t, "Mend's error", e, api.OK)
		isDisk(t, "Mend", got, want)
		isAs(t, "what is shown", mend.View(got), mend.View(d))
		if mend.Whole(d) != (len(files) == len(left)) {
			t.Errorf("Whole of %.500q: %v", files, mend.Whole(d))
		}
	}
	isAs(t, "Whole of what is mended", mend.Whole(want), true)
}

// stays: whether f may stay beside others, all of which may.
func stays(t *testing.T, want bool, f api.File, others ...api.File) {
	t.Helper()
	all := append([]api.File{f}, others...)
	if want {
		mends(t, all, all...)
	} else {
		mends(t, all, others...)
	}
}

const (
	send  = "S n1 ann /a /b 3"
	exec  = "E n1 ann /a /b 3 rmail bob"
	fetch = "R n1 ann /a /b 0"
)

// texts: each with what stands behind its line in the file of a job that came.
var texts = []struct{ text, data string }{{send, "abc"}, {exec, "\n\x00\xff"}, {fetch, ""}, {"R n1 ann /a /b 2", "xy"}, {"S n1 ann /a /b 0", ""}}

// The chapter's examples.
func TestExamples(t *testing.T) {
	mends(t, []api.File{file("D.duke.n1", "abc")})
	mends(t, []api.File{file("X.duke.n1", send+"\nabc"), file("T.duke.n1", send+"\nab")}, file("X.duke.n1", send+"\nabc"))
	mends(t, []api.File{file("C.duke.n1", fetch), file("F.duke.n1", "R n1 ann /a /b 3\nabc")}, file("F.duke.n1", "R n1 ann /a /b 3\nabc"))
}

// P20.1: what waits, what has failed, what has come: of X, then of F.
func TestView(t *testing.T) {
	all := []api.File{
		file("C.duke.n1", send), file("D.duke.n1", "abc"),
		file("C.a.n1", exec), file("D.a.n1", "def"),
		file("C.duke.N9", "R N9 ann /a /b 0"),
		file("E.duke.n4", "S n4 ann /a /b 3"), file("E.a.n5", "R n5 ann /a /b 0"), file("E.a.n4", "E n4 ann /a /b 0 rnews"),
		file("X.duke.n1", send+"\nghi"), file("X.duke.a7", "R a7 bob /x /y 1\nx"), file("X.a.n1", exec+"\njkl"),
		file("F.duke.n1", "S n1 ann /a /b 1\nm"), file("F.a.n10", "R n10 ann /a /b 2\nno"), file("F.a.n9", "R n9 ann /a /b 0\n"),
		file("N", "11"), file("S.duke", "x"), file("strange", send), file("D.duke.n99", "x"), file("T.duke.n6", send+"\n"), file("O.duke.n1", ""),
	}
	want := api.View{
		Waits:  []api.Held{held("duke", "R N9 ann /a /b 0", ""), held("a", exec, "def"), held("duke", send, "abc")},
		Failed: []api.Held{held("a", "E n4 ann /a /b 0 rnews", ""), held("duke", "S n4 ann /a /b 3", ""), held("a", "R n5 ann /a /b 0", "")},
		Came: []api.Held{
			held("duke", "R a7 bob /x /y 1", "x"), held("a", exec, "jkl"), held("duke", send, "ghi"),
			held("duke", "S n1 ann /a /b 1", "m"), held("a", "R n9 ann /a /b 0", ""), held("a", "R n10 ann /a /b 2", "no"),
		},
	}
	for _, d := range []api.Disk{made(all...), laid(disk.New(api.MaxDisk), all...)} {
		isAs(t, "View", mend.View(d), want)
		down := d
		down.Down = true
		isAs(t, "View of a disk that is down", mend.View(down), api.View{})
		isAs(t, "View of it behind the start", mend.View(disk.Start(down)), want)
	}
	isAs(t, "View of an empty disk", mend.View(made()), api.View{})
}

// P20.1: a fetch is not shown to wait if there is a file F of it, whatever that says; another one does, and so do other jobs.
func TestViewFetch(t *testing.T) {
	for _, says := range []string{"R n1 ann /a /b 3\nabc", fetch + "\n", fetch + "\nabc", fetch, "nonsense", ""} {
		for _, c := range []struct {
			text, file string
			waits      bool
		}{
			{fetch, "F.duke.n1", false},
			{"R n1 ann /a /b 5", "F.duke.n1", false},
			{send, "F.duke.n1", true},
			{exec, "F.duke.n1", true},
			{fetch, "F.duke.n2", true}, {fetch, "F.duke.N1", true}, {fetch, "F.a.n1", true}, {fetch, "F.duke.n01", true},
			{fetch, "X.duke.n1", true}, {fetch, "U.duke.n1", true}, {fetch, "T.duke.n1", true}, {fetch, "D.duke.n1", true},
		} {
			d := made(file("C.duke.n1", c.text), file("D.duke.n1", "abc"), file(c.file, says))
			if c.file == "D.duke.n1" {
				d = made(file("C.duke.n1", c.text), file("D.duke.n1", says))
			}
			isAs(t, fmt.Sprintf("whether %s waits beside %s, which says %q", c.text, c.file, says), len(mend.View(d).Waits), map[bool]int{true: 1}[c.waits])
			isAs(t, "Jobs", len(spool.Jobs(d, "")), 1)
		}
	}
	d := must(disk.Write(made(file("C.duke.n1", fetch), file("F.duke.n2", "")), "F.duke.n1", ""))
	isAs(t, "beside a file that is not synced", len(mend.View(d).Waits), 0)
	isAs(t, "beside one that went, not synced", len(mend.View(must(disk.Remove(d, "F.duke.n1"))).Waits), 1)
}

// P20.2: N, if it says a number from 1 on.
func TestNumberStays(t *testing.T) {
	for _, s := range []string{"1", "2", "10", "99999", "100000", "1099511627776"} {
		stays(t, true, file("N", s))
	}
	for _, s := range []string{"", "0", "00", "01", "-1", "+1", " 1", "1 ", "1\n", "x", "1x", "0x1", "1.0", "1099511627777", "9999999999999", "10000000000000", "99999999999999999999"} {
		stays(t, false, file("N", s))
	}
	for _, name := range []string{"n", "N.", "NN", "N.duke", "N.duke.n1", ".N", "M", "1"} {
		stays(t, false, file(name, "1"))
	}
}

// P20.2: Q or S, a point, and a system's name, whatever it says.
func TestNoteStays(t *testing.T) {
	for _, says := range []string{"", "7", "0 0 0", "nonsense", "\x00\n"} {
		for _, kind := range []string{"Q", "S"} {
			for _, system := range []string{"a", "duke", "z", "a0", "a23456z"} {
				stays(t, true, file(kind+"."+system, says))
			}
			for _, behind := range []string{"", ".", ".0a", ".Duke", ".dukeduke", ".duke.", "..duke", ".du.ke", ".duke.n1", "duke", "-duke", "..", ".du-ke"} {
				stays(t, false, file(kind+behind, says))
			}
		}
		for _, kind := range []string{"q", "s", "R", "P", "N", "C", "QQ", "QS", "X", ""} {
			stays(t, false, file(kind+".duke", says))
		}
	}
}

// P20.2: names that are none of those told.
func TestNoNameStays(t *testing.T) {
	for _, says := range []string{"", "1", send, exec + "\nabc", fetch + "\n"} {
		for _, name := range []string{"strange", ".", "..", "x.duke.n1", "c.duke.n1", "A.duke.n1", "B.duke.n1", "G.duke.n1", "M.duke.n1", "Q.duke.n1", "S.duke.n1", "V.duke.n1", "W.duke.n1", "Y.duke.n1", "Z.duke.n1", "\"#$%", strings.Repeat("~", 30)} {
			stays(t, false, file(name, says), file("N", "7"))
		}
	}
	for _, f := range []api.File{file("C.duke.n1", fetch), file("E.duke.n1", send), file("X.duke.n1", send+"\nabc"), file("F.duke.n1", fetch+"\n"), file("T.duke.n1", send+"\nab")} {
		stays(t, true, f)
		for _, behind := range []string{".duke.n01", ".duke.n", ".duke.1", ".duke", ".duke.n1.", ".duke.n1.x", "..n1", ".Duke.n1", ".1duke.n1", ".dukeduke.n1", "", "-duke-n1", f.Name, ".duke.n100000", ".duke.-1", ".duke.n2", ".duke.n11", ".duke.N1"} {
			stays(t, false, file(f.Name[:1]+behind, f.Data))
		}
	}
}

// P20.2: C and D, if the job waits: with the text of its id, and as many bytes as it says.
func TestWaitStays(t *testing.T) {
	for _, s := range []string{send, exec} {
		bytes := file("D.duke.n1", "abc")
		stays(t, true, bytes, file("C.duke.n1", s))
		stays(t, false, bytes)
		stays(t, false, bytes, file("E.duke.n1", s))
		stays(t, false, file("C.duke.n1", s))
		for _, other := range []string{"D.duke.n2", "D.duke.N1", "D.a.n1", "D.duke.n11"} {
			stays(t, false, file(other, "abc"), bytes, file("C.duke.n1", s))
			mends(t, []api.File{file(other, "abc"), file("C.duke.n1", s)})
		}
		for _, data := range []string{"", "a", "ab", "abcd", "abcabc"} {
			mends(t, []api.File{file("C.duke.n1", s), file("D.duke.n1", data)})
		}
		for _, text := range []string{"", "nonsense", strings.Replace(s, "n1", "n2", 1), strings.Replace(s, "n1", "N1", 1), s + "\n", s + " ", strings.Replace(s, "3", "03", 1)} {
			mends(t, []api.File{file("C.duke.n1", text), bytes})
		}
		// Another kind of job has a file that was fetched: the job waits all the same.
		stays(t, true, file("C.duke.n1", s), bytes, file("F.duke.n1", fetch+"\n"))
	}
	mends(t, []api.File{file("C.duke.n1", "S n1 ann /a /b 0"), file("D.duke.n1", "")}, file("C.duke.n1", "S n1 ann /a /b 0"), file("D.duke.n1", ""))
	stays(t, false, file("C.duke.n1", "S n1 ann /a /b 0"))
}

// P20.2: C of a fetch, unless its file has come; D of a fetch never.
func TestFetchStays(t *testing.T) {
	waits, whole := file("C.duke.n1", fetch), file("F.duke.n1", "R n1 ann /a /b 3\nabc")
	stays(t, true, waits)
	stays(t, true, file("C.duke.n1", "R n1 ann /a /b 7"))
	stays(t, false, waits, whole)
	for _, data := range []string{"", "abc"} {
		stays(t, false, file("D.duke.n1", data), waits)
		mends(t, []api.File{file("D.duke.n1", data), waits, whole}, whole)
	}
	for _, name := range []string{"F.duke.n2", "F.a.n1", "F.duke.N1"} {
		id := name[strings.LastIndex(name, ".")+1:]
		stays(t, true, waits, file(name, "R "+id+" ann /a /b 0\n"))
	}
	stays(t, true, waits, file("X.duke.n1", fetch+"\n"))
	// A file F that says nothing goes, but behind the C that it made go.
	mends(t, []api.File{waits, file("F.duke.n1", "nonsense")})
	mends(t, []api.File{waits, file("F.duke.n1", "nonsense"), file("U.duke.n1", fetch+"\n")})
}

// P20.2: E, if the job has failed.
func TestFailedStays(t *testing.T) {
	for _, x := range texts {
		stays(t, true, file("E.duke.n1", x.text))
		stays(t, false, file("E.duke.n1", x.text+"\n"+x.data))
		stays(t, false, file("E.duke.n2", x.text))
		stays(t, true, file("E.duke.n1", x.text), file("X.duke.n1", send+"\nabc"), file("F.duke.n1", fetch+"\n"))
	}
	stays(t, true, file("E.duke.n1", send), file("C.duke.n1", send), file("D.duke.n1", "abc"))
	for _, s := range []string{"", "nonsense", "S n1 ann /a /b 03", "S N1 ann /a /b 3", "T n1 ann /a /b 3"} {
		stays(t, false, file("E.duke.n1", s))
	}
}

// P20.2: X and F, if that job is one that came, of that kind; O, if it is one of X.
func TestCameStays(t *testing.T) {
	for _, kind := range []string{"X", "F"} {
		came := kind + ".duke.n1"
		for _, x := range texts {
			stays(t, true, file(came, x.text+"\n"+x.data))
			stays(t, false, file(came, x.text))
			stays(t, false, file(came, x.text+"\n"+x.data+"x"))
			stays(t, false, file(came, x.text+" \n"+x.data))
			stays(t, false, file(kind+".duke.n2", x.text+"\n"+x.data))
			if x.data != "" {
				stays(t, false, file(came, x.text+"\n"+x.data[1:]))
			}
			other := strings.Trim("XF", kind) + ".duke.n1" // that the other kind's came helps nothing
			stays(t, false, file(came, ""), file(other, x.text+"\n"+x.data))
		}
		for _, s := range []string{"", "\n", "nonsense", "\nabc", "S n1 ann /a /b 03\nabc", "S N1 ann /a /b 3\nabc"} {
			stays(t, false, file(came, s))
		}
	}
	for _, says := range []string{"", "1 =ann =hi\n", "nonsense"} {
		ran := file("O.duke.n1", says)
		stays(t, false, ran)
		for _, x := range texts {
			stays(t, true, ran, file("X.duke.n1", x.text+"\n"+x.data))
		}
		stays(t, false, ran, file("F.duke.n1", send+"\nabc"))
		stays(t, false, ran, file("X.a.n1", send+"\nabc"))
		stays(t, false, ran, file("X.duke.n2", "S n2 ann /a /b 0\n"))
		stays(t, false, ran, file("T.duke.n1", send+"\nabc"))
		stays(t, false, ran, file("C.duke.n1", exec), file("D.duke.n1", "abc"))
		mends(t, []api.File{ran, file("X.duke.n1", send+"\nab")})
	}
}

// P20.2: T and U: a beginning of a job of the file's id, that has not come; U, if it waits.
func TestGatheredStays(t *testing.T) {
	for _, kind := range []struct{ gathers, comes, others string }{{"T", "X", "F"}, {"U", "F", "X"}} {
		name := kind.gathers + ".duke.n1"
		waits := []api.File{file("C.duke.n1", send), file("D.duke.n1", "ghi")}
		for _, data := range []string{"", "a", "ab", "abc", "\n", "\n\n\n", "\x00\xff"} {
			stays(t, true, file(name, send+"\n"+data), waits...)
			stays(t, true, file(name, exec+"\n"+data), waits...)
			stays(t, true, file(name, "R n1 ann /a /b 3\n"+data), waits...)
			stays(t, false, file(name, send+"\n"+data), append(waits, file(kind.comes+".duke.n1", send+"\nabc"))...)
			stays(t, true, file(name, send+"\n"+data), append(waits, file(kind.others+".duke.n1", send+"\nabc"))...)
			stays(t, true, file(name, send+"\n"+data), append(waits, file(kind.comes+".duke.n2", "S n2 ann /a /b 0\n"), file(kind.comes+".a.n1", send+"\nabc"))...)
			stays(t, false, file(kind.gathers+".duke.n2", send+"\n"+data), waits...)
		}
		stays(t, true, file(name, "S n1 ann /a /b 0\n"), waits...)
		for _, s := range []string{"", "\n", "nonsense", "\nabc", send, send + "\nabcd", send + " \nab", "S n1 ann /a /b 0\nx", "S n1 ann /a /b 03\nab", "S N1 ann /a /b 3\nab", "S n2 ann /a /b 3\nab", "S n1 ann /a /b 6001\n", "abc\n" + send} {
			stays(t, false, file(name, s), waits...)
		}
		stays(t, true, file(name, "S n1 ann /a /b 6000\n"+strings.Repeat("x", 6000)), waits...)
		stays(t, false, file(name, "S n1 ann /a /b 6000\n"+strings.Repeat("x", 6001)), waits...)
	}
	// A file X that says nothing goes, but behind the T that it made go; a file F goes ahead of U.
	stays(t, true, file("T.duke.n1", send+"\nab"))
	mends(t, []api.File{file("T.duke.n1", send+"\nab"), file("X.duke.n1", "nonsense")})
	waits := []api.File{file("C.duke.n1", send), file("D.duke.n1", "ghi"), file("U.duke.n1", send+"\nab")}
	stays(t, false, file("F.duke.n1", "nonsense"), waits...)
}

// P20.2: U of what waits not.
func TestFetchedWaits(t *testing.T) {
	begun := file("U.duke.n1", "R n1 ann /a /b 3\nab")
	stays(t, true, begun, file("C.duke.n1", fetch))
	stays(t, true, begun, file("C.duke.n1", exec), file("D.duke.n1", "abc"))
	stays(t, false, begun)
	stays(t, false, begun, file("E.duke.n1", fetch))
	stays(t, false, begun, file("C.a.n1", fetch))
	stays(t, false, begun, file("C.duke.n2", "R n2 ann /a /b 0"))
	stays(t, false, begun, file("X.duke.n1", fetch+"\n"))
	mends(t, []api.File{begun, file("C.duke.n1", send), file("D.duke.n1", "ab")})
	mends(t, []api.File{begun, file("C.duke.n1", fetch), file("F.duke.n1", "R n1 ann /a /b 3\nabc")}, file("F.duke.n1", "R n1 ann /a /b 3\nabc"))
}

// P20.2, P20.3: a disk that is down is not whole, and is answered as it is; behind the start it is as ever.
func TestDown(t *testing.T) {
	for _, begun := range []api.Disk{made(), made(file("N", "1")), made(file("strange", "")), laid(made(file("N", "1")), file("strange", ""))} {
		d := begun
		d.Down = true
		got, e := mend.Mend(d)
		isAs(t, "Mend", e, api.ErrDown)
		isDisk(t, "Mend", got, d)
		isAs(t, "Whole", mend.Whole(d), false)
		isAs(t, "Whole behind the start", mend.Whole(disk.Start(d)), mend.Whole(begun))
	}
}

// P20.3: what Mend does, each thing in its place: a disk that lasts so many stops there, as it is then.
func TestMendDoes(t *testing.T) {
	keeps := []api.File{file("C.duke.n1", send), file("D.duke.n1", "abc"), file("N", "7"), file("X.a.n1", send+"\nabc")}
	goes := []string{"C.duke.n2", "D.duke.n2", "F.duke.n2", "T.a.n1", "U.duke.n2", "Z", "strange", "~"}
	old := api.DiskOp{Kind: api.DiskWrite, Name: "Q.a", Data: "5"} // not synced ahead
	begun := made(keeps...)
	begun = must(disk.Sync(laid(begun, file("C.duke.n2", "R n2 ann /a /b 0"), file("F.duke.n2", ""), file("D.duke.n2", ""), file("U.duke.n2", ""), file("T.a.n1", send+"\n"), file("~", "x"), file("strange", ""), file("Z", ""))))
	for _, more := range [][]string{nil, goes} {
		d := begun
		if more == nil {
			d = made(keeps...)
		}
		d = must(disk.Write(d, old.Name, old.Data))
		ops := []api.DiskOp{old}
		for _, name := range more {
			ops = append(ops, api.DiskOp{Kind: api.DiskRemove, Name: name})
		}
		for lasts := -1; lasts < len(ops)+2; lasts++ {
			got, e := mend.Mend(disk.Arm(d, lasts))
			want := d
			want.Ops = ops
			switch {
			case lasts >= 0 && lasts < len(ops):
				want.Ops, want.Down, want.Fuse = ops[:1+lasts], true, 0
			case lasts < 0:
				want = must(disk.Sync(want))
			default:
				want = disk.Arm(must(disk.Sync(want)), lasts-len(ops))
			}
			isDisk(t, fmt.Sprintf("a disk that lasts %d of %d", lasts, len(ops)), got, want)
			isAs(t, "its error", e, map[bool]api.Errno{true: api.ErrDown}[want.Down])
		}
	}
}

// P20.4: a disk that is whole is left as it is, though it has no room; so is one of another size that is mended.
func TestRoom(t *testing.T) {
	d := disk.Room(made(file("E.duke.n1", send), file("N", "2")), 0)
	got, e := mend.Mend(d)
	isAs(t, "Mend", e, api.OK)
	isDisk(t, "Mend", got, d)
	more := disk.Room(laid(made(file("E.duke.n1", send), file("N", "2")), file("O.duke.n1", "")), 0)
	got, e = mend.Mend(more)
	isAs(t, "Mend", e, api.OK)
	isDisk(t, "Mend", got, d)
}

// P20.2: what the layers below leave may stay: a spool and an inbox in whatever state, as their calls make them.
func TestBelow(t *testing.T) {
	d := disk.New(20000)
	whole := func(after api.Disk, e api.Errno) {
		t.Helper()
		d = must(after, e)
		isAs(t, fmt.Sprintf("Whole of %q", disk.List(d)), mend.Whole(d), true)
	}
	whole(d, api.OK)
	for kind, data := range map[int]string{api.JobSend: "abc", api.JobExec: "", api.JobFetch: ""} {
		j := api.Job{Id: api.Id{Grade: 'n'}, Kind: kind, User: "ann", From: "/a", To: "/b"}
		if kind == api.JobExec {
			j.Command = "rnews"
		}
		for range 3 {
			after, id, e := spool.Queue(d, "duke", j, data)
			whole(after, e)
			j.Id = id
		}
		whole(spool.Done(d, "duke", j.Id))
		j.Id.Number--
		whole(spool.Fail(d, "duke", j.Id))
		j.Id.Number--
		j.Size = 3
		if kind == api.JobFetch {
			after, _, e := inbox.Begin(d, 'F', "duke", j)
			whole(after, e)
			whole(inbox.More(d, 'F', "duke", j.Id, "ab"))
			whole(inbox.More(d, 'F', "duke", j.Id, "c"))
		}
		after, _, e := inbox.Begin(d, 'X', "duke", j)
		whole(after, e)
		whole(inbox.More(d, 'X', "duke", j.Id, "abc"))
		whole(inbox.Finish(d, 'X', "duke", j.Id))
		whole(disk.Write(d, fmt.Sprintf("O.duke.n%d", j.Id.Number), ""))
		j.Id.Number += 50
		after, _, e = inbox.Begin(d, 'X', "a", j)
		whole(after, e)
		whole(inbox.Drop(d, 'X', "a", j.Id))
	}
}

// R3: what is handed in is not changed, nor what lies behind its lists' ends; what is answered shares nothing with it that is written anew.
func TestMemory(t *testing.T) {
	d := laid(made(file("C.duke.n1", send), file("D.duke.n1", "abc"), file("C.duke.n2", "R n2 ann /a /b 0"), file("F.duke.n2", "x"), file("E.duke.n3", "R n3 ann /a /b 0"), file("X.duke.n1", send+"\nabc"), file("Z", "")), file("old", "x"), file("F.duke.n1", fetch+"\n"))
	spoilt := file("spoilt", "spoilt")
	op := api.DiskOp{Kind: 99, Name: "spoilt"}
	safe, ops := append(slices.Clone(d.Safe), spoilt, spoilt, spoilt), append(slices.Clone(d.Ops), op, op, op, op)
	roomy := d
	roomy.Safe, roomy.Ops = safe[:len(d.Safe)], ops[:len(d.Ops)]
	for lasts := -1; lasts < 6; lasts++ {
		after, _ := mend.Mend(disk.Arm(roomy, lasts))
		kept := after
		kept.Safe, kept.Ops = slices.Clone(after.Safe), slices.Clone(after.Ops)
		again, _ := mend.Mend(disk.Arm(roomy, lasts)) // must not write where the first one's lists lie
		isDisk(t, "Mend once more", again, kept)
		isDisk(t, "behind Mend once more", after, kept)
	}
	view, want := mend.View(roomy), mend.View(d)
	for _, l := range [][]api.Held{view.Waits, view.Failed, view.Came} {
		for i := range l[:cap(l)] {
			l[:cap(l)][i] = api.Held{System: "spoilt"}
		}
	}
	isAs(t, "View once more", mend.View(roomy), want)
	mend.Whole(roomy)
	isDisk(t, "what was handed in", roomy, d)
	isAs(t, "behind its files", safe[len(d.Safe):], []api.File{spoilt, spoilt, spoilt})
	isAs(t, "behind its operations", ops[len(d.Ops):], []api.DiskOp{op, op, op, op})
}
