package inbox_test

import (
	"fmt"
	"math/rand/v2"
	"slices"
	"strings"
	"testing"

	"postchaise/api"
	"postchaise/disk"
	"postchaise/inbox"
)

// P19.7: what has come, with its bytes, of every kind of job; none of another kind.
func TestCame(t *testing.T) {
	exec := api.Job{Id: id('n', 2), Kind: api.JobExec, User: "bob", From: "/a", To: "/b", Command: "rmail a b", Size: 4}
	fetch := api.Job{Id: id('n', 3), Kind: api.JobFetch, User: "bob", From: "/a", To: "/b", Size: 2}
	held := []api.Held{{System: "duke", Job: sent(0)}, {System: "duke", Job: exec, Data: "\n\x00\xff\n"}, {System: "duke", Job: fetch, Data: "xy"}}
	for _, k := range kinds {
		var files []api.File
		for _, letter := range strings.Split("CDEFOTUXxf", "") {
			if letter != k.comes {
				files = append(files, file(letter+".duke.n9", "S n9 ann /a /b 1\nx"))
			}
		}
		for _, h := range held {
			files = append(files, file(fmt.Sprint(k.comes, ".duke.n", h.Job.Id.Number), text(h.Job)+"\n"+h.Data))
		}
		d := made(files...)
		isAs(t, "Came of duke", inbox.Came(d, k.kind, "duke"), held)
		isAs(t, "Came of all", inbox.Came(d, k.kind, ""), held)
		for _, system := range []string{"", "duke"} {
			for _, other := range noKinds {
				isAs(t, fmt.Sprintf("Came of kind %d", other), len(inbox.Came(d, other, system)), 0)
			}
			down := disk.Crash(d, 0)
			isAs(t, "Came of a disk that is down", len(inbox.Came(down, k.kind, system)), 0)
			isAs(t, "Came behind the start", len(inbox.Came(disk.Start(down), k.kind, system)), 3)
		}
	}
}

// P19.7: what is no job that has come: by its text, by how many bytes there are, by the file's name.
func TestCameNot(t *testing.T) {
	for _, k := range kinds {
		for _, says := range []string{
			"", "\n", "\nabc", "S n1 ann /a /b 0", "S n1 ann /a /b 3abc", "S n1 ann /a /b\nabc", "S n1 ann /a /b 03\nabc", "S n1 ann /a /b 3 \nabc", " S n1 ann /a /b 3\nabc", "\nS n1 ann /a /b 3\nabc", "S n1 ann /a /b 3\r\nab", "T n1 ann /a /b 3\nabc", "S n1 Ann /a /b 3\nabc", "E n1 ann /a /b 3\nabc",
			"S n2 ann /a /b 3\nabc", "S N1 ann /a /b 3\nabc", "S n10 ann /a /b 3\nabc", "S n01 ann /a /b 3\nabc",
			"S n1 ann /a /b 3\n", "S n1 ann /a /b 3\na", "S n1 ann /a /b 3\nab", "S n1 ann /a /b 3\nabcd", "S n1 ann /a /b 3\nabc\n", "S n1 ann /a /b 3\nabcabc", "S n1 ann /a /b 0\n\n", "S n1 ann /a /b 6001\n" + strings.Repeat("a", 6001),
		} {
			isAs(t, fmt.Sprintf("%.30q", says), len(inbox.Came(made(file(k.comes+".duke.n1", says)), k.kind, "")), 0)
		}
		for _, name := range []string{".duke.n01", ".duke.n", ".duke.1", ".duke", ".duke.n1.", ".duke.n1.x", "..n1", ".Duke.n1", ".1duke.n1", ".dukeduke.n1", "", "-duke-n1", k.comes + ".duke.n1", ".duke.n2", ".duke.n11", ".duke.N1"} {
			isAs(t, "under the name "+name, len(inbox.Came(made(file(k.comes+name, "S n1 ann /a /b 3\nabc")), k.kind, "")), 0)
		}
		isAs(t, "under its name", len(inbox.Came(made(file(k.comes+".duke.n1", "S n1 ann /a /b 3\nabc")), k.kind, "")), 1)
	}
}

// P19.7: by ids: grades by their bytes, then numbers as numbers; those of one id by their systems; of one system its own alone.
func TestCameOrder(t *testing.T) {
	ids := []api.Id{id('0', 5), id('9', 1), id('A', 100), id('Z', 9), id('a', 2), id('n', 1), id('n', 9), id('n', 10), id('n', 99999), id('z', 1)}
	systems := []string{"a", "a1", "ab", "b", "duke"}
	for _, k := range kinds {
		var all []api.Held
		files := []api.File{file("N", "100")}
		for _, x := range ids {
			for _, system := range systems {
				j := sent(len(system))
				j.Id = x
				all = append(all, api.Held{System: system, Job: j, Data: system})
				files = append(files, file(fmt.Sprintf("%s.%s.%c%d", k.comes, system, x.Grade, x.Number), text(j)+"\n"+system))
			}
		}
		rand.New(rand.NewPCG(1, 2)).Shuffle(len(files), func(i, k int) { files[i], files[k] = files[k], files[i] })
		d := made(files...)
		isAs(t, "Came of all", inbox.Came(d, k.kind, ""), all)
		for _, system := range systems {
			isOthers := func(h api.Held) bool { return h.System != system }
			isAs(t, "Came of "+system, inbox.Came(d, k.kind, system), slices.DeleteFunc(slices.Clone(all), isOthers))
		}
		for _, system := range []string{"duk", "dukes", "Duke", "A", ".", "a.", "abc", "a.n1", "dukeduke", "*"} {
			isAs(t, "Came of "+system, len(inbox.Came(d, k.kind, system)), 0)
		}
	}
}

// P19.1, P19.2, P19.7: files count that are not synced, as they are behind all that was done.
func TestNotSynced(t *testing.T) {
	for _, k := range kinds {
		d := made(file(k.comes+".duke.n1", "S n1 ann /a /b 1\nx"), file(k.comes+".duke.n2", "S n2 ann /a /b 2\nx"), file(k.comes+".duke.n3", "S n3 ann /a /b 1\nx"), file(k.gathers+".duke.n4", "S n4 ann /a /b 1\nx"))
		d = must(disk.Append(d, k.comes+".duke.n1", "x"))
		d = must(disk.Append(d, k.comes+".duke.n2", "x"))
		d = must(disk.Remove(d, k.comes+".duke.n3"))
		d = must(disk.Rename(d, k.gathers+".duke.n4", k.comes+".duke.n4"))
		came := ""
		for _, h := range inbox.Came(d, k.kind, "") {
			came += text(h.Job) + " " + h.Data + "."
		}
		isAs(t, "Came", came, "S n2 ann /a /b 2 xx.S n4 ann /a /b 1 x.")
		isAs(t, "Has", []bool{inbox.Has(d, k.kind, "duke", id('n', 1)), inbox.Has(d, k.kind, "duke", id('n', 3)), inbox.Has(d, k.kind, "duke", id('n', 4))}, []bool{true, false, true})
	}
}

// R3: what is handed in is not changed, nor what lies behind its lists' ends; what is answered shares nothing with it that is written anew.
func TestMemory(t *testing.T) {
	d := must(disk.Write(made(file("T.duke.n1", "S n1 ann /a /b 5\nabc"), file("T.duke.n2", "S n2 ann /a /b 0\n"), file("X.duke.n3", "S n3 ann /a /b 1\nx")), "old", "x"))
	spoilt := file("spoilt", "spoilt")
	op := api.DiskOp{Kind: 99, Name: "spoilt"}
	safe, ops := append(slices.Clone(d.Safe), spoilt, spoilt, spoilt), append(slices.Clone(d.Ops), op, op, op, op)
	roomy := d
	roomy.Safe, roomy.Ops = safe[:len(d.Safe)], ops[:len(d.Ops)]
	for lasts := -1; lasts < 3; lasts++ {
		for _, c := range calls {
			for n := 1; n < 4; n++ {
				x := trial{disk.Arm(roomy, lasts), 'X', "duke", sent(n), "d"} // n makes the text another one, or the same
				x.j.Id.Number = n
				after, _, _ := c.do(x)
				kept := after
				kept.Safe, kept.Ops = slices.Clone(after.Safe), slices.Clone(after.Ops)
				again, _, _ := c.do(x) // must not write where the first one's lists lie
				isDisk(t, "the same call once more", again, kept)
				isDisk(t, "behind the same call once more", after, kept)
			}
		}
	}
	inbox.Came(roomy, 'X', "")[0] = api.Held{}
	isAs(t, "Came once more", inbox.Came(roomy, 'X', "")[0].Data, "x")
	isDisk(t, "what was handed in", roomy, d)
	isAs(t, "behind its files", safe[len(d.Safe):], []api.File{spoilt, spoilt, spoilt})
	isAs(t, "behind its operations", ops[len(d.Ops):], []api.DiskOp{op, op, op, op})
}

// R1: disks that no call makes, and numbers at the ends of int.
func TestAnyDisk(t *testing.T) {
	r := rand.New(rand.NewPCG(3, 4))
	names := []string{"", "N", "T.duke.n1", "X.duke.n1", "U.duke.n1", "F.duke.n1", "Z", "\x00"}
	datas := []string{"", "1", "S n1 ann /a /b 1\n", "S n1 ann /a /b 1\nx", "S n1 ann /a /b 1\nxy", "\n"}
	numbers := []int{-1 << 63, -1, 0, 1, 200, 1<<63 - 1}
	for range 5000 {
		d := api.Disk{Cap: numbers[r.IntN(6)], Fuse: r.IntN(8) - 3, Down: r.IntN(8) == 0}
		for range r.IntN(8) {
			d.Safe = append(d.Safe, file(names[r.IntN(len(names))], datas[r.IntN(len(datas))]))
		}
		for range r.IntN(5) {
			d.Ops = append(d.Ops, api.DiskOp{Kind: r.IntN(7) - 1, Name: names[r.IntN(len(names))], To: names[r.IntN(len(names))], Data: datas[r.IntN(len(datas))]})
		}
		x := trial{d, []int{'X', 'F', 'T', numbers[r.IntN(6)]}[r.IntN(4)], []string{"duke", "", "Duke"}[r.IntN(3)], sent(1), datas[r.IntN(len(datas))]}
		if r.IntN(4) == 0 {
			x.j = api.Job{Id: api.Id{Grade: numbers[r.IntN(6)], Number: numbers[r.IntN(6)]}, Kind: numbers[r.IntN(6)], Size: numbers[r.IntN(6)]}
		}
		for _, c := range calls {
			c.do(x)
		}
		inbox.Has(d, x.kind, x.system, x.j.Id)
		inbox.Came(d, x.kind, x.system)
	}
}
