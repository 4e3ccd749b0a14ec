package spool

import (
	"cmp"
	"fmt"
	"math/rand/v2"
	"regexp"
	"slices"
	"strconv"
	"strings"
	"testing"

	"postchaise/api"
	"postchaise/disk"
	"postchaise/job"
)

var jobFile = regexp.MustCompile(`^([CE])\.([a-z][a-z0-9]{0,6})\.([0-9A-Za-z])([1-9][0-9]{0,4})$`)

// again: P18.1 and P18.3, written once more: the jobs whose text is in files of that kind.
func again(d api.Disk, kind, system string) []api.Held {
	files := map[string]string{}
	for _, f := range disk.Files(d) {
		files[f.Name] = f.Data
	}
	var l []api.Held
	for file, s := range files {
		m := jobFile.FindStringSubmatch(file)
		if m == nil || m[1] != kind || system != "" && m[2] != system {
			continue
		}
		j, e := job.Parse(s)
		if number, _ := strconv.Atoi(m[4]); e != api.OK || j.Id != id(rune(m[3][0]), number) {
			continue
		}
		h := keeps(m[2], j, "")
		if kind == "C" && j.Kind != api.JobFetch {
			data, there := files["D"+strings.TrimPrefix(file, "C")]
			if !there || len(data) != j.Size {
				continue
			}
			h.Data = data
		}
		l = append(l, h)
	}
	slices.SortFunc(l, func(a, b api.Held) int {
		return cmp.Or(cmp.Compare(a.Job.Id.Grade, b.Job.Id.Grade), cmp.Compare(a.Job.Id.Number, b.Job.Id.Number), cmp.Compare(a.System, b.System))
	})
	return l
}

var someSystems = []string{"duke", "a", "ab", "zzzzzzz"}

// anyWish: a job that may be, and its bytes.
func anyWish(r *rand.Rand) (api.Job, string) {
	j := wish(1 + r.IntN(3))
	j.Id.Grade = int("nNaz0"[r.IntN(5)])
	j.To = "/b" + fmt.Sprint(r.IntN(1000))
	data := ""
	if j.Kind != api.JobFetch {
		data = strings.Repeat(string([]byte{byte(r.IntN(256))}), r.IntN(30))
	}
	return j, data
}

// spoil: d with a file changed that may have to do with a job.
func spoil(r *rand.Rand, d api.Disk) api.Disk {
	name := fmt.Sprintf("%c.%s.n%d", "CDENX"[r.IntN(5)], someSystems[r.IntN(4)], 1+r.IntN(12))
	switch r.IntN(6) {
	case 0:
		d, _ = disk.Write(d, "N", []string{"", "0", "x", "5", "99999", "100000"}[r.IntN(6)])
	case 1:
		d, _ = disk.Append(d, name, "x")
	case 2:
		d, _ = disk.Remove(d, name)
	case 3:
		d, _ = disk.Rename(d, name, fmt.Sprintf("%c.duke.n%d", "CDE"[r.IntN(3)], 1+r.IntN(12)))
	case 4:
		d, _ = disk.Write(d, name, fmt.Sprintf("S n%d ann /a /b %d", 1+r.IntN(12), r.IntN(3)))
	case 5:
		d, _ = disk.Write(d, name, fmt.Sprintf("R n%d ann /a /b 0", 1+r.IntN(12)))
	}
	return d
}

// P18.1, P18.3, P18.4: disks with all sorts of files, held against a second writing.
func TestAgain(t *testing.T) {
	r := rand.New(rand.NewPCG(5, 6))
	jobs := 0
	for range 300 {
		d := made()
		for range 60 {
			if r.IntN(3) == 0 {
				j, data := anyWish(r)
				d, _, _ = Queue(d, someSystems[r.IntN(4)], j, data)
			} else {
				d = spoil(r, d)
			}
			for _, system := range []string{"", "duke", "ab"} {
				waits, failed := again(d, "C", system), again(d, "E", system)
				if !slices.Equal(Jobs(d, system), waits) || !slices.Equal(Failed(d, system), failed) {
					t.Fatalf("of %q: %+v, %+v, want %+v, %+v of %+v", system, Jobs(d, system), Failed(d, system), waits, failed, disk.Files(d))
				}
				jobs += len(waits) + len(failed)
			}
			x, system := id('n', 1+r.IntN(12)), someSystems[r.IntN(4)]
			at := slices.IndexFunc(again(d, "C", system), func(h api.Held) bool { return h.Job.Id == x })
			if h, e := Load(d, system, x); (e == api.OK) != (at >= 0) || at >= 0 && h != again(d, "C", system)[at] {
				t.Fatalf("Load of %v of %q: %+v, %d", x, system, h, e)
			}
		}
	}
	if jobs < 10000 {
		t.Errorf("too few jobs were seen: %d", jobs)
	}
}

// ledger: what a disk's jobs are known to be: what waits and has failed, and whose each number was.
type ledger struct {
	waits, failed []api.Held
	owners        map[int]api.Held
}

// shows: what a disk shows, for comparing.
func shows(d api.Disk) string { return fmt.Sprintf("%+v", [][]api.Held{Jobs(d, ""), Failed(d, "")}) }

// own: whether the numbers of all jobs of d are those of the same jobs as ever, which is noted.
func (l *ledger) own(t *testing.T, d api.Disk) {
	t.Helper()
	for _, h := range slices.Concat(Jobs(d, ""), Failed(d, "")) {
		h.Data = ""
		if was, there := l.owners[h.Job.Id.Number]; there && was != h {
			t.Fatalf("the number of %+v was that of %+v", h, was)
		}
		l.owners[h.Job.Id.Number] = h
	}
}

// step: a call chosen by chance: d behind it, and the lists as they are if it was done.
func (l *ledger) step(t *testing.T, r *rand.Rand, d api.Disk) (after api.Disk, waits, failed []api.Held, e api.Errno) {
	t.Helper()
	waits, failed = slices.Clone(l.waits), slices.Clone(l.failed)
	if len(waits) == 0 || r.IntN(2) == 0 {
		j, data := anyWish(r)
		system := someSystems[r.IntN(4)]
		next := 1
		if s, e := disk.Read(d, "N"); e == api.OK {
			next, _ = strconv.Atoi(s)
		}
		after, x, e := Queue(d, system, j, data)
		if e == api.OK && x != id(rune(j.Id.Grade), next) {
			t.Fatalf("Queue where the next is %d: %v", next, x)
		}
		waits = append(waits, keeps(system, as(j, id(rune(j.Id.Grade), next), len(data)), data))
		return after, waits, failed, e
	}
	at := r.IntN(len(waits))
	h := waits[at]
	waits = slices.Delete(waits, at, at+1)
	if r.IntN(2) == 0 {
		after, e = Done(d, h.System, h.Job.Id)
		return after, waits, failed, e
	}
	after, e = Fail(d, h.System, h.Job.Id)
	h.Data = ""
	return after, waits, append(failed, h), e
}

// told: two lists as Jobs and Failed have them.
func told(waits, failed []api.Held) string {
	byId := func(a, b api.Held) int {
		return cmp.Or(cmp.Compare(a.Job.Id.Grade, b.Job.Id.Grade), cmp.Compare(a.Job.Id.Number, b.Job.Id.Number))
	}
	return fmt.Sprintf("%+v", [][]api.Held{slices.SortedFunc(slices.Values(waits), byId), slices.SortedFunc(slices.Values(failed), byId)})
}

// P18.6, P18.7, P18.8: walks of calls, some of which the power does not outlast: each job is as it was or as the call makes it, and all others are as they were.
func TestWalks(t *testing.T) {
	r := rand.New(rand.NewPCG(7, 8))
	lost, kept := 0, 0
	for range 150 {
		d, l := made(), &ledger{owners: map[int]api.Held{}}
		for range 60 {
			if r.IntN(3) == 0 {
				d = disk.Arm(d, r.IntN(5))
			}
			if r.IntN(20) == 0 {
				d = disk.Room(d, []int{0, 500, 5000, api.MaxDisk}[r.IntN(4)])
			}
			before := told(l.waits, l.failed)
			after, waits, failed, e := l.step(t, r, d)
			if e == api.ErrFull {
				isDisk(t, "beside ErrFull", after, d)
				continue
			}
			if e == api.ErrDown {
				// What is not lost is synced, so that the next call begins on a disk of which nothing may be lost.
				if r.IntN(2) == 0 {
					after = disk.Crash(after, r.IntN(6))
				}
				after = must(disk.Sync(disk.Arm(disk.Start(after), -1)))
			}
			switch got := shows(after); {
			case got == told(waits, failed):
				l.waits, l.failed = waits, failed
				kept++
			case got == before && e == api.ErrDown:
				lost++
			default:
				t.Fatalf("behind a call that answered %d: %s, want %s or %s", e, got, told(waits, failed), before)
			}
			d = after
			l.own(t, d)
		}
	}
	if lost < 500 || kept < 1000 {
		t.Errorf("too few calls were cut off, or done: %d, %d", lost, kept)
	}
}

// P18.8: a crash at each place of each call, with each beginning of what it did: all or nothing of the job, and the number is not given anew.
func TestCrashes(t *testing.T) {
	begun := made(one()...)
	calls := map[string]func(api.Disk) api.Disk{
		"Queue of a send":  func(d api.Disk) api.Disk { d, _, _ = Queue(d, "duke", wish(api.JobSend), "fgh"); return d },
		"Queue of a fetch": func(d api.Disk) api.Disk { d, _, _ = Queue(d, "a", wish(api.JobFetch), ""); return d },
	}
	for n := 1; n <= 3; n++ {
		calls[fmt.Sprint("Done of n", n)] = func(d api.Disk) api.Disk { d, _ = Done(d, "duke", id('n', n)); return d }
		calls[fmt.Sprint("Fail of n", n)] = func(d api.Disk) api.Disk { d, _ = Fail(d, "duke", id('n', n)); return d }
	}
	for what, call := range calls {
		seen := map[string]int{}
		for lasts := range 5 {
			for keep := range 5 {
				cut := call(disk.Arm(begun, lasts))
				d := disk.Start(disk.Crash(cut, keep))
				got := shows(d)
				if got != shows(begun) && got != shows(call(begun)) {
					t.Errorf("%s, lasting %d, %d kept: %s", what, lasts, keep, got)
				}
				seen[got]++
				taken := len(got) > len(shows(begun))
				_, x := queued(d, "duke", wish(api.JobSend), "xyz")
				if x.Number < 7 || taken && x.Number != 8 {
					t.Errorf("%s, lasting %d, %d kept: the next number is %d", what, lasts, keep, x.Number)
				}
			}
		}
		if len(seen) != 2 {
			t.Errorf("%s: %v", what, seen)
		}
	}
}
