package mend_test

import (
	"cmp"
	"fmt"
	"math/rand/v2"
	"regexp"
	"slices"
	"strconv"
	"strings"
	"testing"

	"postchaise/api"
	"postchaise/disk"
	"postchaise/inbox"
	"postchaise/job"
	"postchaise/mend"
	"postchaise/spool"
)

// second: P20.1 to P20.3 written once more, on a map of files, word by word: every file is looked at anew behind each that goes.
type second map[string]string

var (
	jobFile  = regexp.MustCompile(`^([CDEFOTUX])(\.[a-z][a-z0-9]{0,6}\.([0-9A-Za-z][1-9][0-9]{0,4}))$`)
	noteFile = regexp.MustCompile(`^[QS]\.[a-z][a-z0-9]{0,6}$`)
	number   = regexp.MustCompile(`^[1-9][0-9]{0,12}$`)
)

func filesOf(d api.Disk) second {
	s := second{}
	for _, f := range disk.Files(d) {
		s[f.Name] = f.Data
	}
	return s
}

func (s second) has(name string) bool {
	_, there := s[name]
	return there
}

// says: the job with that id whose text s is.
func says(s, id string) (api.Job, bool) {
	j, e := job.Parse(s)
	return j, e == api.OK && fmt.Sprintf("%c%d", j.Id.Grade, j.Id.Number) == id
}

// begun: the job with that id of a file in which bytes are gathered or have come, how many of them, and whether it is one.
func begun(s, id string) (api.Job, int, bool) {
	text, data, ends := strings.Cut(s, "\n")
	j, ok := says(text, id)
	return j, len(data), ok && ends
}

// waits: the job whose files are named so behind their kind, and whether it waits.
func (s second) waits(behind, id string) (api.Job, bool) {
	j, ok := says(s["C"+behind], id)
	isWhole := s.has("D"+behind) && len(s["D"+behind]) == j.Size
	return j, ok && (j.Kind == api.JobFetch || isWhole)
}

func (s second) came(kind, behind, id string) bool {
	j, n, ok := begun(s[kind+behind], id)
	return ok && n == j.Size
}

// mayStay: P20.2.
func (s second) mayStay(name string) bool {
	m := jobFile.FindStringSubmatch(name)
	if m == nil {
		n, _ := strconv.Atoi(s[name])
		return name == "N" && number.MatchString(s[name]) && n <= 1<<40 || noteFile.MatchString(name)
	}
	kind, behind, id := m[1], m[2], m[3]
	waiting, waits := s.waits(behind, id)
	gathered, n, gathers := begun(s[name], id)
	switch kind {
	case "C":
		return waits && !(waiting.Kind == api.JobFetch && s.has("F"+behind))
	case "D":
		return waits && waiting.Kind != api.JobFetch
	case "E":
		_, ok := says(s[name], id)
		return ok
	case "X", "F":
		return s.came(kind, behind, id)
	case "O":
		return s.came("X", behind, id)
	case "T":
		return gathers && n <= gathered.Size && !s.has("X"+behind)
	}
	return gathers && n <= gathered.Size && !s.has("F"+behind) && waits
}

// stray: the first file that may not stay.
func (s second) stray() (string, bool) {
	var l []string
	for name := range s {
		if !s.mayStay(name) {
			l = append(l, name)
		}
	}
	slices.Sort(l)
	if len(l) == 0 {
		return "", false
	}
	return l[0], true
}

// mend: P20.3: the names of the files that go, in order, which are gone behind it.
func (s second) mend() []string {
	var gone []string
	for name, there := s.stray(); there; name, there = s.stray() {
		gone = append(gone, name)
		delete(s, name)
	}
	return gone
}

// shows: P20.1, as View prints.
func (s second) shows() string {
	var waits, failed, sent, fetched []api.Held
	for name, data := range s {
		m := jobFile.FindStringSubmatch(name)
		if m == nil {
			continue
		}
		system := strings.Split(name, ".")[1]
		j, n, gathered := begun(data, m[3])
		h := api.Held{System: system, Job: j}
		if gathered && n == j.Size {
			h.Data = data[len(data)-n:]
			switch m[1] {
			case "X":
				sent = append(sent, h)
			case "F":
				fetched = append(fetched, h)
			}
		}
		if m[1] == "C" && s.mayStay(name) {
			j, _ := says(data, m[3])
			waits = append(waits, api.Held{System: system, Job: j, Data: map[bool]string{true: s["D"+m[2]]}[j.Kind != api.JobFetch]})
		}
		if m[1] == "E" && s.mayStay(name) {
			j, _ := says(data, m[3])
			failed = append(failed, api.Held{System: system, Job: j})
		}
	}
	for _, l := range [][]api.Held{waits, failed, sent, fetched} {
		slices.SortFunc(l, func(a, b api.Held) int {
			return cmp.Or(cmp.Compare(a.Job.Id.Grade, b.Job.Id.Grade), cmp.Compare(a.Job.Id.Number, b.Job.Id.Number), cmp.Compare(a.System, b.System))
		})
	}
	return fmt.Sprintf("%+v", api.View{Waits: waits, Failed: failed, Came: append(sent, fetched...)})
}

// anyFile: a file of few names, so that they have to do with one another, that often says what it has to.
func anyFile(r *rand.Rand) api.File {
	kind, id := "CCDDEFFOTUUX"[r.IntN(12)], []string{"n1", "n2", "N1", "n10"}[r.IntN(4)]
	name := fmt.Sprintf("%c.%s.%s", kind, []string{"duke", "a"}[r.IntN(2)], id)
	if r.IntN(12) == 0 {
		id = "n2"
	}
	size := r.IntN(3)
	text := fmt.Sprintf([]string{"S %s ann /a /b %d", "E %s ann /a /b %d rnews", "R %s ann /a /b %d", "R %s ann /a /b %d"}[r.IntN(4)], id, size)
	data := text
	switch kind {
	case 'D':
		data = strings.Repeat("x", r.IntN(3))
	case 'F', 'O', 'T', 'U', 'X':
		data = text + "\n" + strings.Repeat("\n", []int{size, size, r.IntN(4)}[r.IntN(3)])
	}
	switch r.IntN(16) {
	case 0:
		data = []string{"", "nonsense", text, text + " ", text + "\n"}[r.IntN(5)]
	case 1:
		name = []string{"N", "Q.duke", "S.a", "Q.Duke", "S", "strange", "C.duke.n01", "Z.duke.n1"}[r.IntN(8)]
		data = []string{"", "0", "7", "99999", "1099511627777", "x", text}[r.IntN(7)]
	}
	return file(name, data)
}

// anyDisk: a disk with all sorts of files, of which some are not synced.
func anyDisk(r *rand.Rand) api.Disk {
	d := made()
	for range r.IntN(40) {
		f := anyFile(r)
		switch r.IntN(10) {
		case 0:
			d = must(disk.Sync(d))
		case 1:
			d, _ = disk.Remove(d, f.Name)
		default:
			d = must(disk.Write(d, f.Name, f.Data))
		}
	}
	return d
}

// removed: the names of the files that d has been rid of behind what begun had.
func removed(d, begun api.Disk) []string {
	var l []string
	for _, op := range d.Ops[len(begun.Ops):] {
		if op.Kind != api.DiskRemove {
			panic(op)
		}
		l = append(l, op.Name)
	}
	return l
}

// P20.1 to P20.5: disks with all sorts of files, held against a second writing.
func TestAgain(t *testing.T) {
	r := rand.New(rand.NewPCG(1, 2))
	went, wholes, shown := 0, 0, 0
	for range 6000 {
		d := anyDisk(r)
		s := filesOf(d)
		was := s.shows()
		isAs(t, "View", mend.View(d), was)
		_, stray := s.stray()
		isAs(t, "Whole", mend.Whole(d), !stray)
		gone := s.mend()
		isAs(t, "the second writing's view behind it", s.shows(), was)

		// A disk that lasts just so long tells what was done to it.
		cut, e := mend.Mend(disk.Arm(d, len(gone)))
		isAs(t, "Mend of a disk that lasts for all but the sync", e, api.ErrDown)
		isAs(t, "what goes", removed(cut, d), gone)
		m, e := mend.Mend(d)
		isAs(t, "Mend", e, api.OK)
		isAs(t, "what is left", map[string]string(filesOf(m)), map[string]string(s))
		isAs(t, "what is not safe", len(m.Ops), 0)
		isAs(t, "View behind it", mend.View(m), was)
		isAs(t, "Whole behind it", mend.Whole(m), true)
		again, e := mend.Mend(m)
		isAs(t, "Mend of a whole one", e, api.OK)
		isDisk(t, "Mend of a whole one", again, m)
		if t.Failed() {
			t.Fatalf("of %q", disk.Files(d))
		}
		went += len(gone)
		wholes += map[bool]int{true: 1}[!stray]
		v := mend.View(d)
		shown += len(v.Waits) + len(v.Failed) + len(v.Came)
	}
	if went < 20000 || wholes < 200 || shown < 10000 {
		t.Errorf("too few files went, disks were whole, or jobs shown: %d, %d, %d", went, wholes, shown)
	}
}

// P20.6: a crash at each place of Mend, with each beginning of what it did, and another one while it is mended anew: the same spool at last.
func TestCrashes(t *testing.T) {
	r := rand.New(rand.NewPCG(3, 4))
	cuts := 0
	for range 300 {
		d := must(disk.Sync(anyDisk(r)))
		want := must(mend.Mend(d))
		view := fmt.Sprintf("%+v", mend.View(d))
		most := len(disk.Files(d)) - len(disk.Files(want))
		for lasts := range most + 2 {
			for keep := range lasts + 1 {
				cut, e := mend.Mend(disk.Arm(d, lasts))
				isAs(t, "whether it was cut", e == api.ErrDown, lasts <= most)
				crashed := disk.Start(disk.Crash(cut, keep))
				isAs(t, "View behind the crash", mend.View(crashed), view)
				isDisk(t, "Mend anew", must(mend.Mend(crashed)), want)
				cut, _ = mend.Mend(disk.Arm(crashed, r.IntN(most+2)))
				crashed = disk.Start(disk.Crash(cut, r.IntN(most+2)))
				isDisk(t, "Mend behind two crashes", must(mend.Mend(crashed)), want)
				cuts++
			}
		}
		// A disk that went down by itself has all that was done to it.
		cut, _ := mend.Mend(disk.Arm(d, r.IntN(most+1)))
		isDisk(t, "Mend behind a start alone", must(mend.Mend(disk.Arm(disk.Start(cut), -1))), want)
	}
	if cuts < 5000 {
		t.Errorf("too few crashes: %d", cuts)
	}
}

// anyCall: d behind a call of a layer below, of few jobs, so that they meet.
func anyCall(r *rand.Rand, d api.Disk) api.Disk {
	system := []string{"duke", "a"}[r.IntN(2)]
	kind := []int{'X', 'F'}[r.IntN(2)]
	j := api.Job{Id: api.Id{Grade: 'n', Number: 1 + r.IntN(8)}, Kind: 1 + r.IntN(3), User: "ann", From: "/a", To: "/b", Size: r.IntN(3)}
	if jobs := spool.Jobs(d, system); len(jobs) > 0 && r.IntN(4) > 0 {
		j = jobs[r.IntN(len(jobs))].Job
	}
	j.Command = map[bool]string{true: "rnews"}[j.Kind == api.JobExec]
	switch r.IntN(8) {
	case 0, 1:
		d, _, _ = spool.Queue(d, system, j, strings.Repeat("x", map[bool]int{true: r.IntN(3)}[j.Kind != api.JobFetch]))
	case 2:
		d, _ = spool.Done(d, system, j.Id)
	case 3:
		d, _ = spool.Fail(d, system, j.Id)
	case 4, 5:
		d, _, _ = inbox.Begin(d, kind, system, j)
	case 6:
		d, _ = inbox.More(d, kind, system, j.Id, strings.Repeat("y", r.IntN(3)))
	case 7:
		d, _ = inbox.Finish(d, kind, system, j.Id)
	}
	return d
}

// P20.4, P20.5 and what W2 asks: walks of calls of the layers below, some of which the power does not outlast: behind each crash the spool is mended to a whole one that shows what it showed, and mended anew it stays.
func TestWalks(t *testing.T) {
	r := rand.New(rand.NewPCG(5, 6))
	crashes, mended := 0, 0
	for range 200 {
		d := made()
		for range 80 {
			if r.IntN(3) == 0 {
				d = disk.Arm(d, r.IntN(5))
			}
			d = anyCall(r, d)
			if !d.Down && r.IntN(6) > 0 {
				continue
			}
			d = disk.Start(disk.Crash(d, r.IntN(5)))
			view, wasWhole := fmt.Sprintf("%+v", mend.View(d)), mend.Whole(d)
			m := must(mend.Mend(d))
			isAs(t, "Whole", mend.Whole(m), true)
			isAs(t, "View", mend.View(m), view)
			isDisk(t, "Mend anew", must(mend.Mend(m)), m)
			if wasWhole {
				isDisk(t, "Mend of a whole one", m, d)
			}
			if t.Failed() {
				t.Fatalf("of %q", disk.Files(d))
			}
			crashes++
			mended += map[bool]int{true: 1}[!wasWhole]
			d = m
		}
	}
	if crashes < 3000 || mended < 300 {
		t.Errorf("too few crashes, or spools that were mended: %d, %d", crashes, mended)
	}
}

// R1: disks that no call makes.
func TestAnyDisk(t *testing.T) {
	r := rand.New(rand.NewPCG(7, 8))
	numbers := []int{-1 << 63, -1, 0, 1, 200, 1<<63 - 1}
	for range 5000 {
		d := api.Disk{Cap: numbers[r.IntN(6)], Fuse: r.IntN(8) - 3, Down: r.IntN(8) == 0}
		for range r.IntN(12) {
			f := anyFile(r)
			f.Name = []string{f.Name, f.Name, f.Name, "", "\x00", "a/b"}[r.IntN(6)]
			d.Safe = append(d.Safe, f)
		}
		for range r.IntN(5) {
			a, b := anyFile(r), anyFile(r)
			d.Ops = append(d.Ops, api.DiskOp{Kind: r.IntN(7) - 1, Name: a.Name, To: b.Name, Data: a.Data})
		}
		was := d
		was.Safe, was.Ops = slices.Clone(d.Safe), slices.Clone(d.Ops)
		mend.View(d)
		mend.Whole(d)
		mend.Mend(d)
		isDisk(t, "what was handed in", d, was)
	}
}
