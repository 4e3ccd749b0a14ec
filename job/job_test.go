package job

import (
	"fmt"
	"math"
	"slices"
	"strings"
	"testing"

	"postchaise/api"
	"postchaise/name"
	"postchaise/path"
)

func id(grade, number int) api.Id { return api.Id{Grade: grade, Number: number} }

func send() api.Job {
	return api.Job{Id: id('n', 7), Kind: api.JobSend, User: "ann", From: "/a", To: "/b", Size: 5}
}

func exec(command string) api.Job {
	j := send()
	j.Kind, j.Command = api.JobExec, command
	return j
}

func fetch() api.Job {
	j := send()
	j.Kind = api.JobFetch
	return j
}

// with: j, changed.
func with(j api.Job, change func(*api.Job)) api.Job {
	change(&j)
	return j
}

func long(n int) string { return "/" + strings.Repeat("p", n-1) }

// greatest: the job with the longest text.
func greatest() api.Job {
	return api.Job{
		Id: id('z', 99999), Kind: api.JobExec, User: "abcdefgh", From: long(40), To: long(40),
		Command: strings.Repeat("c", 60), Size: 6000,
	}
}

// manyJobs: jobs that may be, no two alike: each of these has its fields turned one by one.
func manyJobs() []api.Job {
	jobs := []api.Job{}
	add := func(j api.Job, change func(*api.Job)) {
		if one := with(j, change); !slices.Contains(jobs, one) {
			jobs = append(jobs, one)
		}
	}
	for _, j := range []api.Job{send(), exec("rmail ann"), fetch(), greatest()} {
		for _, x := range []api.Id{id('0', 1), id('9', 10), id('A', 99), id('Z', 99999), id('a', 12345), id('n', 7), id('n', 70), id('z', 1)} {
			add(j, func(j *api.Job) { j.Id = x })
		}
		for _, u := range []string{"a", "z", "0", "9", "00", "ann", "a1", "1a", "abcdefgh", "12345678"} {
			add(j, func(j *api.Job) { j.User = u })
		}
		for _, p := range []string{"/", "/a", "/b", "/a/b", "/!~", "/5", "/...", long(39), long(40)} {
			add(j, func(j *api.Job) { j.From = p })
			add(j, func(j *api.Job) { j.To = p })
		}
		for _, n := range []int{0, 1, 5, 9, 10, 50, 99, 100, 999, 1000, 5999, 6000} {
			add(j, func(j *api.Job) { j.Size = n })
		}
	}
	for _, c := range []string{"x", "rmail ann", "a  b", "a b c d e f g h", "~", "!", "0", "5", "05", "a\"b", "S n7 ann /a /b 5", "-", strings.Repeat("c", 59), strings.Repeat("c", 60), "c" + strings.Repeat(" ", 58) + "c"} {
		add(exec(c), func(*api.Job) {})
	}
	return jobs
}

// P5.1
func TestCheckTakesJobs(t *testing.T) {
	for _, j := range manyJobs() {
		if got := Check(j); got != api.OK {
			t.Errorf("Check(%+v): %d", j, got)
		}
	}
}

// fault: what is wrong with a job, and what Check says of it.
type fault struct {
	what   string
	spoil  func(*api.Job)
	answer api.Errno
}

// faults: one of each kind, in the order in which P5.1 names them.
func faults() []fault {
	return []fault{
		{"the id", func(j *api.Job) { j.Id.Number = 0 }, api.ErrArg},
		{"the kind", func(j *api.Job) { j.Kind += 10 }, api.ErrArg},
		{"the user", func(j *api.Job) { j.User = "Ann" }, api.ErrName},
		{"from", func(j *api.Job) { j.From = "a" }, api.ErrForm},
		{"to", func(j *api.Job) { j.To = long(41) }, api.ErrForm},
		{"the command", func(j *api.Job) { j.Command = " x" }, api.ErrForm},
		{"the size", func(j *api.Job) { j.Size = 6001 }, api.ErrLong},
	}
}

// P5.1, R2: of several faults the first one is told, whichever others there are.
func TestCheckInOrder(t *testing.T) {
	all := faults()
	for _, whole := range []api.Job{send(), exec("rmail ann"), fetch()} {
		for set := range 1 << len(all) {
			j, want := whole, api.OK
			for i, f := range all {
				if set>>i&1 == 0 {
					continue
				}
				f.spoil(&j)
				if want == api.OK {
					want = f.answer
				}
			}
			if got := Check(j); got != want {
				t.Errorf("Check(%+v): %d, want %d", j, got, want)
			}
			if s, got := Text(j); got != want || want != api.OK && s != "" {
				t.Errorf("Text(%+v): %q, %d, want %d", j, s, got, want)
			}
		}
	}
}

// P5.1
func TestCheckId(t *testing.T) {
	for _, x := range []api.Id{id(0, 0), id('n', 0), id('n', -1), id('n', 100000), id('n', math.MaxInt), id('n', math.MinInt), id(0, 7), id('/', 7), id(':', 7), id('@', 7), id('[', 7), id('`', 7), id('{', 7), id(' ', 7), id(-1, 7), id('n'+256, 7), id('n'+1<<32, 7), id(math.MaxInt, 7), id(math.MinInt, 7)} {
		if got := Check(with(send(), func(j *api.Job) { j.Id = x })); got != api.ErrArg {
			t.Errorf("Check of the id %v: %d", x, got)
		}
	}
}

// P5.1
func TestCheckKind(t *testing.T) {
	for _, k := range []int{0, -1, 4, 5, 'S', 'E', 'R', 1 + 256, 1 + 1<<32, math.MaxInt, math.MinInt} {
		for _, command := range []string{"", "x"} {
			if got := Check(with(exec(command), func(j *api.Job) { j.Kind = k })); got != api.ErrArg {
				t.Errorf("Check of the kind %d: %d", k, got)
			}
		}
	}
}

// P5.1: each byte, alone and at each place of a user's name, and its length.
func TestCheckUser(t *testing.T) {
	for c := range 256 {
		b := string([]byte{byte(c)})
		want := api.ErrName
		if c >= 'a' && c <= 'z' || c >= '0' && c <= '9' {
			want = api.OK
		}
		for _, u := range []string{b, b + "a", "a" + b, "0" + b, "a" + b + "0", "abcdefg" + b} {
			if got := Check(with(send(), func(j *api.Job) { j.User = u })); got != want {
				t.Errorf("Check of the user %q: %d, want %d", u, got, want)
			}
		}
	}
	for n := range 300 {
		want := api.OK
		if n < 1 || n > 8 {
			want = api.ErrName
		}
		if got := Check(with(send(), func(j *api.Job) { j.User = strings.Repeat("u", n) })); got != want {
			t.Errorf("Check of a user of %d bytes: %d, want %d", n, got, want)
		}
	}
}

// P5.1: a path that is too long is of a wrong form for a job.
func TestCheckPaths(t *testing.T) {
	for _, p := range []string{"", "a", "a/b", "//", "/a/", "/a//b", "/.", "/..", "/a/../b", "/a b", " /a", "/a ", "/\x1f", "/\x7f", "/\xff", "/é", long(41), long(300), long(1000), strings.Repeat("/", 41)} {
		for _, j := range []api.Job{send(), exec("x"), fetch()} {
			if got := Check(with(j, func(j *api.Job) { j.From = p })); got != api.ErrForm {
				t.Errorf("Check of %q as From: %d", p, got)
			}
			if got := Check(with(j, func(j *api.Job) { j.To = p })); got != api.ErrForm {
				t.Errorf("Check of %q as To: %d", p, got)
			}
		}
	}
}

// P5.1: each byte, alone and at each place of a command, and its length.
func TestCheckCommand(t *testing.T) {
	for c := range 256 {
		b := string([]byte{byte(c)})
		want := func(ok bool) api.Errno {
			if ok {
				return api.OK
			}
			return api.ErrForm
		}
		edge, inside := c >= 33 && c <= 126, c >= 32 && c <= 126
		for _, one := range []struct {
			command string
			ok      bool
		}{
			{b, edge}, {b + "a", edge}, {"a" + b, edge}, {"a" + b + "a", inside}, {"a" + b + b + "a", inside}, {"a " + b, edge}, {b + " a", edge},
		} {
			if got := Check(exec(one.command)); got != want(one.ok) {
				t.Errorf("Check of the command %q: %d", one.command, got)
			}
		}
	}
	for n := range 300 {
		want := api.OK
		if n < 1 || n > 60 {
			want = api.ErrForm
		}
		if got := Check(exec(strings.Repeat("c", n))); got != want {
			t.Errorf("Check of a command of %d bytes: %d, want %d", n, got, want)
		}
	}
}

// P5.1: only an exec has a command.
func TestCheckNoCommand(t *testing.T) {
	for _, command := range []string{"x", " ", "rmail ann", "\x00", strings.Repeat("c", 61)} {
		for _, j := range []api.Job{send(), fetch()} {
			if got := Check(with(j, func(j *api.Job) { j.Command = command })); got != api.ErrForm {
				t.Errorf("Check of the kind %d with the command %q: %d", j.Kind, command, got)
			}
		}
	}
}

// P5.1
func TestCheckSize(t *testing.T) {
	for want, sizes := range map[api.Errno][]int{
		api.OK:      {0, 1, 2, 4096, 5999, 6000},
		api.ErrLong: {-1, -2, 6001, 6002, 60000, api.MaxNumber, 1 << 32, math.MaxInt, math.MinInt},
	} {
		for _, n := range sizes {
			for _, j := range []api.Job{send(), exec("x"), fetch()} {
				if got := Check(with(j, func(j *api.Job) { j.Size = n })); got != want {
					t.Errorf("Check of %d bytes: %d, want %d", n, got, want)
				}
			}
		}
	}
}

// P5.2: the texts, and the jobs that they say.
func TestTextAndParse(t *testing.T) {
	for s, j := range map[string]api.Job{
		"S n7 ann /a /b 5":                  send(),
		"R n7 ann /a /b 5":                  fetch(),
		"E n7 ann /a /b 5 rmail ann":        exec("rmail ann"),
		"E n7 ann /a /b 5 x":                exec("x"),
		"E n7 ann /a /b 5 a  b   c":         exec("a  b   c"),
		"E n7 ann /a /b 5 5":                exec("5"),
		"E n7 ann /a /b 5 S n7 ann /a /b 5": exec("S n7 ann /a /b 5"),
		"S 01 0 / / 0":                      {Id: id('0', 1), Kind: api.JobSend, User: "0", From: "/", To: "/"},
		"R Z99999 bob1 /x/y /x.z 6000":      {Id: id('Z', 99999), Kind: api.JobFetch, User: "bob1", From: "/x/y", To: "/x.z", Size: 6000},
		"E z99999 abcdefgh " + long(40) + " " + long(40) + " 6000 " + strings.Repeat("c", 60): greatest(),
	} {
		if got, e := Text(j); got != s || e != api.OK {
			t.Errorf("Text(%+v): %q, %d, want %q", j, got, e, s)
		}
		if got, e := Parse(s); got != j || e != api.OK {
			t.Errorf("Parse(%q): %+v, %d, want %+v", s, got, e, j)
		}
	}
}

// noTexts: what comes near to a job's text, and is none.
func noTexts() []string {
	texts := []string{
		"", " ", "S", "E", "R", "     ", "      ", "       ",
		"S n7 ann /a /b", "S n7 ann /a /b ", "S n7 ann /a /b 5 ", "S n7 ann /a /b 5 x", "S n7 ann /a /b 5  ", "R n7 ann /a /b 5 x", "R n7 ann /a /b 5 ",
		" S n7 ann /a /b 5", "S  n7 ann /a /b 5", "S n7  ann /a /b 5", "S n7 ann  /a /b 5", "S n7 ann /a  /b 5", "S n7 ann /a /b  5",
		"S n7 ann /a /b 05", "S n7 ann /a /b 00", "S n7 ann /a /b -5", "S n7 ann /a /b +5", "S n7 ann /a /b 5.", "S n7 ann /a /b 0x5", "S n7 ann /a /b x", "S n7 ann /a /b -0",
		"S n7 ann /a /b 6001", "S n7 ann /a /b 99999999999999999999", "S n7 ann /a /b 18446744073709551621", "S n7 ann /a /b 5\n", "S n7 ann /a /b ٥",
		"s n7 ann /a /b 5", "e n7 ann /a /b 5 x", "F n7 ann /a /b 5", "1 n7 ann /a /b 5", "SS n7 ann /a /b 5", "SE n7 ann /a /b 5", " n7 ann /a /b 5", "\x01 n7 ann /a /b 5",
		"S n07 ann /a /b 5", "S n0 ann /a /b 5", "S n ann /a /b 5", "S 7 ann /a /b 5", "S n100000 ann /a /b 5", "S -7 ann /a /b 5", "S n-7 ann /a /b 5", "S n+7 ann /a /b 5", "S n7x ann /a /b 5", "S é7 ann /a /b 5",
		"S n7 Ann /a /b 5", "S n7 abcdefghi /a /b 5", "S n7 /a /b 5", "S n7 a.b /a /b 5", "S n7 é /a /b 5",
		"S n7 ann a /b 5", "S n7 ann /a b 5", "S n7 ann /a/ /b 5", "S n7 ann /a /b/.. 5", "S n7 ann /a /../b 5", "S n7 ann " + long(41) + " /b 5", "S n7 ann /a " + long(41) + " 5",
		"E n7 ann /a /b 5", "E n7 ann /a /b 5 ", "E n7 ann /a /b 5  x", "E n7 ann /a /b 5 x ", "E n7 ann /a /b 5 \x1f", "E n7 ann /a /b 5 \x7f", "E n7 ann /a /b 5 é", "E n7 ann /a /b 5 x\n", "E n7 ann /a /b 05 x", "E n7 ann /a /b x",
		"E n7 ann /a /b 5 " + strings.Repeat("c", 61),
		"S\tn7\tann\t/a\t/b\t5", "S n7 ann /a /b\u00a05", "S n7 ann /a /b 5\x00", "\xff\xff", strings.Repeat("S n7 ann /a /b 5 ", 1000), strings.Repeat(" ", 100000),
	}
	return texts
}

// P5.2, R2
func TestParseWrong(t *testing.T) {
	for _, s := range noTexts() {
		if j, e := Parse(s); j != (api.Job{}) || e != api.ErrForm {
			t.Errorf("Parse(%q): %+v, %d", s, j, e)
		}
	}
}

// P5.4: a job's text says just that job; no two have the same, and none is longer than 200 bytes.
func TestTextSaysTheJob(t *testing.T) {
	seen := map[string]api.Job{}
	for _, j := range manyJobs() {
		s, e := Text(j)
		if e != api.OK || len(s) > 200 {
			t.Errorf("Text(%+v): %q, %d, of %d bytes", j, s, e, len(s))
		}
		if other, there := seen[s]; there {
			t.Errorf("%q is the text of %+v and of %+v", s, j, other)
		}
		seen[s] = j
		if got, e := Parse(s); got != j || e != api.OK {
			t.Errorf("Parse(%q): %+v, %d, want %+v", s, got, e, j)
		}
	}
}

// P5.4: the parts of a text are told from one another, wherever bytes pass from one to the next.
func TestUnlikeTexts(t *testing.T) {
	for _, pair := range [][2]api.Job{
		{exec("5 x"), with(exec("x"), func(j *api.Job) { j.Size = 55 })},
		{with(send(), func(j *api.Job) { j.Id = id('1', 11) }), with(send(), func(j *api.Job) { j.Id = id('1', 1); j.User = "1ann" })},
		{with(send(), func(j *api.Job) { j.From, j.To = "/a/b", "/c" }), with(send(), func(j *api.Job) { j.From, j.To = "/a", "/b/c" })},
		{exec("x y"), exec("x  y")},
		{send(), fetch()}, {send(), exec("x")},
	} {
		a, _ := Text(pair[0])
		b, _ := Text(pair[1])
		if a == b || a == "" || b == "" {
			t.Errorf("%+v and %+v: %q and %q", pair[0], pair[1], a, b)
		}
	}
}

// mayBe: P5.1, written once more by what stands below.
func mayBe(j api.Job) bool {
	inside := func(s string, most int, in func(rune) bool) bool {
		return s != "" && len(s) <= most && strings.IndexFunc(s, func(r rune) bool { return !in(r) }) < 0
	}
	_, e := name.Id(j.Id)
	user := inside(j.User, 8, func(r rune) bool { return r >= 'a' && r <= 'z' || r >= '0' && r <= '9' })
	paths := path.Check(j.From) == api.OK && path.Check(j.To) == api.OK
	command := j.Command == ""
	if j.Kind == api.JobExec {
		command = inside(j.Command, 60, func(r rune) bool { return r >= 32 && r <= 126 }) && strings.Trim(j.Command, " ") == j.Command
	}
	return e == api.OK && j.Kind >= 1 && j.Kind <= 3 && user && paths && command && j.Size >= 0 && j.Size <= 6000
}

// written: P5.2, written once more.
func written(j api.Job) string {
	s := fmt.Sprintf("%c %c%d %s %s %s %d", "?SER"[j.Kind], j.Id.Grade, j.Id.Number, j.User, j.From, j.To, j.Size)
	if j.Kind == api.JobExec {
		s += " " + j.Command
	}
	return s
}

// P5.2, P5.4: texts with a byte changed, put in or left out are the text of the job that they say, or of none.
func TestParseTurned(t *testing.T) {
	said := 0
	for _, j := range []api.Job{send(), fetch(), exec("x y"), {Id: id('0', 1), Kind: api.JobSend, User: "0", From: "/", To: "/"}} {
		s, _ := Text(j)
		for at := range len(s) + 1 {
			tails := []string{s[at:]}
			if at < len(s) {
				tails = append(tails, s[at+1:])
			}
			for _, tail := range tails {
				for c := range 257 {
					turned := s[:at] + tail
					if c < 256 {
						turned = s[:at] + string([]byte{byte(c)}) + tail
					}
					got, e := Parse(turned)
					switch {
					case e == api.OK:
						said++
						if !mayBe(got) || written(got) != turned {
							t.Fatalf("Parse(%q): %+v", turned, got)
						}
					case e != api.ErrForm || got != (api.Job{}):
						t.Fatalf("Parse(%q): %+v, %d", turned, got, e)
					}
				}
			}
		}
	}
	if said < 1000 {
		t.Errorf("only %d of the texts said a job", said)
	}
}

// marked: a job of that id, told from others of it by its mark.
func marked(x api.Id, mark int) api.Job {
	return api.Job{Id: x, Size: mark}
}

// P5.3
func TestOrder(t *testing.T) {
	l := []api.Job{
		marked(id('n', 7), 1), marked(id('a', 7), 2), marked(id('n', 3), 3), marked(id('n', 7), 4), marked(id('Z', 99999), 5), marked(id('0', 2), 6), marked(id('a', 10), 7), marked(id('a', 9), 8), marked(id('n', 7), 9), marked(id('0', 1), 10),
	}
	want := []int{10, 6, 5, 2, 8, 7, 3, 1, 4, 9}
	var got []int
	for _, j := range Order(l) {
		got = append(got, j.Size)
	}
	if !slices.Equal(got, want) {
		t.Errorf("Order: %v, want %v", got, want)
	}
}

// P5.3: jobs of one id stand as they stood, be they many, and whatever else they say.
func TestOrderKeepsEquals(t *testing.T) {
	var l []api.Job
	for i := range 1000 {
		j := marked(id('a'+i%3, 1+i%2), 1000-i)
		j.Kind, j.User, j.From, j.To = 3-i%3, strings.Repeat("z", i%5), strings.Repeat("/", i%7), strings.Repeat("/", i%4)
		l = append(l, j)
	}
	got := Order(l)
	if len(got) != len(l) {
		t.Fatalf("%d jobs, want %d", len(got), len(l))
	}
	for i := 1; i < len(got); i++ {
		if got[i].Id == got[i-1].Id && got[i].Size >= got[i-1].Size {
			t.Fatalf("%+v behind %+v", got[i], got[i-1])
		}
	}
}

// P5.3: ids that may not be, at the ends of int, have their order too.
func TestOrderOfStrangeIds(t *testing.T) {
	ids := []api.Id{id(math.MinInt, math.MinInt), id(math.MinInt, math.MaxInt), id(-1, 0), id(0, math.MinInt), id(0, -1), id(0, 0), id(0, math.MaxInt), id('a', -5), id(math.MaxInt, math.MinInt), id(math.MaxInt, math.MaxInt)}
	var l []api.Job
	for i := range ids {
		l = append(l, marked(ids[i*7%len(ids)], i))
	}
	for i, j := range Order(l) {
		if j.Id != ids[i] {
			t.Errorf("at %d stands %v, want %v", i, j.Id, ids[i])
		}
	}
}

// allLists: every list of at most n jobs of these ids, marked by their places.
func allLists(ids []api.Id, n int) [][]api.Job {
	lists := [][]api.Job{nil}
	for from := 0; n > 0; n-- {
		end := len(lists)
		for _, l := range lists[from:end] {
			for _, x := range ids {
				lists = append(lists, append(slices.Clone(l), marked(x, len(l))))
			}
		}
		from = end
	}
	return lists
}

// P5.3, P5.5: the same jobs, each as often; no id behind a greater one; those of one id as they stood.
func TestOrderOfAllLists(t *testing.T) {
	for _, l := range allLists([]api.Id{id('A', 2), id('a', 1), id('a', 2)}, 6) {
		got := Order(l)
		times := map[api.Job]int{}
		for _, j := range l {
			times[j]++
		}
		for i, j := range got {
			times[j]--
			if i > 0 && (name.Less(j.Id, got[i-1].Id) || j.Id == got[i-1].Id && j.Size < got[i-1].Size) {
				t.Fatalf("Order(%v): %v", l, got)
			}
		}
		for j, n := range times {
			if n != 0 {
				t.Fatalf("Order(%v): %v: %v is there %d times less", l, got, j, n)
			}
		}
	}
}

// P5.5: a job that stands twice stands there twice.
func TestOrderKeepsTwins(t *testing.T) {
	a, b := send(), marked(id('a', 1), 0)
	if got := Order([]api.Job{a, b, a, b, a}); !slices.Equal(got, []api.Job{b, b, a, a, a}) {
		t.Errorf("Order: %v", got)
	}
}

// R3: nothing handed in is changed, nor the room behind it, and what is answered is new memory.
func TestOrderMemory(t *testing.T) {
	room := []api.Job{marked(id('b', 1), 1), marked(id('a', 1), 2), marked(id('c', 1), 3), marked(id('0', 1), 4)}
	for n := range len(room) + 1 {
		mine := slices.Clone(room)
		got := Order(mine[:n])
		for i := range cap(got) {
			got[:cap(got)][i] = api.Job{}
		}
		if !slices.Equal(mine, room) {
			t.Errorf("Order of %d changed %v into %v", n, room, mine)
		}
	}
	for _, l := range [][]api.Job{nil, {}} {
		if got := Order(l); len(got) != 0 {
			t.Errorf("Order of none: %v", got)
		}
	}
}
