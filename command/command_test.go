package command

import (
	"fmt"
	"math"
	"regexp"
	"slices"
	"strconv"
	"strings"
	"testing"

	"postchaise/api"
	"postchaise/job"
)

func send() api.Job {
	return api.Job{Id: api.Id{Grade: 'n', Number: 7}, Kind: api.JobSend, User: "ann", From: "/a", To: "/b", Size: 5}
}

func exec(command string) api.Job {
	j := send()
	j.Kind, j.Command = api.JobExec, command
	return j
}

func fetch() api.Job {
	j := send()
	j.Kind = api.JobFetch
	return j
}

// with: j, changed.
func with(j api.Job, change func(*api.Job)) api.Job {
	change(&j)
	return j
}

// greatest: the job with the longest text.
func greatest() api.Job {
	long := "/" + strings.Repeat("p", 39)
	return api.Job{
		Id: api.Id{Grade: 'z', Number: 99999}, Kind: api.JobExec, User: "abcdefgh", From: long, To: long,
		Command: strings.Repeat("~", 60), Size: 6000,
	}
}

// least: the job with the shortest text.
func least() api.Job {
	return api.Job{Id: api.Id{Grade: '0', Number: 1}, Kind: api.JobSend, User: "0", From: "/", To: "/"}
}

// manyJobs: jobs that may be, no two alike.
func manyJobs() []api.Job {
	jobs := []api.Job{}
	add := func(j api.Job, change func(*api.Job)) {
		if one := with(j, change); !slices.Contains(jobs, one) {
			jobs = append(jobs, one)
		}
	}
	for _, j := range []api.Job{send(), exec("rmail ann"), fetch(), least(), greatest()} {
		add(j, func(*api.Job) {})
		add(j, func(j *api.Job) { j.Id.Grade = 'Z' })
		add(j, func(j *api.Job) { j.Id.Number = 12 })
		add(j, func(j *api.Job) { j.User = "bob1" })
		add(j, func(j *api.Job) { j.From = "/x/y" })
		add(j, func(j *api.Job) { j.To = "/x.z" })
		add(j, func(j *api.Job) { j.Size = 0 })
		add(j, func(j *api.Job) { j.Size = 4096 })
	}
	for _, command := range []string{"x", "H", "C", "Y 0", "N 8", "S n7 ann /a /b 5", "a  b"} {
		add(exec(command), func(*api.Job) {})
	}
	return jobs
}

// verbOf: the verb by which j is said.
func verbOf(j api.Job) int {
	return map[int]int{api.JobSend: api.CmdSend, api.JobExec: api.CmdSend, api.JobFetch: api.CmdFetch}[j.Kind]
}

func say(j api.Job) api.Cmd { return api.Cmd{Verb: verbOf(j), Job: j} }

func word(verb, at int) api.Cmd { return api.Cmd{Verb: verb, At: at} }

// manyWords: words that may be, no two alike: all of those without a job.
func manyWords() []api.Cmd {
	words := []api.Cmd{word(api.CmdHangup, 0), word(api.CmdDone, 0)}
	for at := range 6001 {
		words = append(words, word(api.CmdYes, at))
	}
	for at := range 10 {
		words = append(words, word(api.CmdNo, at), word(api.CmdFail, at))
	}
	for _, j := range manyJobs() {
		words = append(words, say(j))
	}
	return words
}

func verbs() []int {
	return []int{api.CmdSend, api.CmdFetch, api.CmdHangup, api.CmdYes, api.CmdNo, api.CmdDone, api.CmdFail}
}

// whole: a word of that verb that may be.
func whole(verb int) api.Cmd {
	switch verb {
	case api.CmdSend:
		return say(send())
	case api.CmdFetch:
		return say(fetch())
	}
	return word(verb, 0)
}

func wantNoText(t *testing.T, c api.Cmd, want api.Errno) {
	t.Helper()
	if s, e := Text(c); s != "" || e != want {
		t.Errorf("Text(%+v): %q, %d, want %d", c, s, e, want)
	}
}

func wantNoWord(t *testing.T, s string) {
	t.Helper()
	if c, e := Parse(s); c != (api.Cmd{}) || e != api.ErrForm {
		t.Errorf("Parse(%q): %+v, %d", s, c, e)
	}
}

// P10.1, P10.2: the texts, and the words that they say.
func TestTextAndParse(t *testing.T) {
	for s, c := range map[string]api.Cmd{
		"H":                          word(api.CmdHangup, 0),
		"C":                          word(api.CmdDone, 0),
		"Y 0":                        word(api.CmdYes, 0),
		"Y 7":                        word(api.CmdYes, 7),
		"Y 10":                       word(api.CmdYes, 10),
		"Y 4096":                     word(api.CmdYes, 4096),
		"Y 6000":                     word(api.CmdYes, 6000),
		"N 0":                        word(api.CmdNo, 0),
		"N 2":                        word(api.CmdNo, api.NoPath),
		"N 4":                        word(api.CmdNo, api.NoRoom),
		"N 6":                        word(api.CmdNo, api.NoFile),
		"N 8":                        word(api.CmdNo, api.NoAgain),
		"N 9":                        word(api.CmdNo, 9),
		"F 0":                        word(api.CmdFail, 0),
		"F 4":                        word(api.CmdFail, 4),
		"F 9":                        word(api.CmdFail, 9),
		"S n7 ann /a /b 5":           {Verb: api.CmdSend, Job: send()},
		"E n7 ann /a /b 5 rmail ann": {Verb: api.CmdSend, Job: exec("rmail ann")},
		"E n7 ann /a /b 5 Y 0":       {Verb: api.CmdSend, Job: exec("Y 0")},
		"R n7 ann /a /b 5":           {Verb: api.CmdFetch, Job: fetch()},
		"S 01 0 / / 0":               {Verb: api.CmdSend, Job: least()},
	} {
		if got, e := Text(c); got != s || e != api.OK {
			t.Errorf("Text(%+v): %q, %d, want %q", c, got, e, s)
		}
		if got, e := Parse(s); got != c || e != api.OK {
			t.Errorf("Parse(%q): %+v, %d, want %+v", s, got, e, c)
		}
	}
}

// P10.1: a job is said by its own text.
func TestTextOfJobs(t *testing.T) {
	for _, j := range manyJobs() {
		want, _ := job.Text(j)
		if got, e := Text(say(j)); got != want || want == "" || e != api.OK {
			t.Errorf("Text of %+v: %q, %d, want %q", j, got, e, want)
		}
	}
}

// P10.1: a verb that is none is wrong, whatever else the word has.
func TestTextVerb(t *testing.T) {
	for _, verb := range []int{0, -1, -7, 8, 9, 'S', 'R', 'H', 'Y', 'N', 'C', 'F', 3 + 256, 6 + 1<<32, math.MaxInt, math.MinInt} {
		for _, j := range []api.Job{{}, send(), exec("x"), fetch(), {Kind: verb}} {
			for _, at := range []int{0, 1, -1, 9, 6000} {
				wantNoText(t, api.Cmd{Verb: verb, Job: j, At: at}, api.ErrArg)
			}
		}
	}
}

// P10.1: each verb with jobs of all kinds.
func TestTextKind(t *testing.T) {
	kinds := []int{api.JobSend, api.JobExec, api.JobFetch, 0, 4, -1, 'S', 'E', 'R', 1 + 256, 1 + 1<<32, math.MaxInt, math.MinInt}
	for _, verb := range verbs() {
		for _, j := range []api.Job{send(), exec("x")} {
			for _, kind := range kinds {
				j.Kind = kind
				if job.Check(j) == api.OK && verbOf(j) == verb {
					continue
				}
				want := api.ErrArg
				if verbOf(j) == verb {
					want = api.ErrForm // of the right kind, with a command or without one as another kind has it
				}
				wantNoText(t, api.Cmd{Verb: verb, Job: j}, want)
			}
		}
	}
}

// P10.1: where a verb has a job the zero one is of another kind.
func TestTextWithoutJob(t *testing.T) {
	for _, verb := range []int{api.CmdSend, api.CmdFetch} {
		wantNoText(t, word(verb, 0), api.ErrArg)
	}
}

// P10.1: where a verb has no job, none of its fields may be there.
func TestTextJobNotZero(t *testing.T) {
	for _, verb := range verbs() {
		if whole(verb).Job != (api.Job{}) {
			continue
		}
		for _, j := range []api.Job{
			{Id: api.Id{Grade: 'n'}}, {Id: api.Id{Grade: -1}}, {Id: api.Id{Number: 1}}, {Kind: api.JobSend}, {Kind: api.JobExec}, {Kind: api.JobFetch}, {Kind: -1},
			{User: "a"}, {User: "\x00"}, {From: "/"}, {To: "/"}, {Command: " "}, {Size: 1}, {Size: -1}, {Size: math.MinInt},
			send(), exec("x"), fetch(), greatest(),
		} {
			wantNoText(t, api.Cmd{Verb: verb, Job: j}, api.ErrArg)
		}
	}
}

// P10.1: each verb with At from below its room to above it, and at the ends of int.
func TestTextAt(t *testing.T) {
	most := map[int]int{api.CmdYes: 6000, api.CmdNo: 9, api.CmdFail: 9}
	ends := []int{-api.MaxNumber, api.MaxNumber, 1 << 32, 1<<32 + 1, math.MaxInt - 1, math.MaxInt, math.MinInt, math.MinInt + 1}
	for at := -50; at <= 7000; at++ {
		ends = append(ends, at)
	}
	for _, verb := range verbs() {
		for _, at := range ends {
			c := whole(verb)
			c.At = at
			if at < 0 || at > most[verb] {
				wantNoText(t, c, api.ErrArg)
				continue
			}
			want := written(c)
			if s, e := Text(c); s != want || e != api.OK {
				t.Errorf("Text(%+v): %q, %d, want %q", c, s, e, want)
			}
		}
	}
}

// jobFaults: what is wrong with a job behind its kind, and what job.Text says of it.
func jobFaults() map[api.Errno][]func(*api.Job) {
	return map[api.Errno][]func(*api.Job){
		api.ErrArg:  {func(j *api.Job) { j.Id.Number = 0 }, func(j *api.Job) { j.Id.Number = 100000 }, func(j *api.Job) { j.Id.Grade = '!' }, func(j *api.Job) { j.Id = api.Id{} }},
		api.ErrName: {func(j *api.Job) { j.User = "" }, func(j *api.Job) { j.User = "Ann" }, func(j *api.Job) { j.User = "ninebytes" }},
		api.ErrForm: {func(j *api.Job) { j.From = "" }, func(j *api.Job) { j.From = "a" }, func(j *api.Job) { j.To = "/.." }, func(j *api.Job) { j.To = "/" + strings.Repeat("p", 40) }, func(j *api.Job) { j.Command = " x" }},
		api.ErrLong: {func(j *api.Job) { j.Size = -1 }, func(j *api.Job) { j.Size = 6001 }, func(j *api.Job) { j.Size = math.MaxInt }},
	}
}

// P10.1, R2: a job of the right kind that may not be: its own error, behind those of the word.
func TestTextJobErrors(t *testing.T) {
	for want, list := range jobFaults() {
		for _, spoil := range list {
			for _, j := range []api.Job{send(), exec("rmail ann"), fetch()} {
				c := say(with(j, spoil))
				wantNoText(t, c, want)
				c.At = 1
				wantNoText(t, c, api.ErrArg)
				c.At = -1
				wantNoText(t, c, api.ErrArg)
				c.At, c.Verb = 0, api.CmdSend+api.CmdFetch-c.Verb
				wantNoText(t, c, api.ErrArg)
				for _, verb := range []int{0, api.CmdHangup, api.CmdYes, api.CmdNo, api.CmdDone, api.CmdFail, 8} {
					c.Verb = verb
					wantNoText(t, c, api.ErrArg)
				}
			}
		}
	}
}

// P10.1, R2: what job.Text names last is still told behind an At that is wrong.
func TestTextInOrder(t *testing.T) {
	long := with(send(), func(j *api.Job) { j.Size = 6001 })
	wantNoText(t, api.Cmd{Verb: api.CmdSend, Job: long, At: 6000}, api.ErrArg)
	wantNoText(t, api.Cmd{Verb: api.CmdFetch, Job: long}, api.ErrArg)
	wantNoText(t, api.Cmd{Verb: api.CmdYes, Job: long, At: 5}, api.ErrArg)
	wantNoText(t, api.Cmd{Verb: api.CmdSend, Job: long}, api.ErrLong)
}

// P10.2: what comes near to a word's text, and is none.
func TestParseWrong(t *testing.T) {
	for _, s := range []string{
		"", " ", "  ", "h", "c", "y 0", "n 8", "f 4", "HH", "H ", " H", "H 0", "H 1", "H\n", "H\x00", "C ", " C", "C 0", "C 1", "CY", "CN", "CC",
		"Y", "Y ", "Y  0", " Y 0", "Y 0 ", "Y0", "Y\t0", "Y 07", "Y 00", "Y -0", "Y -1", "Y +1", "Y 1.", "Y 0x1", "Y a", "Y 1a", "Y 1 1", "Y 1\n", "Y 1\x00", "Y ٥", "Y\u00a05", "YY 0",
		"Y 6001", "Y 9999", "Y 60000", "Y 06000", "Y 1099511627776", "Y 1099511627777", "Y 18446744073709551616", "Y 18446744073709551617", "Y " + strings.Repeat("9", 1000), "Y " + strings.Repeat("0", 1000),
		"N", "N ", "N  8", "N8", "N 08", "N 10", "N 18", "N -1", "N +1", "N x", "N 8 ", "N 8 8", "N 6000", "N 4294967296",
		"F", "F ", "F  4", "F4", "F 04", "F 10", "F -1", "F x", "F 4 ", "F 6000",
		"S", "E", "R", "S ", "S 0", "R 0", "E 0", "S n7 ann /a /b", "S n7 ann /a /b 05", "S n7 ann /a /b 5 ", "S n7 ann /a /b 5 x", "S n7 ann /a /b 6001", "R n7 ann /a /b 5 x", "R n07 ann /a /b 5", "E n7 ann /a /b 5", "E n7 ann /a /b 5 ", "E n7 ann /a /b 5 x ",
		"s n7 ann /a /b 5", "r n7 ann /a /b 5", "F n7 ann /a /b 5", "Y n7 ann /a /b 5", "H n7 ann /a /b 5", "Y 0 S n7 ann /a /b 5", "S n7 ann /a /b 5\x00", "S n7 ann /a /b 5 0",
		"X", "X 0", "0", "1", "8", " 0", "A 0", "B", "\x03", "\x04 0", "\xff", "é 0", strings.Repeat("Y 0 ", 10000), strings.Repeat(" ", 100000),
	} {
		wantNoWord(t, s)
	}
}

// P10.2: each byte alone, and ahead of a blank and a digit.
func TestParseLetters(t *testing.T) {
	alone := map[string]int{"H": api.CmdHangup, "C": api.CmdDone}
	ahead := map[string]int{"Y": api.CmdYes, "N": api.CmdNo, "F": api.CmdFail}
	for i := range 256 {
		b := string([]byte{byte(i)})
		wantVerb(t, b, alone[b])
		wantVerb(t, b+" 0", ahead[b])
		wantNoWord(t, b+" ")
		wantNoWord(t, b+b)
	}
}

// wantVerb: s says the word of that verb with nothing else; 0: it says none.
func wantVerb(t *testing.T, s string, verb int) {
	t.Helper()
	if verb == 0 {
		wantNoWord(t, s)
		return
	}
	if c, e := Parse(s); c != word(verb, 0) || e != api.OK {
		t.Errorf("Parse(%q): %+v, %d", s, c, e)
	}
}

// P10.3: a word is read as it was; no two have the same text.
func TestWordsAreReadBack(t *testing.T) {
	seen := map[string]api.Cmd{}
	for _, c := range manyWords() {
		s, e := Text(c)
		if e != api.OK {
			t.Errorf("Text(%+v): %d", c, e)
		}
		if other, there := seen[s]; there {
			t.Errorf("%q is the text of %+v and of %+v", s, c, other)
		}
		seen[s] = c
		if got, e := Parse(s); got != c || e != api.OK {
			t.Errorf("Parse(%q): %+v, %d, want %+v", s, got, e, c)
		}
	}
}

// P10.4: 1 to 200 bytes, each 32 to 126.
func TestBytesOfTexts(t *testing.T) {
	most := 0
	for _, c := range manyWords() {
		s, _ := Text(c)
		if len(s) < 1 || len(s) > 200 {
			t.Errorf("Text(%+v) has %d bytes", c, len(s))
		}
		for i := range len(s) {
			if s[i] < 32 || s[i] > 126 {
				t.Errorf("Text(%+v) has the byte %d", c, s[i])
			}
		}
		most = max(most, len(s))
	}
	if most != 165 {
		t.Errorf("the longest text has %d bytes", most)
	}
}

// P10.4: bytes outside 32 to 126 come into no text, whichever field has them.
func TestStrangeBytes(t *testing.T) {
	for i := range 256 {
		if i >= 32 && i <= 126 {
			continue
		}
		b := string([]byte{byte(i)})
		wantNoText(t, say(with(send(), func(j *api.Job) { j.Id.Grade = i })), api.ErrArg)
		wantNoText(t, say(with(send(), func(j *api.Job) { j.User = "a" + b })), api.ErrName)
		wantNoText(t, say(with(fetch(), func(j *api.Job) { j.From = "/a" + b })), api.ErrForm)
		wantNoText(t, say(with(fetch(), func(j *api.Job) { j.To = "/a" + b })), api.ErrForm)
		wantNoText(t, say(exec("a"+b+"a")), api.ErrForm)
	}
}

// written: P10.1, written once more, of words that may be.
func written(c api.Cmd) string {
	if c.Verb == api.CmdSend || c.Verb == api.CmdFetch {
		s, _ := job.Text(c.Job)
		return s
	}
	s := string("???HYNCF"[c.Verb])
	if c.Verb == api.CmdHangup || c.Verb == api.CmdDone {
		return s
	}
	return fmt.Sprintf("%s %d", s, c.At)
}

var shortWord = regexp.MustCompile(`\A(?:[HC]|[NF] [0-9]|Y (?:0|[1-9][0-9]{0,3}))\z`)

// said: P10.2, written once more: the word whose text s is.
func said(s string) (api.Cmd, bool) {
	if j, e := job.Parse(s); e == api.OK {
		return say(j), true
	}
	if !shortWord.MatchString(s) {
		return api.Cmd{}, false
	}
	c := api.Cmd{Verb: strings.IndexByte("???HYNCF", s[0])}
	if len(s) > 1 {
		c.At, _ = strconv.Atoi(s[2:])
	}
	return c, c.At <= 6000
}

// P10.2, P10.3: texts with a byte changed, put in or left out are the text of the word that they say, or of none.
func TestParseTurned(t *testing.T) {
	words := 0
	for _, s := range []string{"H", "C", "Y 0", "Y 9", "Y 12", "Y 600", "Y 5999", "Y 6000", "N 0", "N 8", "F 4", "F 9", "S n7 ann /a /b 5", "R n7 ann /a /b 0", "E n7 ann /a /b 5 x y"} {
		for at := range len(s) + 1 {
			tails := []string{s[at:]}
			if at < len(s) {
				tails = append(tails, s[at+1:])
			}
			for _, tail := range tails {
				for c := range 257 {
					turned := s[:at] + tail
					if c < 256 {
						turned = s[:at] + string([]byte{byte(c)}) + tail
					}
					want, ok := said(turned)
					if !ok {
						wantNoWord(t, turned)
						continue
					}
					words++
					if got, e := Parse(turned); got != want || e != api.OK {
						t.Errorf("Parse(%q): %+v, %d, want %+v", turned, got, e, want)
					}
				}
			}
		}
	}
	if words < 1000 {
		t.Errorf("only %d of the texts said a word", words)
	}
}

// P10.1 to P10.3: every short text of the letters, the blank and digits; what is read is written so.
func TestParseAllShort(t *testing.T) {
	texts := []string{""}
	for from, n := 0, 0; n < 5; n++ {
		end := len(texts)
		for _, s := range texts[from:end] {
			for _, c := range "HYNCFSER 0169" {
				texts = append(texts, s+string(c))
			}
		}
		from = end
	}
	for _, s := range texts {
		want, ok := said(s)
		if !ok {
			want = api.Cmd{}
		}
		got, e := Parse(s)
		if got != want || ok != (e == api.OK) || !ok && e != api.ErrForm {
			t.Fatalf("Parse(%q): %+v, %d, want %+v", s, got, e, want)
		}
		if again, f := Text(got); ok && (again != s || f != api.OK) {
			t.Fatalf("Text(%+v): %q, %d, want %q", got, again, f, s)
		}
	}
}
