package chat

import (
	"fmt"
	"math"
	"math/rand/v2"
	"reflect"
	"regexp"
	"slices"
	"strings"
	"testing"

	"postchaise/api"
)

func step(send string, awaited ...string) api.ChatStep {
	var s api.ChatStep
	for i, text := range awaited {
		if i%2 == 0 {
			s.Wants = append(s.Wants, text)
		} else {
			s.Nudge = append(s.Nudge, text)
		}
	}
	s.Send = send
	return s
}

// told: steps as a text in which nil and empty lists are the same.
func told(l []api.ChatStep) string {
	var b strings.Builder
	for _, s := range l {
		fmt.Fprintf(&b, "%q %q %q;", s.Wants, s.Nudge, s.Send)
	}
	return b.String()
}

func toldChat(c api.Chat) string {
	return fmt.Sprintf("%s step %d want %d seen %q wait %d of %d over %v failed %v", told(c.Steps), c.Step, c.Want, c.Seen, c.Wait, c.Patience, c.Over, c.Failed)
}

func wantParse(t *testing.T, script string, steps []api.ChatStep, errno api.Errno) {
	t.Helper()
	got, e := Parse(script)
	if e != errno || told(got) != told(steps) {
		t.Errorf("Parse(%q): %s %d, want %s %d", script, told(got), e, told(steps), errno)
	}
}

func wantPrint(t *testing.T, steps []api.ChatStep, script string, errno api.Errno) {
	t.Helper()
	got, e := Print(steps)
	if e != errno || got != script {
		t.Errorf("Print(%s): %q %d, want %q %d", told(steps), got, e, script, errno)
	}
}

func wantChat(t *testing.T, what string, c api.Chat, sent string, want api.Chat, wantSent string) {
	t.Helper()
	if toldChat(c) != toldChat(want) || sent != wantSent {
		t.Errorf("%s: %s, sent %q; want %s, sent %q", what, toldChat(c), sent, toldChat(want), wantSent)
	}
}

// P8.1: words by turns, blanks wherever they stand, a last word that is waited for.
func TestParseWords(t *testing.T) {
	wantParse(t, "", nil, api.OK)
	wantParse(t, "   ", nil, api.OK)
	wantParse(t, "a", []api.ChatStep{step("", "a")}, api.OK)
	wantParse(t, "  a  ", []api.ChatStep{step("", "a")}, api.OK)
	wantParse(t, "a b", []api.ChatStep{step("b\r", "a")}, api.OK)
	wantParse(t, "a   b c", []api.ChatStep{step("b\r", "a"), step("", "c")}, api.OK)
	wantParse(t, " a b  c d ", []api.ChatStep{step("b\r", "a"), step("d\r", "c")}, api.OK)
	wantParse(t, `ogin:-\r\c-ogin: uucp`, []api.ChatStep{step("uucp\r", "ogin:", "\r", "ogin:")}, api.OK)
}

// P8.1: one part, three, five ..; never two, four ..; none of them empty.
func TestParseParts(t *testing.T) {
	wantParse(t, "a-b-c", []api.ChatStep{step("", "a", "b\r", "c")}, api.OK)
	wantParse(t, "a-b-c-d-e x", []api.ChatStep{step("x\r", "a", "b\r", "c", "d\r", "e")}, api.OK)
	wantParse(t, `""-""-""`, []api.ChatStep{step("", "", "\r", "")}, api.OK)
	wantParse(t, `a-\c-b`, []api.ChatStep{step("", "a", "", "b")}, api.OK)
	for _, bad := range []string{"a-b", "a-b x", "a-b-c-d", "-", "--", "a--b", "-a-b", "a-b-", "----", `a-""`, `a-\c`} {
		wantParse(t, bad, nil, api.ErrForm)
		wantParse(t, "ok ok "+bad, nil, api.ErrForm)
	}
	for _, bad := range []string{"-", "a-b", "a-b-c", "b-", "-b"} {
		wantParse(t, "ok "+bad, nil, api.ErrForm)
	}
	long := strings.Repeat("a-", 148) + "a"
	got, e := Parse(long)
	if e != api.OK || len(got) != 1 || len(got[0].Wants) != 75 || len(got[0].Nudge) != 74 {
		t.Errorf("Parse of 149 parts: %d", e)
	}
}

// P8.1: which signs there are and what they say, in a want, a nudge and a sent word.
func TestParseSigns(t *testing.T) {
	for _, c := range []struct{ sign, text string }{
		{`\r`, "\r"}, {`\n`, "\n"}, {`\s`, " "}, {`\m`, "-"}, {`\q`, `"`}, {`\\`, `\`},
		{`\\c`, `\c`}, {`\\\\c`, `\\c`}, {`\\r`, `\r`}, {`\r\n`, "\r\n"}, {`a\sb\\`, `a b\`}, {`c`, "c"}, {`!~`, "!~"},
		{`""`, ""}, {`\q\q`, `""`}, {`\m\m`, "--"},
	} {
		wantParse(t, c.sign, []api.ChatStep{step("", c.text)}, api.OK)
		wantParse(t, c.sign+" "+c.sign, []api.ChatStep{step(c.text+"\r", c.text)}, api.OK)
		wantParse(t, c.sign+"-"+c.sign+"-"+c.sign, []api.ChatStep{step("", c.text, c.text+"\r", c.text)}, api.OK)
		if c.sign != `""` {
			wantParse(t, c.sign+" "+c.sign+`\c`, []api.ChatStep{step(c.text, c.text)}, api.OK)
			wantParse(t, "a-"+c.sign+`\c-b`, []api.ChatStep{step("", "a", c.text, "b")}, api.OK)
		}
	}
	wantParse(t, `a \c`, []api.ChatStep{step("", "a")}, api.OK)
	wantParse(t, `"" ""`, []api.ChatStep{step("\r", "")}, api.OK)
	for c := 33; c <= 126; c++ {
		sign := string(byte(c))
		errno := api.OK
		var awaited, sent []api.ChatStep
		if strings.Contains(`\-"`, sign) {
			errno = api.ErrForm
		} else {
			awaited, sent = []api.ChatStep{step("", sign)}, []api.ChatStep{step(sign+"\r", "a")}
		}
		wantParse(t, sign, awaited, errno)
		wantParse(t, "a "+sign, sent, errno)
	}
}

// P8.1: \ stands ahead of r, n, s, m, q, \ alone, and ahead of c at the end of what is sent.
func TestParseWrongSigns(t *testing.T) {
	for c := 33; c <= 126; c++ {
		if sign := `\` + string(byte(c)); !strings.Contains(`rnsmq\c`, sign[1:]) {
			wantParse(t, sign, nil, api.ErrForm)
			wantParse(t, "a "+sign, nil, api.ErrForm)
			wantParse(t, "a-"+sign+"-b", nil, api.ErrForm)
		}
	}
	for _, bad := range []string{`\`, `a\`, `\\\`, `"`, `"""`, `""""`, `"a"`, `a""`, `""a`, `""\r`, `""\c`, `\ca`, `\c\c`, `\c\r`, `\c""`, `a\cb\c`} {
		wantParse(t, bad, nil, api.ErrForm)
		wantParse(t, "a "+bad, nil, api.ErrForm)
		wantParse(t, "a-"+bad+"-b", nil, api.ErrForm)
		wantParse(t, "a-b-"+bad, nil, api.ErrForm)
	}
	for _, bad := range []string{`\c`, `a\c`, `\r\c`, `a-b-\c`, `a-b-c\c`, `\c-b-c`, `a\c-b-c`} {
		wantParse(t, bad, nil, api.ErrForm)
		wantParse(t, "a b "+bad, nil, api.ErrForm)
	}
}

// P8.1: 300 bytes, bytes 32 to 126 and 40 words are the ends, and the errors come in that order.
func TestParseOrder(t *testing.T) {
	full := strings.Repeat("a", api.MaxText)
	wantParse(t, full, []api.ChatStep{step("", full)}, api.OK)
	wantParse(t, full+"a", nil, api.ErrLong)
	wantParse(t, full+" ", nil, api.ErrLong)
	wantParse(t, full+"\x00", nil, api.ErrLong)
	wantParse(t, strings.Repeat(" ", api.MaxText), nil, api.OK)
	for c := range 256 {
		if c < 32 || c > 126 {
			wantParse(t, string([]byte{byte(c)}), nil, api.ErrForm)
			wantParse(t, string([]byte{'a', byte(c), 'b'}), nil, api.ErrForm)
			wantParse(t, strings.Repeat("a ", 41)+string([]byte{byte(c)}), nil, api.ErrForm)
		}
	}
	var steps []api.ChatStep
	for range api.MaxChat {
		steps = append(steps, step("b\r", "a"))
	}
	wantParse(t, strings.Repeat("a b ", 20), steps, api.OK)
	wantParse(t, strings.Repeat("a b ", 19)+"a", append(slices.Clone(steps[:19]), step("", "a")), api.OK)
	wantParse(t, strings.Repeat("a b ", 20)+"c", nil, api.ErrLong)
	wantParse(t, `" `+strings.Repeat("a ", 40), nil, api.ErrLong)
	wantParse(t, strings.Repeat("a ", 39)+`"`, nil, api.ErrForm)
}

const signForm = `(?:[!#-,./0-9:-\[\]-~]|\\[rnsmq\\])`

var (
	wantForm = regexp.MustCompile(`^(?:""|` + signForm + `+)$`)
	sentForm = regexp.MustCompile(`^(?:""|` + signForm + `+|` + signForm + `*\\c)$`)
	bareForm = regexp.MustCompile(`^` + signForm + `*\\c$`)
	signs    = strings.NewReplacer(`\r`, "\r", `\n`, "\n", `\s`, " ", `\m`, "-", `\q`, `"`, `\\`, `\`, `\c`, "", `""`, "")
)

// secondParse: a second writing of Parse, by the grammar as an expression.
func secondParse(s string) ([]api.ChatStep, api.Errno) {
	if len(s) > 300 {
		return nil, api.ErrLong
	}
	if regexp.MustCompile(`[^ -~]`).MatchString(s) {
		return nil, api.ErrForm
	}
	words := regexp.MustCompile(`[^ ]+`).FindAllString(s, -1)
	if len(words) > 40 {
		return nil, api.ErrLong
	}
	sent := func(part string) string {
		if bareForm.MatchString(part) {
			return signs.Replace(part)
		}
		return signs.Replace(part) + "\r"
	}
	var l []api.ChatStep
	for i, word := range words {
		if i%2 == 1 {
			if !sentForm.MatchString(word) {
				return nil, api.ErrForm
			}
			l[len(l)-1].Send = sent(word)
			continue
		}
		parts := strings.Split(word, "-")
		var texts []string
		for k, part := range parts {
			switch {
			case k%2 == 0 && wantForm.MatchString(part):
				texts = append(texts, signs.Replace(part))
			case k%2 == 1 && sentForm.MatchString(part):
				texts = append(texts, sent(part))
			default:
				return nil, api.ErrForm
			}
		}
		if len(parts)%2 == 0 {
			return nil, api.ErrForm
		}
		l = append(l, step("", texts...))
	}
	return l, api.OK
}

// P8.1: scripts of all sorts, held against a second writing.
func TestParseSecond(t *testing.T) {
	r := rand.New(rand.NewPCG(8, 1))
	pieces := []string{"a", "b", "-", "-", " ", " ", `\`, `\c`, `\r`, `\n`, `\s`, `\m`, `\q`, `\\`, `"`, `""`, `""`, "c", "r", "~", "!"}
	good := 0
	for range 60000 {
		var b strings.Builder
		for range r.IntN(12) {
			b.WriteString(pieces[r.IntN(len(pieces))])
		}
		want, errno := secondParse(b.String())
		wantParse(t, b.String(), want, errno)
		if errno == api.OK {
			good++
		}
	}
	if good < 3000 {
		t.Errorf("only %d scripts may be", good)
	}
	for range 2000 {
		var b strings.Builder
		for range r.IntN(60) {
			b.WriteString([]string{"a", `""`, `b\c`, "ab", "a-b-c"}[r.IntN(5)] + " ")
		}
		want, errno := secondParse(b.String())
		wantParse(t, b.String(), want, errno)
	}
}

// P8.2: how steps are written.
func TestPrint(t *testing.T) {
	wantPrint(t, nil, "", api.OK)
	wantPrint(t, []api.ChatStep{}, "", api.OK)
	wantPrint(t, []api.ChatStep{step("b\r", "a")}, "a b ", api.OK)
	wantPrint(t, []api.ChatStep{step("b", "a")}, `a b\c `, api.OK)
	wantPrint(t, []api.ChatStep{step("", "a")}, `a \c `, api.OK)
	wantPrint(t, []api.ChatStep{step("\r", "")}, `"" "" `, api.OK)
	wantPrint(t, []api.ChatStep{step("\r\r", "\r")}, `\r \r `, api.OK)
	wantPrint(t, []api.ChatStep{step("\r\n", "\r\n")}, `\r\n \r\n\c `, api.OK)
	wantPrint(t, []api.ChatStep{step("x\r", "a", "\r", "b", "", "", "n", `c`)}, `a-""-b-\c-""-n\c-c x `, api.OK)
	wantPrint(t, []api.ChatStep{step(" -\"\\\r", " -\"\\\r\n")}, `\s\m\q\\\r\n \s\m\q\\ `, api.OK)
	wantPrint(t, []api.ChatStep{step("b\r", "a"), step("d", "c")}, `a b c d\c `, api.OK)
	for c := range 256 {
		text := string([]byte{byte(c)})
		said := c == 10 || c == 13 || c >= 32 && c <= 126
		for _, s := range []api.ChatStep{step("", "a"+text), step("", text+"a", "", "b"), step("", "a", text+"b", "c"), step("x"+text, "a")} {
			got, e := Print([]api.ChatStep{s})
			if said != (e == api.OK) || !said && (e != api.ErrForm || got != "") {
				t.Errorf("Print with the byte %d: %q %d", c, got, e)
			}
		}
	}
	wantPrint(t, []api.ChatStep{step("", "é")}, "", api.ErrForm)
}

// P8.2: the errors, step by step, and the length at last.
func TestPrintOrder(t *testing.T) {
	plain, lone := step("b\r", "a"), api.ChatStep{Send: "x"}
	strange := step("", "\x00")
	many := func(n int) api.ChatStep {
		return api.ChatStep{Wants: make([]string, n), Nudge: make([]string, max(0, n-1))}
	}
	steps := slices.Repeat([]api.ChatStep{plain}, 20)
	wantPrint(t, steps, strings.Repeat("a b ", 20), api.OK)
	wantPrint(t, append(steps, plain), "", api.ErrLong)
	wantPrint(t, slices.Repeat([]api.ChatStep{lone}, 21), "", api.ErrLong)
	wantPrint(t, []api.ChatStep{lone}, "", api.ErrArg)
	wantPrint(t, []api.ChatStep{{Wants: []string{}, Nudge: []string{}}}, "", api.ErrArg)
	wantPrint(t, []api.ChatStep{{Nudge: []string{"a"}}}, "", api.ErrArg)
	wantPrint(t, []api.ChatStep{{Wants: []string{"a"}, Nudge: []string{"b"}}}, "", api.ErrArg)
	wantPrint(t, []api.ChatStep{{Wants: []string{"a", "b"}}}, "", api.ErrArg)
	wantPrint(t, []api.ChatStep{{Wants: []string{"a", "b"}, Nudge: []string{"c", "d"}}}, "", api.ErrArg)
	wantPrint(t, []api.ChatStep{many(301)}, "", api.ErrArg)
	wantPrint(t, []api.ChatStep{many(300)}, "", api.ErrLong)
	wantPrint(t, []api.ChatStep{{Wants: []string{"\x00"}, Nudge: []string{"b"}}}, "", api.ErrArg)
	wantPrint(t, []api.ChatStep{strange, lone}, "", api.ErrForm)
	wantPrint(t, []api.ChatStep{lone, strange}, "", api.ErrArg)
	wantPrint(t, []api.ChatStep{many(300), lone}, "", api.ErrArg)
	wantPrint(t, []api.ChatStep{many(300), strange}, "", api.ErrForm)
	wantPrint(t, []api.ChatStep{step("\r", strings.Repeat("a", 296))}, strings.Repeat("a", 296)+` "" `, api.OK)
	wantPrint(t, []api.ChatStep{step("\r", strings.Repeat("a", 297))}, "", api.ErrLong)
	wantPrint(t, []api.ChatStep{step("b\r", strings.Repeat("-", 148))}, strings.Repeat(`\m`, 148)+" b ", api.OK)
	wantPrint(t, []api.ChatStep{step("bb\r", strings.Repeat("-", 148))}, strings.Repeat(`\m`, 148)+" bb ", api.OK)
	wantPrint(t, []api.ChatStep{step("bb\r", strings.Repeat("-", 149))}, "", api.ErrLong)
}

func randomText(r *rand.Rand, letters string, most int) string {
	text := make([]byte, r.IntN(most+1))
	for i := range text {
		text[i] = letters[r.IntN(len(letters))]
	}
	return string(text)
}

func randomSteps(r *rand.Rand, letters string, steps, parts, most int) []api.ChatStep {
	var l []api.ChatStep
	for range r.IntN(steps + 1) {
		awaited := []string{randomText(r, letters, most)}
		for range r.IntN(parts + 1) {
			awaited = append(awaited, randomText(r, letters, most), randomText(r, letters, most))
		}
		l = append(l, step(randomText(r, letters, most), awaited...))
	}
	return l
}

// P8.6: what is printed is read as it was; and what is read is printed as a script that says the same.
func TestPrintedIsRead(t *testing.T) {
	r := rand.New(rand.NewPCG(8, 6))
	all := "\r\r\r\n -\"\\c"
	for c := byte(33); c < 127; c++ {
		all += string(c)
	}
	long := 0
	for i := range 8000 {
		letters := all
		if i%2 == 0 {
			letters = "\r\n -\"\\crnsmq"
		}
		l := randomSteps(r, letters, 20, 2, 6)
		s, e := Print(l)
		if e == api.ErrLong {
			long++
			continue
		}
		got, f := Parse(s)
		if e != api.OK || f != api.OK || told(got) != told(l) {
			t.Fatalf("%s was printed as %q %d and read as %s %d", told(l), s, e, told(got), f)
		}
	}
	if long == 0 || long > 7000 {
		t.Errorf("%d were too long", long)
	}
}

// P8.3: patience between 1 and 1000, and the first steps that wait for nothing.
func TestBegin(t *testing.T) {
	l := []api.ChatStep{step("b\r", "a")}
	for _, c := range [][2]int{{math.MinInt, 1}, {-1, 1}, {0, 1}, {1, 1}, {2, 2}, {999, 999}, {1000, 1000}, {1001, 1000}, {math.MaxInt, 1000}} {
		got, sent := Begin(l, c[0])
		wantChat(t, "Begin", got, sent, api.Chat{Steps: l, Patience: c[1]}, "")
	}
	got, sent := Begin(nil, 3)
	wantChat(t, "Begin of none", got, sent, api.Chat{Patience: 3, Over: true}, "")
	l = []api.ChatStep{step("x", ""), step("y\r", ""), step("z", "a")}
	got, sent = Begin(l, 3)
	wantChat(t, "Begin of empty wants", got, sent, api.Chat{Steps: l, Step: 2, Patience: 3}, "xy\r")
	got, sent = Begin(l[:2], 3)
	wantChat(t, "Begin of empty wants alone", got, sent, api.Chat{Steps: l[:2], Step: 2, Patience: 3, Over: true}, "xy\r")
	l = []api.ChatStep{step("x", ""), {Nudge: []string{"n"}, Send: "y"}}
	got, sent = Begin(l, 3)
	wantChat(t, "Begin of no wants", got, sent, api.Chat{Steps: l, Step: 1, Patience: 3, Failed: true}, "x")
}

// P8.4: a want is seen at its first place; what stands behind it is seen by the next step.
func TestFeed(t *testing.T) {
	l := []api.ChatStep{step("1", "aa"), step("2", "b", "n", "c"), step("3", "d")}
	c, _ := Begin(l, 5)
	c.Wait = 2
	got, sent := Feed(c, "xa")
	wantChat(t, "half a want", got, sent, api.Chat{Steps: l, Seen: "xa", Wait: 2, Patience: 5}, "")
	got, sent = Feed(got, "aaa")
	wantChat(t, "the first place", got, sent, api.Chat{Steps: l, Step: 1, Seen: "aa", Patience: 5}, "1")
	got, sent = Feed(got, "cxbyd!")
	wantChat(t, "two steps", got, sent, api.Chat{Steps: l, Step: 3, Seen: "!", Patience: 5, Over: true}, "23")
	again, sent := Feed(got, "more")
	wantChat(t, "over", again, sent, got, "")
	c.Want, c.Step, c.Seen = 1, 1, "b"
	got, sent = Feed(c, "xc")
	wantChat(t, "another want", got, sent, api.Chat{Steps: l, Step: 2, Patience: 5}, "2")
	got, sent = Feed(c, "")
	wantChat(t, "nothing", got, sent, c, "")
	c.Seen = "bc"
	got, sent = Feed(c, "")
	wantChat(t, "what was seen", got, sent, api.Chat{Steps: l, Step: 2, Patience: 5}, "2")
	c.Over = true
	got, sent = Feed(c, "c")
	wantChat(t, "over already", got, sent, c, "")
	c.Over, c.Failed = false, true
	got, sent = Feed(c, "c")
	wantChat(t, "failed already", got, sent, c, "")
}

// P8.4: 300 bytes of what was seen stay, but only where it is waited on.
func TestFeedLast(t *testing.T) {
	l := []api.ChatStep{step("1", "ab"), step("2", "c")}
	c, _ := Begin(l, 5)
	x := strings.Repeat("x", 299)
	got, sent := Feed(c, "ya"+x[1:])
	wantChat(t, "300", got, sent, api.Chat{Steps: l, Seen: "ya" + x[1:], Patience: 5}, "")
	got, sent = Feed(got, "z")
	wantChat(t, "301", got, sent, api.Chat{Steps: l, Seen: "a" + x[1:] + "z", Patience: 5}, "")
	got, sent = Feed(c, "ab"+x+x)
	wantChat(t, "a want far ahead", got, sent, api.Chat{Steps: l, Step: 1, Seen: x + "x", Patience: 5}, "1")
	got, sent = Feed(c, "ab"+x+"c"+x+x)
	wantChat(t, "over", got, sent, api.Chat{Steps: l, Step: 2, Seen: x + x, Patience: 5, Over: true}, "12")
	c.Want = 1
	got, sent = Feed(c, x+x)
	wantChat(t, "failed", got, sent, api.Chat{Steps: l, Want: 1, Seen: x + x, Patience: 5, Failed: true}, "")
	want := strings.Repeat("w", 300)
	l = []api.ChatStep{step("1", want)}
	c, _ = Begin(l, 5)
	c, _ = Feed(c, "v"+want[1:])
	got, sent = Feed(c, "ww")
	wantChat(t, "a want of 300", got, sent, api.Chat{Steps: l, Step: 1, Seen: "w", Patience: 5, Over: true}, "1")
}

// P8.4, R1: no step more is over, no such want has failed.
func TestFeedStrange(t *testing.T) {
	l := []api.ChatStep{step("1", "a")}
	for _, n := range []int{math.MinInt, -1, 1, 2, math.MaxInt} {
		got, sent := Feed(api.Chat{Steps: l, Want: n, Patience: 1}, "a")
		wantChat(t, "a strange want", got, sent, api.Chat{Steps: l, Want: n, Seen: "a", Patience: 1, Failed: true}, "")
		got, sent = Feed(api.Chat{Steps: l, Step: n, Want: 4, Patience: 1}, "a")
		wantChat(t, "a strange step", got, sent, api.Chat{Steps: l, Step: n, Want: 4, Seen: "a", Patience: 1, Over: true}, "")
		got, sent = Tick(api.Chat{Steps: l, Step: n, Patience: 0})
		wantChat(t, "a tick of a strange step", got, sent, api.Chat{Steps: l, Step: n, Wait: 1, Failed: true}, "")
		got, sent = Tick(api.Chat{Steps: l, Want: n, Patience: 0})
		wantChat(t, "a tick of a strange want", got, sent, api.Chat{Steps: l, Want: n, Wait: 1, Failed: true}, "")
		Tick(api.Chat{Steps: l, Want: n, Wait: n, Patience: n})
		Tick(api.Chat{Steps: l, Wait: math.MaxInt, Patience: n})
	}
	got, sent := Feed(api.Chat{}, "a")
	wantChat(t, "no steps", got, sent, api.Chat{Seen: "a", Over: true}, "")
}

// P8.5: ticks up to Patience, a nudge behind it, and a failure where there is none.
func TestTick(t *testing.T) {
	l := []api.ChatStep{step("1", "a", "n", "b", "m", "a"), step("2", "c")}
	c, _ := Begin(l, 2)
	c, _ = Feed(c, "xb")
	want := c
	for i, sent := range []string{"", "", "n1"} {
		want.Wait = i + 1
		if sent != "" {
			want = api.Chat{Steps: l, Step: 1, Patience: 2}
		}
		got, said := Tick(c)
		wantChat(t, "Tick", got, said, want, sent)
		c = got
	}
	for i := range 3 {
		want.Wait = i + 1
		want.Failed = i == 2
		got, said := Tick(c)
		wantChat(t, "Tick without a nudge", got, said, want, "")
		c = got
	}
	got, sent := Tick(c)
	wantChat(t, "Tick of a failed one", got, sent, c, "")
	c.Failed, c.Over = false, true
	got, sent = Tick(c)
	wantChat(t, "Tick of one that is over", got, sent, c, "")
	c, _ = Begin(l, 2)
	c.Wait = 2
	got, sent = Tick(c)
	wantChat(t, "a nudge alone", got, sent, api.Chat{Steps: l, Want: 1, Patience: 2}, "n")
	got.Wait = 7
	got, sent = Tick(got)
	wantChat(t, "long behind", got, sent, api.Chat{Steps: l, Want: 2, Patience: 2}, "m")
	c = api.Chat{Steps: []api.ChatStep{{Wants: []string{"a"}, Nudge: []string{"n"}}}, Wait: 1, Patience: 1}
	got, sent = Tick(c)
	wantChat(t, "a nudge without a want behind it", got, sent, api.Chat{Steps: c.Steps, Want: 1, Patience: 1, Failed: true}, "n")
	c = api.Chat{Steps: []api.ChatStep{step("1", "a", "n", ""), step("2", "")}, Wait: 1, Patience: 1}
	got, sent = Tick(c)
	wantChat(t, "a nudge, then over", got, sent, api.Chat{Steps: c.Steps, Step: 2, Patience: 1, Over: true}, "n12")
}

// stranger is a second writing of a chat: it holds all that came, and where in it the step began to look.
type stranger struct {
	steps                            []api.ChatStep
	all, sent                        string
	from, step, want, wait, patience int
	over, failed, done               bool
}

func (s *stranger) settle() {
	for !s.done {
		if s.step == len(s.steps) {
			s.over, s.done = true, true
			return
		}
		at := strings.Index(s.all[s.from:], s.steps[s.step].Wants[s.want])
		if at < 0 {
			s.from = max(s.from, len(s.all)-300)
			return
		}
		s.from += at + len(s.steps[s.step].Wants[s.want])
		s.sent += s.steps[s.step].Send
		s.step, s.want, s.wait = s.step+1, 0, 0
	}
}

func (s *stranger) hear(b string) {
	if !s.done {
		s.all += b
		s.settle()
	}
}

func (s *stranger) tick() {
	if s.done {
		return
	}
	s.wait++
	if s.wait <= s.patience {
		return
	}
	if s.want == len(s.steps[s.step].Wants)-1 {
		s.failed, s.done = true, true
		return
	}
	s.sent += s.steps[s.step].Nudge[s.want]
	s.want++
	s.wait = 0
	s.settle()
}

func (s *stranger) chat() api.Chat {
	return api.Chat{Steps: s.steps, Step: s.step, Want: s.want, Seen: s.all[s.from:], Wait: s.wait, Patience: s.patience, Over: s.over, Failed: s.failed}
}

// P8.3, P8.4, P8.5: chats of all sorts, held against a second writing.
func TestChatSecond(t *testing.T) {
	r := rand.New(rand.NewPCG(8, 4))
	ends := map[string]int{}
	for i := range 8000 {
		l := randomSteps(r, "ab", 4, 2, 3)
		if i%10 == 0 {
			l = append(l, step("z", strings.Repeat("a", 290+r.IntN(12))))
		}
		patience := 1 + r.IntN(3)
		c, sent := Begin(l, patience)
		s := &stranger{steps: l, patience: patience}
		s.settle()
		for range 30 {
			wantChat(t, "a walk", c, sent, s.chat(), s.sent)
			s.sent = ""
			if r.IntN(2) == 0 {
				b := randomText(r, "abc", 3)
				if r.IntN(10) == 0 {
					b = randomText(r, "a", 700)
				}
				s.hear(b)
				c, sent = Feed(c, b)
			} else {
				s.tick()
				c, sent = Tick(c)
			}
		}
		ends[fmt.Sprint(c.Over, c.Failed)]++
		if t.Failed() {
			return
		}
	}
	if len(ends) != 3 || ends["false false"] < 20 || ends["true false"] < 100 || ends["false true"] < 100 {
		t.Errorf("the walks ended so: %v", ends)
	}
}

// P8.7: in whatever pieces bytes come, the same is sent, and the chat is the same while it is under way.
func TestPieces(t *testing.T) {
	r := rand.New(rand.NewPCG(8, 7))
	for i := range 8000 {
		l := randomSteps(r, "ab", 4, 2, 3)
		if i%5 == 0 {
			l = append(l, step("z", strings.Repeat("a", 298+r.IntN(3))))
		}
		whole, sentWhole := Begin(l, 2)
		pieces, sentPieces := Begin(l, 2)
		for range 8 {
			b := randomText(r, "abc", 9)
			if r.IntN(5) == 0 {
				b += randomText(r, "a", 700)
			}
			var said string
			whole, said = Feed(whole, b)
			sentWhole += said
			for len(b) > 0 {
				n := 1 + r.IntN(min(len(b), 1+r.IntN(40)))
				pieces, said = Feed(pieces, b[:n])
				sentPieces += said
				b = b[n:]
			}
			if r.IntN(3) == 0 {
				whole, said = Tick(whole)
				sentWhole += said
				pieces, said = Tick(pieces)
				sentPieces += said
			}
			if whole.Over || whole.Failed {
				whole.Seen, pieces.Seen = "", ""
			}
			wantChat(t, "in pieces", pieces, sentPieces, whole, sentWhole)
		}
		if t.Failed() {
			return
		}
	}
}

// P8.7: a chat is over by the same byte, whether it comes alone or with others.
func TestOverByTheSameByte(t *testing.T) {
	l, _ := Parse(`ogin: uucp word:-\c-word: secret`)
	bytes := "Login: word Password: hello"
	c, sent := Begin(l, 5)
	for i := range bytes {
		var said string
		c, said = Feed(c, bytes[i:i+1])
		sent += said
		first, _ := Begin(l, 5)
		first, all := Feed(first, bytes[:i+1])
		over := i >= strings.LastIndex(bytes, "word:")+4
		if c.Over != over || first.Over != over || sent != all || c.Failed || first.Failed {
			t.Errorf("behind %q: %v %q, %v %q", bytes[:i+1], c.Over, sent, first.Over, all)
		}
	}
}

// P8.8: a chat to which nothing comes is over at once, or has failed behind Patience and 1 ticks a want.
func TestNothingComes(t *testing.T) {
	for wants := 1; wants <= 5; wants++ {
		for patience := 1; patience <= 4; patience++ {
			awaited := []string{"a"}
			for len(awaited) < 2*wants-1 {
				awaited = append(awaited, "n", "a")
			}
			c, sent := Begin([]api.ChatStep{step("first", ""), step("", awaited...)}, patience)
			ticks := 0
			for !c.Failed && ticks < 100 {
				var said string
				c, said = Tick(c)
				sent += said
				ticks++
			}
			if ticks != wants*(patience+1) || c.Over || sent != "first"+strings.Repeat("n", wants-1) {
				t.Errorf("%d wants, patience %d: %d ticks, %q", wants, patience, ticks, sent)
			}
		}
	}
	c, sent := Begin([]api.ChatStep{step("x", ""), step("y", "")}, 3)
	if !c.Over || c.Failed || sent != "xy" {
		t.Errorf("nothing to wait for: %s %q", toldChat(c), sent)
	}
}

// The chapter's examples.
func TestExamples(t *testing.T) {
	l, e := Parse(`ogin:-\r\c-ogin: uucp`)
	c, first := Begin(l, 5)
	c, sent := Feed(c, "login: ")
	if e != api.OK || first != "" || sent != "uucp\r" || !c.Over {
		t.Errorf("the example: %d %q %q %s", e, first, sent, toldChat(c))
	}
	wantParse(t, "a-b x", nil, api.ErrForm)
}

// guarded: steps whose lists have room behind their ends, in which something lies.
func guarded() []api.ChatStep {
	l := []api.ChatStep{step("1", "a", "n", "b"), step("2", "c"), step("guard", "guard")}
	for i := range l {
		l[i].Wants = append(l[i].Wants, "guard")[:len(l[i].Wants)]
		l[i].Nudge = append(l[i].Nudge, "guard")[:len(l[i].Nudge)]
	}
	return l[:2]
}

// R3: nothing that is handed in is changed, nor the room behind a list's end; a chat keeps no list of its maker.
func TestMemory(t *testing.T) {
	l := guarded()
	full := func() string {
		text := told(l[:3])
		for _, s := range l[:3] {
			text += fmt.Sprintf("%q %q", s.Wants[:len(s.Wants)+1], s.Nudge[:len(s.Nudge)+1])
		}
		return text
	}
	before := full()
	c, _ := Begin(l, 1)
	for _, b := range []string{"", "x", "", "b", "c"} {
		c, _ = Feed(c, b)
		c, _ = Tick(c)
	}
	Print(l)
	if full() != before {
		t.Errorf("changed: %s, was %s", full(), before)
	}
	c, _ = Begin(l, 1)
	kept := toldChat(c)
	for i := range l {
		l[i].Wants[0], l[i].Send = "other", "other"
	}
	l[0].Nudge[0] = "other"
	if toldChat(c) != kept {
		t.Errorf("a chat keeps its maker's lists: %s", toldChat(c))
	}
}

// R3: no two lists that Parse answers share memory.
func TestParseMemory(t *testing.T) {
	l, _ := Parse("a-b-c-d-e x a-b-c y")
	before := told(l)
	for i := range l {
		_ = append(l[i].Wants, "guard")
		_ = append(l[i].Nudge, "guard")
	}
	_ = append(l[:1:1], api.ChatStep{})
	if told(l) != before {
		t.Errorf("lists of Parse share memory: %s", told(l))
	}
	again, _ := Parse("a-b-c-d-e x a-b-c y")
	again[0].Wants[0], again[0].Nudge[0], again[1].Send = "z", "z", "z"
	if third, _ := Parse("a-b-c-d-e x a-b-c y"); !reflect.DeepEqual(third, l) {
		t.Errorf("Parse keeps what it answers: %s", told(third))
	}
}

// R1, R4: whatever bytes a script has, Parse ends, without a panic, with the same answer.
func FuzzParse(f *testing.F) {
	for _, s := range []string{"", `ogin:-\r\c-ogin: uucp`, `a-b x`, `\`, `""`, "\xff", "a\tb"} {
		f.Add(s)
	}
	f.Fuzz(func(t *testing.T, s string) {
		want, errno := secondParse(s)
		wantParse(t, s, want, errno)
	})
}
