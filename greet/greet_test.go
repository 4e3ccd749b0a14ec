package greet

import (
	"fmt"
	"math"
	"math/rand/v2"
	"regexp"
	"slices"
	"strconv"
	"strings"
	"testing"

	"postchaise/api"
)

// of: n bytes, none of them 0 or 16.
func of(n int) string { return strings.Repeat("t", n) }

// wrapped: s as a greeting says it, whatever its length.
func wrapped(s string) string { return "\x10" + s + "\x00" }

// everyByte: each byte as a text of its own.
func everyByte() []string {
	var l []string
	for i := range 256 {
		l = append(l, string([]byte{byte(i)}))
	}
	return l
}

// mutants: texts beside s: cut, longer, a byte doubled, lost or another one.
func mutants(s string) []string {
	var l []string
	for i := range len(s) + 1 {
		l = append(l, s[:i], s[i:])
		for _, c := range everyByte() {
			l = append(l, s[:i]+c+s[i:])
			if i < len(s) {
				l = append(l, s[:i]+c+s[i+1:])
			}
		}
		if i < len(s) {
			l = append(l, s[:i]+s[i+1:])
		}
	}
	return append(l, s+s, strings.ToUpper(s), strings.ToLower(s), " "+s, s+" ", s+"\n", s+"\r", wrapped(s))
}

// randomText: some of the pieces, one behind the other.
func randomText(r *rand.Rand, most int, pieces ...string) string {
	var b strings.Builder
	for range r.IntN(most + 1) {
		b.WriteString(pieces[r.IntN(len(pieces))])
	}
	return b.String()
}

// inPieces: s cut at random places, empty pieces among them.
func inPieces(r *rand.Rand, s string) []string {
	var l []string
	for s != "" {
		n := r.IntN(min(len(s), 12) + 1)
		l = append(l, s[:n])
		s = s[n:]
	}
	return append(l, "")
}

func byteByByte(s string) []string {
	var l []string
	for i := range len(s) {
		l = append(l, s[i:i+1])
	}
	return l
}

func goodSystems() []string {
	return []string{"a", "z", "a0", "z9", "duke", "unc", "here", "s", "q7", "systems", "s123456"}
}

func badSystems() []string {
	return []string{"", "0", "9a", "Duke", "dukE", "du ke", " duke", "duke ", "duke.", "du-ke", "d=", "=", "eightby8", "systems8", "é", "a\x00", "\x10a", "a\xff", "-Q7", "a -Q7"}
}

func goodNumbers() []int {
	return []int{0, 1, 7, 9, 10, 99, 100, 12345, 999999999999, 1000000000000, api.MaxNumber - 1, api.MaxNumber}
}

func badNumbers() []int {
	return []int{-1, -7, -api.MaxNumber, api.MaxNumber + 1, 9999999999999, 10000000000000, math.MaxInt, math.MinInt}
}

// badDigits: texts that are no number's digits.
func badDigits() []string {
	return []string{"", "00", "07", "-0", "-1", "+1", " 1", "1 ", "1.", "0x1", "a", "1a", "1\x00", "1\n", "1_0", "1099511627777", "9999999999999", "10000000000000", "99999999999999999999999"}
}

func wantWrap(t *testing.T, s, want string, errno api.Errno) {
	t.Helper()
	if got, e := Wrap(s); got != want || e != errno {
		t.Errorf("Wrap(%q): %q %d, want %q %d", s, got, e, want, errno)
	}
}

// P9.1: 16, the text, 0; at most 300 bytes.
func TestWrap(t *testing.T) {
	wantWrap(t, "", "\x10\x00", api.OK)
	wantWrap(t, "ROK", "\x10ROK\x00", api.OK)
	wantWrap(t, "two words é\xff\r\n", "\x10two words é\xff\r\n\x00", api.OK)
	for _, n := range []int{1, 299, 300} {
		wantWrap(t, of(n), wrapped(of(n)), api.OK)
	}
	for _, n := range []int{301, 302, 4000} {
		wantWrap(t, of(n), "", api.ErrLong)
	}
}

// P9.1: no byte 0 and no byte 16, wherever it stands; any other one.
func TestWrapBytes(t *testing.T) {
	for i, c := range everyByte() {
		for _, s := range []string{c, c + "ab", "a" + c + "b", "ab" + c, of(299) + c} {
			if i == 0 || i == 16 {
				wantWrap(t, s, "", api.ErrForm)
			} else {
				wantWrap(t, s, wrapped(s), api.OK)
			}
		}
		if i == 0 || i == 16 {
			// R2: the length is asked first.
			wantWrap(t, c+of(300), "", api.ErrLong)
			wantWrap(t, of(300)+c, "", api.ErrLong)
		}
	}
}

func wantScan(t *testing.T, s, text, rest string, found bool) {
	t.Helper()
	if a, b, ok := Scan(s); a != text || b != rest || ok != found {
		t.Errorf("Scan(%q): %q %q %v, want %q %q %v", s, a, b, ok, text, rest, found)
	}
}

// P9.2: the first text, and all that stands behind it.
func TestScanFound(t *testing.T) {
	wantScan(t, "x\x10ROK\x00y", "ROK", "y", true)
	wantScan(t, "\x10\x00", "", "", true)
	wantScan(t, "\x10a\x00", "a", "", true)
	wantScan(t, "\x10a\x00\x10b\x00", "a", "\x10b\x00", true)
	wantScan(t, "\x10a\x00\x00\x10", "a", "\x00\x10", true)
	wantScan(t, "\x10a\x00"+of(500), "a", of(500), true)
	wantScan(t, of(500)+"\x10a\x00", "a", "", true)
	wantScan(t, "\x10é\xff\r\n\x00", "é\xff\r\n", "", true)
}

// P9.2: a byte 16 begins anew.
func TestScanAnew(t *testing.T) {
	wantScan(t, "\x10a\x10b\x00c", "b", "c", true)
	wantScan(t, "\x10\x10\x10\x00", "", "", true)
	wantScan(t, "\x10"+of(400)+"\x10b\x00", "b", "", true)
	wantScan(t, "\x10"+of(400)+"\x10"+of(300)+"\x00", of(300), "", true)
	wantScan(t, "\x10a\x10b", "", "\x10b", false)
	wantScan(t, "\x10"+of(400)+"\x10", "", "\x10", false)
}

// P9.2: a byte 0 without a byte 16, or too far behind it, is passed over with what stands ahead.
func TestScanPassed(t *testing.T) {
	wantScan(t, "\x00", "", "", false)
	wantScan(t, "a\x00b\x00", "", "", false)
	wantScan(t, "a\x00\x10b\x00c", "b", "c", true)
	wantScan(t, "\x00\x00\x10b", "", "\x10b", false)
	wantScan(t, "\x10"+of(301)+"\x00", "", "", false)
	wantScan(t, "\x10"+of(301)+"\x00\x00", "", "", false)
	wantScan(t, "\x10"+of(301)+"\x00b\x00", "", "", false)
	wantScan(t, "\x10"+of(301)+"\x00\x10b\x00c", "b", "c", true)
	wantScan(t, "\x10"+of(301)+"\x00b\x00\x10c", "", "\x10c", false)
	wantScan(t, "\x10"+of(301)+"\x00b", "", "", false)
}

// P9.2: 300 bytes, and not one more, both in a text and in what may become one.
func TestScanLong(t *testing.T) {
	for _, n := range []int{0, 1, 299, 300} {
		wantScan(t, "ab"+wrapped(of(n))+"cd", of(n), "cd", true)
		wantScan(t, "ab\x10"+of(n), "", "\x10"+of(n), false)
	}
	for _, n := range []int{301, 302, 1000} {
		wantScan(t, "ab"+wrapped(of(n))+"cd", "", "", false)
		wantScan(t, "ab\x10"+of(n), "", "", false)
	}
}

// P9.2: without a byte 16 nothing may be a beginning.
func TestScanNothing(t *testing.T) {
	for _, s := range []string{"", "a", "\r\n", of(300), of(301)} {
		wantScan(t, s, "", "", false)
	}
	for i, c := range everyByte() {
		rest := ""
		if i == 16 {
			rest = "\x10"
		}
		wantScan(t, c, "", rest, false)
	}
}

var (
	wrappedForm   = regexp.MustCompile(`\x10([^\x00\x10]{0,300})\x00`)
	beginningForm = regexp.MustCompile(`\x10[^\x00\x10]{0,300}\z`)
)

// scanAgain: a second writing of Scan, of texts of ASCII alone.
func scanAgain(s string) (string, string, bool) {
	if at := wrappedForm.FindStringSubmatchIndex(s); at != nil {
		return s[at[2]:at[3]], s[at[1]:], true
	}
	return "", beginningForm.FindString(s), false
}

func scanPieces() []string {
	return []string{"\x10", "\x10", "\x00", "\x00", "a", "bc", of(149), of(150), of(151), of(299), of(300), of(301)}
}

// P9.2: held against a second writing.
func TestScanAgain(t *testing.T) {
	r := rand.New(rand.NewPCG(9, 2))
	for range 20000 {
		s := randomText(r, 12, scanPieces()...)
		text, rest, found := scanAgain(s)
		wantScan(t, s, text, rest, found)
	}
}

// scanAll: all texts that come in pieces, and what is left at the end.
func scanAll(pieces []string) ([]string, string) {
	var texts []string
	buf := ""
	for _, piece := range pieces {
		buf += piece
		for {
			text, rest, found := Scan(buf)
			buf = rest
			if !found {
				break
			}
			texts = append(texts, text)
		}
	}
	return texts, buf
}

// P9.11: the same texts are found, and the same is left, in whatever pieces the bytes come.
func TestScanPieces(t *testing.T) {
	r := rand.New(rand.NewPCG(9, 11))
	for range 3000 {
		s := randomText(r, 12, scanPieces()...)
		texts, left := scanAll([]string{s})
		for _, pieces := range [][]string{inPieces(r, s), byteByByte(s)} {
			if got, rest := scanAll(pieces); !slices.Equal(got, texts) || rest != left {
				t.Fatalf("%q in pieces %q: %q %q, want %q %q", s, pieces, got, rest, texts, left)
			}
		}
	}
}

// P9.9: what is wrapped is found as it was, whatever stands ahead without a byte 0 or 16, and behind.
func TestScanWrapped(t *testing.T) {
	r := rand.New(rand.NewPCG(9, 9))
	for range 5000 {
		ahead := randomText(r, 5, "a", "\r", "\xff", "é", of(150), of(301))
		behind := randomText(r, 5, "\x00", "\x10", "b", "\xff", of(301))
		s := randomText(r, 6, "c", " ", "\x01", "\x0f", "\x11", "\xff", "é", of(20))
		w, e := Wrap(s)
		if e != api.OK {
			t.Fatalf("Wrap(%q): %d", s, e)
		}
		wantScan(t, ahead+w+behind, s, behind, true)
	}
}

// P9.9: so each text of a greeting is, one behind the other.
func TestGreetingTexts(t *testing.T) {
	hello, _ := Hello("duke")
	call, _ := CallText(api.Call{System: "unc", Number: api.MaxNumber})
	reply, _ := Reply(api.ErrState, 7)
	offer, _ := Offer("iGge")
	all := "noise\r\n"
	for _, s := range []string{hello, call, reply, offer} {
		w, e := Wrap(s)
		if e != api.OK {
			t.Fatalf("Wrap(%q): %d", s, e)
		}
		all += w + "noise"
	}
	texts, left := scanAll([]string{all})
	if len(texts) != 4 || left != "" {
		t.Fatalf("%q: %q, left %q", all, texts, left)
	}
	system, e := ParseHello(texts[0])
	c, f := ParseCall(texts[1])
	why, n, g := ParseReply(texts[2])
	l, h := ParseOffer(texts[3])
	got := fmt.Sprint(system, e, c, f, why, n, g, l, h)
	want := fmt.Sprint("duke", api.OK, api.Call{System: "unc", Number: api.MaxNumber}, api.OK, api.ErrState, 7, api.OK, "iGge", api.OK)
	if got != want {
		t.Errorf("read: %s, want %s", got, want)
	}
}

func wantHello(t *testing.T, s, system string, errno api.Errno) {
	t.Helper()
	if got, e := ParseHello(s); got != system || e != errno {
		t.Errorf("ParseHello(%q): %q %d, want %q %d", s, got, e, system, errno)
	}
}

// P9.3, P9.9: Shere= and the system, and back.
func TestHello(t *testing.T) {
	for _, system := range goodSystems() {
		s, e := Hello(system)
		if s != "Shere="+system || e != api.OK {
			t.Errorf("Hello(%q): %q %d", system, s, e)
		}
		wantHello(t, s, system, api.OK)
	}
	for _, system := range badSystems() {
		if s, e := Hello(system); s != "" || e != api.ErrName {
			t.Errorf("Hello(%q): %q %d", system, s, e)
		}
		wantHello(t, "Shere="+system, "", api.ErrForm)
	}
}

// P9.3: nothing else is a Hello.
func TestHelloWrong(t *testing.T) {
	for _, s := range []string{"", "S", "Shere", "Shere=", "shere=duke", "SHERE=duke", "Shere duke", "Shere =duke", "Shere= duke", "Shere==duke", "Shere=duke=", "here=duke", "duke", " Shere=duke", "Sduke -Q7", "ROK"} {
		wantHello(t, s, "", api.ErrForm)
	}
	form := regexp.MustCompile(`\AShere=([a-z][a-z0-9]{0,6})\z`)
	for _, s := range mutants("Shere=duke12") {
		if m := form.FindStringSubmatch(s); m != nil {
			wantHello(t, s, m[1], api.OK)
		} else {
			wantHello(t, s, "", api.ErrForm)
		}
	}
}

func wantCall(t *testing.T, s string, c api.Call, errno api.Errno) {
	t.Helper()
	if got, e := ParseCall(s); got != c || e != errno {
		t.Errorf("ParseCall(%q): %+v %d, want %+v %d", s, got, e, c, errno)
	}
}

// P9.4, P9.9: S, the system, a blank, -Q, the digits, and back.
func TestCall(t *testing.T) {
	for _, system := range goodSystems() {
		for _, n := range goodNumbers() {
			c := api.Call{System: system, Number: n}
			s, e := CallText(c)
			if s != "S"+system+" -Q"+strconv.Itoa(n) || e != api.OK {
				t.Errorf("CallText(%+v): %q %d", c, s, e)
			}
			wantCall(t, s, c, api.OK)
		}
	}
}

// P9.4: calls that may not be; R2: the system's name is asked first.
func TestCallBad(t *testing.T) {
	for _, n := range badNumbers() {
		for _, system := range goodSystems() {
			if s, e := CallText(api.Call{System: system, Number: n}); s != "" || e != api.ErrArg {
				t.Errorf("CallText(%q, %d): %q %d", system, n, s, e)
			}
		}
	}
	for _, n := range append(badNumbers(), goodNumbers()...) {
		for _, system := range badSystems() {
			if s, e := CallText(api.Call{System: system, Number: n}); s != "" || e != api.ErrName {
				t.Errorf("CallText(%q, %d): %q %d", system, n, s, e)
			}
		}
	}
}

// P9.4: nothing else is a CallText.
func TestCallWrong(t *testing.T) {
	for _, s := range []string{"", "S", "Sduke", "Sduke ", "Sduke -", "Sduke -Q", "duke -Q7", "S -Q7", "sduke -Q7", "Sduke-Q7", "Sduke  -Q7", "Sduke -q7", "Sduke Q7", "Sduke -Q 7", "Sduke -Q7 ", "Sduke -Q7 -Q7", "Sduke -Q -Q7", " Sduke -Q7", "Sduke -Q7 -x9", "Shere=duke", "-Q7", " -Q7"} {
		wantCall(t, s, api.Call{}, api.ErrForm)
	}
	for _, digits := range badDigits() {
		wantCall(t, "Sduke -Q"+digits, api.Call{}, api.ErrForm)
	}
	for _, n := range badNumbers() {
		wantCall(t, "Sduke -Q"+strconv.Itoa(n), api.Call{}, api.ErrForm)
	}
	for _, system := range badSystems() {
		wantCall(t, "S"+system+" -Q7", api.Call{}, api.ErrForm)
	}
	form := regexp.MustCompile(`\AS([a-z][a-z0-9]{0,6}) -Q(0|[1-9][0-9]{0,12})\z`)
	for _, text := range []string{"Sduke -Q7", "Ssystems -Q1099511627776", "Sa -Q0"} {
		for _, s := range mutants(text) {
			want, errno := api.Call{}, api.ErrForm
			if m := form.FindStringSubmatch(s); m != nil {
				if n, _ := strconv.Atoi(m[2]); n <= api.MaxNumber {
					want, errno = api.Call{System: m[1], Number: n}, api.OK
				}
			}
			wantCall(t, s, want, errno)
		}
	}
}

func wantReply(t *testing.T, why api.Errno, n int, want string, errno api.Errno) {
	t.Helper()
	if got, e := Reply(why, n); got != want || e != errno {
		t.Errorf("Reply(%d, %d): %q %d, want %q %d", why, n, got, e, want, errno)
	}
}

func wantReplied(t *testing.T, s string, why api.Errno, n int, errno api.Errno) {
	t.Helper()
	if a, b, e := ParseReply(s); a != why || b != n || e != errno {
		t.Errorf("ParseReply(%q): %d %d %d, want %d %d %d", s, a, b, e, why, n, errno)
	}
}

// plainReplies: those without a number.
func plainReplies() map[api.Errno]string {
	return map[api.Errno]string{api.OK: "ROK", api.ErrBusy: "RLCK", api.ErrRefused: "RLOGIN"}
}

// P9.5, P9.9: the four replies, and back.
func TestReply(t *testing.T) {
	for why, s := range plainReplies() {
		wantReply(t, why, 0, s, api.OK)
		wantReplied(t, s, why, 0, api.OK)
		for _, n := range append(goodNumbers()[1:], badNumbers()...) {
			wantReply(t, why, n, "", api.ErrArg)
		}
	}
	for _, n := range goodNumbers() {
		s := "RBADSEQ " + strconv.Itoa(n)
		wantReply(t, api.ErrState, n, s, api.OK)
		wantReplied(t, s, api.ErrState, n, api.OK)
	}
	for _, n := range badNumbers() {
		wantReply(t, api.ErrState, n, "", api.ErrArg)
		wantReplied(t, "RBADSEQ "+strconv.Itoa(n), api.OK, 0, api.ErrForm)
	}
}

// P9.5: any other error has no reply.
func TestReplyOthers(t *testing.T) {
	others := []api.Errno{math.MinInt, math.MaxInt, 256, 256 + api.ErrBusy}
	for why := api.Errno(-2); why < 20; why++ {
		others = append(others, why)
	}
	for _, why := range others {
		if _, plain := plainReplies()[why]; plain || why == api.ErrState {
			continue
		}
		for _, n := range append(goodNumbers(), badNumbers()...) {
			wantReply(t, why, n, "", api.ErrArg)
		}
	}
}

// P9.5: nothing else is a Reply.
func TestReplyWrong(t *testing.T) {
	for _, s := range []string{"", "R", "RO", "rok", "OK", "ROK ", "ROK 0", "ROK0", " ROK", "RLCK 0", "RLOGIN 7", "RBAD", "RBADSEQ", "RBADSEQ ", "RBADSEQ7", "RBADSEQ  7", "RBADSEQ 7 ", "RBADSEQ -7", "rbadseq 7", "BADSEQ 7", "7", "ROKRLCK", "Pg"} {
		wantReplied(t, s, api.OK, 0, api.ErrForm)
	}
	for _, digits := range badDigits() {
		wantReplied(t, "RBADSEQ "+digits, api.OK, 0, api.ErrForm)
	}
	form := regexp.MustCompile(`\ARBADSEQ (0|[1-9][0-9]{0,12})\z`)
	for _, text := range []string{"ROK", "RLCK", "RLOGIN", "RBADSEQ 0", "RBADSEQ 9", "RBADSEQ 1099511627776"} {
		for _, s := range mutants(text) {
			why, n, errno := api.OK, 0, api.ErrForm
			for other, plain := range plainReplies() {
				if s == plain {
					why, errno = other, api.OK
				}
			}
			if m := form.FindStringSubmatch(s); m != nil {
				if k, _ := strconv.Atoi(m[1]); k <= api.MaxNumber {
					why, n, errno = api.ErrState, k, api.OK
				}
			}
			wantReplied(t, s, why, n, errno)
		}
	}
}

// over: all texts of at most most of these pieces.
func over(most int, pieces ...string) []string {
	all := []string{""}
	last := all
	for range most {
		var next []string
		for _, head := range last {
			for _, piece := range pieces {
				next = append(next, head+piece)
			}
		}
		all = append(all, next...)
		last = next
	}
	return all
}

// lettersAgain: a second writing of which texts are letters.
func lettersAgain(s string) bool {
	for i := range len(s) {
		if !strings.Contains("gGie", s[i:i+1]) || strings.Count(s, s[i:i+1]) > 1 {
			return false
		}
	}
	return s != ""
}

func wantOffer(t *testing.T, l string) {
	t.Helper()
	text, e := Offer(l)
	got, f := ParseOffer("P" + l)
	if lettersAgain(l) {
		if text != "P"+l || e != api.OK || got != l || f != api.OK {
			t.Errorf("letters %q: %q %d, %q %d", l, text, e, got, f)
		}
	} else if text != "" || e != api.ErrArg || got != "" || f != api.ErrForm {
		t.Errorf("no letters %q: %q %d, %q %d", l, text, e, got, f)
	}
}

// P9.6, P9.9: P and one letter or more, each once, and back.
func TestOffer(t *testing.T) {
	good := 0
	for _, l := range over(5, "g", "G", "i", "e", "E", "P", "é", "\xff", "\x00", " ") {
		wantOffer(t, l)
		if lettersAgain(l) {
			good++
		}
	}
	if good != 4+12+24+24 {
		t.Errorf("%d texts of letters were tried", good)
	}
	for _, c := range everyByte() {
		for _, l := range []string{c, "g" + c, c + "G", "i" + c + "e"} {
			wantOffer(t, l)
		}
	}
	wantOffer(t, "gGiegGie")
	wantOffer(t, strings.Repeat("e", 300))
	wantOffer(t, "\ufffd")
	wantOffer(t, "g\ufffd")
}

// P9.6: nothing else is an Offer.
func TestOfferWrong(t *testing.T) {
	for _, s := range []string{"", "P", "g", "pg", "Ug", " Pg", "P g", "Pg ", "PPg", "Pgg", "PN", "Pgx", "ROK"} {
		if l, e := ParseOffer(s); l != "" || e != api.ErrForm {
			t.Errorf("ParseOffer(%q): %q %d", s, l, e)
		}
	}
	for _, s := range mutants("PgGie") {
		l, e := ParseOffer(s)
		if good := s != "" && s[0] == 'P' && lettersAgain(s[1:]); good != (e == api.OK) || good && l != s[1:] || !good && (l != "" || e != api.ErrForm) {
			t.Errorf("ParseOffer(%q): %q %d", s, l, e)
		}
	}
}

// chooseAgain: a second writing of Choose.
func chooseAgain(offer, have string) int {
	for _, c := range []byte(have) {
		if slices.Contains([]byte("gGie"), c) && slices.Contains([]byte(offer), c) {
			return int(c)
		}
	}
	return 0
}

func wantChoose(t *testing.T, offer, have string, want int) {
	t.Helper()
	if got := Choose(offer, have); got != want {
		t.Errorf("Choose(%q, %q): %d, want %d", offer, have, got, want)
	}
}

// P9.6: the first of have that is offered, whatever else stands in either.
func TestChoose(t *testing.T) {
	wantChoose(t, "gie", "eig", 'e')
	wantChoose(t, "eig", "gie", 'g')
	wantChoose(t, "g", "e", 0)
	wantChoose(t, "g", "G", 0)
	wantChoose(t, "G", "gG", 'G')
	wantChoose(t, "", "gGie", 0)
	wantChoose(t, "gGie", "", 0)
	wantChoose(t, "", "", 0)
	wantChoose(t, "xyz", "xyz", 0)
	wantChoose(t, "xi", "xi", 'i')
	wantChoose(t, "\xffi", "\xe2\x82i", 'i')
	wantChoose(t, "é", "é", 0)
	wantChoose(t, "\xff", "\xff", 0)
	wantChoose(t, "\xff", "\ufffd", 0)
	wantChoose(t, "iiii", "eeei", 'i')
	// 0x167 and 0x165 end with the bytes of g and e, and are others.
	wantChoose(t, "ge", "\u0167\u0165", 0)
	wantChoose(t, "\u0167\u0165", "ge", 0)
	all := over(3, "g", "G", "i", "e", "x", "\xff")
	for _, offer := range all {
		for _, have := range all {
			wantChoose(t, offer, have, chooseAgain(offer, have))
		}
	}
	for _, c := range everyByte() {
		wantChoose(t, c, c, chooseAgain(c, c))
		wantChoose(t, c+"e", c+"e", chooseAgain(c+"e", c+"e"))
	}
}

// P9.7: nobody has typed, and it asks.
func TestKnock(t *testing.T) {
	if d, s := Knock(); d != (api.Door{}) || s != "login: " {
		t.Errorf("Knock: %+v %q", d, s)
	}
}

func wantType(t *testing.T, d api.Door, s string, want api.Door, said, left string) {
	t.Helper()
	if got, a, b := Type(d, "ann", "x", s); got != want || a != said || b != left {
		t.Errorf("Type(%+v, %q): %+v %q %q, want %+v %q %q", d, s, got, a, b, want, said, left)
	}
}

// at: a door at a stage at which nobody types.
func at(stage int, name string, wrong int) api.Door {
	return api.Door{Stage: stage, Name: name, Wrong: wrong}
}

const (
	asks  = "login: "
	word  = "Password: "
	wrong = "Login incorrect\r\n"
)

// P9.8: bytes that are no line's end are gathered, at most 60 of them.
func TestTypeGathers(t *testing.T) {
	wantType(t, api.Door{}, "", api.Door{}, "", "")
	wantType(t, api.Door{}, "an", api.Door{Typed: "an"}, "", "")
	wantType(t, api.Door{Typed: "an"}, "n", api.Door{Typed: "ann"}, "", "")
	wantType(t, api.Door{Stage: 1, Name: "bob", Typed: "a", Wrong: 2}, "b", api.Door{Stage: 1, Name: "bob", Typed: "ab", Wrong: 2}, "", "")
	for i, c := range everyByte() {
		if i != 13 && i != 10 {
			wantType(t, api.Door{Typed: "a"}, c, api.Door{Typed: "a" + c}, "", "")
			wantType(t, api.Door{}, c+"\r", at(1, c, 0), word, "")
		}
	}
	for _, n := range []int{59, 60, 61, 62, 500} {
		kept := of(min(n, 60))
		wantType(t, api.Door{}, of(n), api.Door{Typed: kept}, "", "")
		wantType(t, api.Door{Stage: 1}, of(n), api.Door{Stage: 1, Typed: kept}, "", "")
		wantType(t, api.Door{}, of(n)+"\r", at(1, kept, 0), word, "")
	}
	wantType(t, api.Door{Typed: of(59)}, "ab", api.Door{Typed: of(59) + "a"}, "", "")
	wantType(t, api.Door{Typed: of(60)}, "a", api.Door{Typed: of(60)}, "", "")
	// More than a door gathers may be handed in: it stays.
	wantType(t, api.Door{Typed: of(70)}, "a", api.Door{Typed: of(70)}, "", "")
}

// P9.8: a name, by either byte; without one it asks anew.
func TestTypeName(t *testing.T) {
	for _, end := range []string{"\r", "\n"} {
		wantType(t, api.Door{}, end, api.Door{}, asks, "")
		wantType(t, api.Door{Wrong: 2}, end, api.Door{Wrong: 2}, asks, "")
		wantType(t, api.Door{}, end+end+end, api.Door{}, asks+asks+asks, "")
		wantType(t, api.Door{}, "ann"+end, at(1, "ann", 0), word, "")
		wantType(t, api.Door{Wrong: 1}, "bob"+end, at(1, "bob", 1), word, "")
		wantType(t, api.Door{Typed: "an"}, "n"+end, at(1, "ann", 0), word, "")
		wantType(t, api.Door{}, " "+end, at(1, " ", 0), word, "")
		wantType(t, api.Door{}, end+"ann"+end+"x", api.Door{Stage: 1, Name: "ann", Typed: "x"}, asks+word, "")
		wantType(t, api.Door{Name: "old"}, "ann"+end, at(1, "ann", 0), word, "")
		wantType(t, api.Door{Name: "old"}, end, api.Door{Name: "old"}, asks, "")
	}
}

// P9.8: in, and what is left is for whoever is in.
func TestTypeIn(t *testing.T) {
	for _, end := range []string{"\r", "\n"} {
		wantType(t, api.Door{}, "ann"+end+"x"+end, at(2, "ann", 0), word, "")
		wantType(t, api.Door{}, "ann"+end+"x"+end+"S", at(2, "ann", 0), word, "S")
		wantType(t, at(1, "ann", 2), "x"+end+"\r\n\x10S\x00", at(2, "ann", 2), "", "\r\n\x10S\x00")
		wantType(t, api.Door{Stage: 1, Name: "ann", Typed: "x"}, end, at(2, "ann", 0), "", "")
	}
	for _, s := range []string{"", "a", "\r", "ann\rx\r", "\x00\xff"} {
		wantType(t, at(2, "ann", 1), s, at(2, "ann", 1), "", s)
		wantType(t, api.Door{Stage: 2, Typed: "t", Wrong: 9}, s, api.Door{Stage: 2, Typed: "t", Wrong: 9}, "", s)
	}
}

// P9.8: a wrong name, a wrong password, the right ones in wrong places.
func TestTypeWrong(t *testing.T) {
	for _, end := range []string{"\r", "\n"} {
		for _, pair := range [][2]string{{"ann", "y"}, {"bob", "x"}, {"x", "ann"}, {"ann", ""}, {"ann", "x "}, {"ann", "X"}, {"Ann", "x"}, {"ann", "xx"}, {"an", "x"}, {"ann ", "x"}, {"ann", "ann"}, {"x", "x"}, {"ann", " x"}} {
			wantType(t, api.Door{}, pair[0]+end+pair[1]+end, at(0, "", 1), word+wrong+asks, "")
			wantType(t, at(0, "", 1), pair[0]+end+pair[1]+end+"a", api.Door{Typed: "a", Wrong: 2}, word+wrong+asks, "")
			wantType(t, at(0, "", 2), pair[0]+end+pair[1]+end+"lost", at(3, "", 3), word+wrong, "")
		}
	}
	wantType(t, api.Door{}, "ann\ry\rann\nx\nS", at(2, "ann", 1), word+wrong+asks+word, "S")
	// Both bytes behind a name are two lines, the second one an empty password.
	wantType(t, api.Door{}, "ann\r\n", at(0, "", 1), word+wrong+asks, "")
	wantType(t, api.Door{}, "ann\r\nx\r\n", at(0, "", 2), word+wrong+asks+word+wrong+asks, "")
}

// P9.8: the third wrong one shuts it; nobody hears what is typed then.
func TestTypeShut(t *testing.T) {
	once := "bob\rno\r"
	wantType(t, api.Door{}, once+once, at(0, "", 2), word+wrong+asks+word+wrong+asks, "")
	wantType(t, api.Door{}, once+once+"ann\rx\rS", at(2, "ann", 2), word+wrong+asks+word+wrong+asks+word, "S")
	wantType(t, api.Door{}, once+once+once+"ann\rx\rS", at(3, "", 3), word+wrong+asks+word+wrong+asks+word+wrong, "")
	wantType(t, at(1, "bob", 2), "x\r", at(3, "", 3), wrong, "")
	wantType(t, at(1, "bob", 7), "x\r", at(3, "", 8), wrong, "")
	wantType(t, at(1, "bob", -5), "x\r", at(0, "", -4), wrong+asks, "")
	for _, stage := range []int{3, 4, -1, -2, 256, 257, 258, math.MaxInt, math.MinInt} {
		d := api.Door{Stage: stage, Typed: "t", Name: "ann", Wrong: 1}
		for _, s := range []string{"", "a", "\r", "ann\rx\rS"} {
			wantType(t, d, s, d, "", "")
		}
	}
}

// P9.8: the name and the password are held against lines as they stand, whatever they are.
func TestTypeWords(t *testing.T) {
	for _, c := range []struct {
		login, password, s string
		stage              int
	}{
		{"", "", "\r\r", 0},
		{"", "", "a\r\r", 0},
		{"ann", "", "ann\r\r", 2},
		{"ann", "a b", "ann\ra b\r", 2},
		{"\xff", "\x00", "\xff\r\x00\r", 2},
		{"é", "\xc3", "é\r\xc3\r", 2},
		{"\xff", "\x00", "\xfe\r\x00\r", 0},
		{of(60), of(60), of(60) + "\r" + of(60) + "\r", 2},
		{of(60), of(60), of(60) + "\r" + of(59) + "\r", 0},
		// A line is what Typed has of it: its first 60 bytes.
		{of(60), of(60), of(61) + "\r" + of(60) + "more\r", 2},
		{of(61), of(60), of(61) + "\r" + of(60) + "\r", 0},
		{of(60), of(61), of(60) + "\r" + of(61) + "\r", 0},
		{"a\r", "b", "a\r\rb\r", 1},
	} {
		if d, _, _ := Type(api.Door{}, c.login, c.password, c.s); d.Stage != c.stage {
			t.Errorf("Type(%q, %q, %q): %+v, want stage %d", c.login, c.password, c.s, d, c.stage)
		}
	}
	// An empty name can be handed in alone.
	if d, _, left := Type(at(1, "", 0), "", "x", "x\rS"); d != at(2, "", 0) || left != "S" {
		t.Errorf("an empty name: %+v %q", d, left)
	}
}

// typeAgain: a second writing of Type at a new door, line by line.
func typeAgain(login, password, s string) (d api.Door, said, left string) {
	for d.Wrong < 3 {
		at := strings.IndexAny(s, "\r\n")
		if at < 0 {
			d.Typed = s[:min(len(s), 60)]
			return d, said, ""
		}
		line := s[:min(at, 60)]
		s = s[at+1:]
		if d.Stage == 0 && line == "" {
			said += "login: "
			continue
		}
		if d.Stage == 0 {
			d.Name, d.Stage = line, 1
			said += "Password: "
			continue
		}
		if d.Name+"\r"+line == login+"\r"+password {
			d.Stage = 2
			return d, said, s
		}
		d.Name, d.Stage, d.Wrong = "", 0, d.Wrong+1
		said += "Login incorrect\r\n"
		if d.Wrong < 3 {
			said += "login: "
		}
	}
	d.Stage = 3
	return d, said, ""
}

func typedPieces() []string {
	return []string{"ann", "x", "\r", "\n", "ann\r", "x\r", "ann\rx\n", "b", of(30), of(60), "\xff", "\x00"}
}

// P9.8: held against a second writing.
func TestTypeAgain(t *testing.T) {
	r := rand.New(rand.NewPCG(9, 8))
	stages := map[int]int{}
	for range 30000 {
		s := randomText(r, 14, typedPieces()...)
		want, said, left := typeAgain("ann", "x", s)
		wantType(t, api.Door{}, s, want, said, left)
		stages[want.Stage]++
	}
	for stage := range 4 {
		if stages[stage] < 500 {
			t.Errorf("stage %d came %d times alone", stage, stages[stage])
		}
	}
}

// P9.10: whoever is in typed the name and the password as the last two lines.
func TestTypeLastLines(t *testing.T) {
	r := rand.New(rand.NewPCG(9, 10))
	in := 0
	for range 20000 {
		s := randomText(r, 14, typedPieces()...)
		d, _, left := Type(api.Door{}, "ann", "x", s)
		typed := strings.ReplaceAll(strings.TrimSuffix(s, left), "\n", "\r")
		if d.Stage == 2 && typed != "ann\rx\r" && !strings.HasSuffix(typed, "\rann\rx\r") {
			t.Fatalf("in by %q", typed)
		}
		if d.Stage == 2 {
			in++
		}
	}
	if in < 1000 {
		t.Errorf("%d were in", in)
	}
}

// P9.11: the door, what it says, and what is left are the same in whatever pieces bytes come.
func TestTypePieces(t *testing.T) {
	r := rand.New(rand.NewPCG(9, 12))
	for range 5000 {
		s := randomText(r, 14, typedPieces()...)
		want, said, left := Type(api.Door{}, "ann", "x", s)
		for _, pieces := range [][]string{inPieces(r, s), byteByByte(s)} {
			var d api.Door
			var allSaid, allLeft string
			for _, piece := range pieces {
				next, a, b := Type(d, "ann", "x", piece)
				d, allSaid, allLeft = next, allSaid+a, allLeft+b
			}
			if d != want || allSaid != said || allLeft != left {
				t.Fatalf("%q in pieces %q: %+v %q %q, want %+v %q %q", s, pieces, d, allSaid, allLeft, want, said, left)
			}
		}
	}
}

// R1: every call ends, of long texts too.
func TestLongTexts(t *testing.T) {
	const n = 1 << 20
	wantScan(t, strings.Repeat("\x10", n), "", "\x10", false)
	wantScan(t, strings.Repeat("\x00", n), "", "", false)
	wantScan(t, strings.Repeat("\x10"+of(301)+"\x00", n/303), "", "", false)
	wantChoose(t, strings.Repeat("g", n), strings.Repeat("e", n), 0)
	wantChoose(t, strings.Repeat("x", n), strings.Repeat("x", n), 0)
	wantType(t, api.Door{}, strings.Repeat("t", n), api.Door{Typed: of(60)}, "", "")
	wantType(t, api.Door{}, strings.Repeat("\r", n), api.Door{}, strings.Repeat(asks, n), "")
	for _, parse := range []func(string) api.Errno{
		func(s string) api.Errno { _, e := ParseHello(s); return e },
		func(s string) api.Errno { _, e := ParseCall(s); return e },
		func(s string) api.Errno { _, _, e := ParseReply(s); return e },
		func(s string) api.Errno { _, e := ParseOffer(s); return e },
	} {
		for _, head := range []string{"", "Shere=", "S", "Sduke -Q", "RBADSEQ ", "Pg"} {
			for _, c := range []string{"a", "1", "g", " -Q"} {
				if e := parse(head + strings.Repeat(c, n)); e != api.ErrForm {
					t.Errorf("%q and many %q: %d", head, c, e)
				}
			}
		}
	}
}

// R1: whatever comes, no call panics, and what was read is written so.
func FuzzReads(f *testing.F) {
	for _, s := range []string{"", "Shere=duke", "Sduke -Q7", "ROK", "RBADSEQ 9", "PgGie", "\x10ROK\x00y", "ann\rx\rS"} {
		f.Add(s)
	}
	f.Fuzz(func(t *testing.T, s string) {
		Scan(s)
		Type(api.Door{}, "ann", "x", s)
		if system, e := ParseHello(s); e == api.OK {
			if w, _ := Hello(system); w != s {
				t.Errorf("hello %q: %q", s, w)
			}
		}
		if c, e := ParseCall(s); e == api.OK {
			if w, _ := CallText(c); w != s {
				t.Errorf("call %q: %q", s, w)
			}
		}
		if why, n, e := ParseReply(s); e == api.OK {
			if w, _ := Reply(why, n); w != s {
				t.Errorf("reply %q: %q", s, w)
			}
		}
		if l, e := ParseOffer(s); e == api.OK {
			if w, _ := Offer(l); w != s {
				t.Errorf("offer %q: %q", s, w)
			}
		}
	})
}
