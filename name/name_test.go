package name

import (
	"math"
	"strconv"
	"strings"
	"testing"

	"postchaise/api"
)

const (
	fileKinds = "CDEFOTUX"
	noteKinds = "QS"
	digits    = "0123456789"
	greats    = "ABCDEFGHIJKLMNOPQRSTUVWXYZ"
	smalls    = "abcdefghijklmnopqrstuvwxyz"
)

var (
	goodSystems = []string{"a", "z", "duke", "ihnp4", "a0", "z9", "a012345", "abcdefg", "a9z", "zzzzzzz"}
	badSystems  = []string{"", "4a", "0", "9", "abcdefgh", "a0123456", "A", "Duke", "dukE", "du.ke", ".duke", "duke.", "du ke", "duke\n", "\x00", "a\x00", "a-b", "a_b", "a`", "a{", "a/", "a:", "`", "{", "a\xe9", "\xffa", "é", "aé", strings.Repeat("a", 1000)}
)

func id(grade, number int) api.Id { return api.Id{Grade: grade, Number: number} }

// badIds: ids that may not be, by their numbers or by their grades.
func badIds() []api.Id {
	ids := []api.Id{{}}
	for _, n := range []int{0, -1, -7, 100000, math.MaxInt, math.MinInt} {
		ids = append(ids, id('n', n))
	}
	for _, g := range []int{'.', '-', 0, -1, 7, '/', ':', '@', '[', '`', '{', 'n' + 256, 'n' - 256, 'n' + 1<<32, math.MaxInt, math.MinInt} {
		ids = append(ids, id(g, 7))
	}
	return ids
}

// someIds: ids of all grades, with numbers of all lengths.
func someIds() []api.Id {
	var ids []api.Id
	for _, g := range []byte(digits + greats + smalls) {
		for _, n := range []int{1, 7, 9, 10, 11, 99, 100, 999, 1000, 9999, 10000, 99998, 99999} {
			ids = append(ids, id(int(g), n))
		}
	}
	return ids
}

// P3.1
func TestSystem(t *testing.T) {
	for _, s := range goodSystems {
		if !System(s) {
			t.Errorf("System(%q): false", s)
		}
	}
	for _, s := range badSystems {
		if System(s) {
			t.Errorf("System(%q): true", s)
		}
	}
}

// P3.1: each byte, alone, at the beginning, within and at the end.
func TestSystemByBytes(t *testing.T) {
	for c := range 256 {
		b := string([]byte{byte(c)})
		small := strings.Contains(smalls, b)
		inside := small || strings.Contains(digits, b)
		for _, one := range []struct {
			s    string
			want bool
		}{
			{b, small}, {b + "abc", small}, {b + "abcdef", small},
			{"a" + b, inside}, {"a" + b + "b", inside}, {"abcdef" + b, inside}, {"abcdefg" + b, false},
		} {
			if got := System(one.s); got != one.want {
				t.Errorf("System(%q): %v", one.s, got)
			}
		}
	}
}

// P3.2
func TestGrade(t *testing.T) {
	for g := -300; g < 1000; g++ {
		want := 0 <= g && g < 128 && strings.IndexByte(digits+greats+smalls, byte(g)) >= 0
		if got := Grade(g); got != want {
			t.Errorf("Grade(%d): %v", g, got)
		}
	}
	for _, g := range []int{math.MinInt, math.MaxInt, 'n' + 1<<8, 'n' + 1<<16, 'n' + 1<<32, 'n' - 1<<32} {
		if Grade(g) {
			t.Errorf("Grade(%d): true", g)
		}
	}
}

// P3.2
func TestId(t *testing.T) {
	for _, x := range someIds() {
		want := string(rune(x.Grade)) + strconv.Itoa(x.Number)
		if got, e := Id(x); got != want || e != api.OK {
			t.Errorf("Id(%v): %q, %d, want %q", x, got, e, want)
		}
	}
	if got, e := Id(id('n', 7)); got != "n7" || e != api.OK {
		t.Errorf("Id(n, 7): %q, %d", got, e)
	}
	for _, x := range badIds() {
		if got, e := Id(x); got != "" || e != api.ErrArg {
			t.Errorf("Id(%v): %q, %d", x, got, e)
		}
	}
}

// P3.2, P3.6
func TestParseId(t *testing.T) {
	for _, x := range someIds() {
		s := string(rune(x.Grade)) + strconv.Itoa(x.Number)
		if got, e := ParseId(s); got != x || e != api.OK {
			t.Errorf("ParseId(%q): %v, %d", s, got, e)
		}
	}
	for _, s := range []string{
		"", "n", "7", "n0", "n00", "n07", "n00007", "n100000", "n99999999999999999999", "n1099511627776", "n+7", "n-7", "n 7", " n7", "n7 ", "n7\n", "n7x", "n7.", "nn7", "n7.5", "n0x7", "n1_0",
		".7", "-7", "_7", "\x007", "\xff7", "é7", "/7", ":7", "@7", "[7", "`7", "{7", "n\x007", "n７",
	} {
		if got, e := ParseId(s); got != (api.Id{}) || e != api.ErrForm {
			t.Errorf("ParseId(%q): %v, %d", s, got, e)
		}
	}
}

// P3.2: a digit may be a grade.
func TestParseIdOfDigits(t *testing.T) {
	if got, e := ParseId("07"); got != id('0', 7) || e != api.OK {
		t.Errorf("ParseId(07): %v, %d", got, e)
	}
	if got, e := ParseId("00"); got != (api.Id{}) || e != api.ErrForm {
		t.Errorf("ParseId(00): %v, %d", got, e)
	}
}

// P3.3
func TestLess(t *testing.T) {
	for _, c := range []struct {
		a, b api.Id
		want bool
	}{
		{id('Z', 9), id('a', 1), true},
		{id('a', 1), id('Z', 9), false},
		{id('9', 9), id('A', 1), true},
		{id('n', 7), id('n', 7), false},
		{id('n', 7), id('n', 8), true},
		{id('n', 8), id('n', 7), false},
		// By the numbers, not by their texts.
		{id('n', 9), id('n', 10), true},
		{id('n', 10), id('n', 9), false},
		{id('m', 9), id('n', 9), true},
		{id(math.MinInt, 0), id(math.MaxInt, 0), true},
		{id(math.MaxInt, 0), id(math.MinInt, 0), false},
		{id(0, math.MinInt), id(0, math.MaxInt), true},
		{id(0, math.MaxInt), id(0, math.MinInt), false},
	} {
		if got := Less(c.a, c.b); got != c.want {
			t.Errorf("Less(%v, %v): %v", c.a, c.b, got)
		}
	}
}

// P3.7: the ids as they rise, one less than all those behind it alone, which makes it handed on too.
func TestLessIsAnOrder(t *testing.T) {
	ids := append([]api.Id{id(math.MinInt, 3), id(-1, 99999), id(0, -1), {}}, someIds()...)
	ids = append(ids, id('z', 100000), id('z', math.MaxInt), id(math.MaxInt, math.MinInt))
	for i, a := range ids {
		for j, b := range ids {
			if got := Less(a, b); got != (i < j) {
				t.Fatalf("Less(%v, %v): %v", a, b, got)
			}
		}
	}
}

// P3.4
func TestFile(t *testing.T) {
	for _, c := range []struct {
		k    int
		s    string
		x    api.Id
		want string
	}{
		{'C', "duke", id('n', 7), "C.duke.n7"},
		{'X', "a", id('0', 1), "X.a.01"},
		{'T', "abcdefg", id('Z', 99999), "T.abcdefg.Z99999"},
	} {
		if got, e := File(c.k, c.s, c.x); got != c.want || e != api.OK {
			t.Errorf("File(%c, %q, %v): %q, %d", c.k, c.s, c.x, got, e)
		}
	}
}

// P3.4, P3.5: which kinds there are.
func TestKinds(t *testing.T) {
	x := id('n', 7)
	for k := -300; k < 1000; k++ {
		isFile := 0 <= k && k < 128 && strings.IndexByte(fileKinds, byte(k)) >= 0
		isNote := 0 <= k && k < 128 && strings.IndexByte(noteKinds, byte(k)) >= 0
		file, e := File(k, "duke", x)
		note, f := Note(k, "duke")
		if isFile != (e == api.OK) || isNote != (f == api.OK) {
			t.Errorf("of the kind %d: %q, %d, %q, %d", k, file, e, note, f)
		}
		if isFile && file != string(rune(k))+".duke.n7" || isNote && note != string(rune(k))+".duke" {
			t.Errorf("of the kind %d: %q, %q", k, file, note)
		}
		if !isFile && (file != "" || e != api.ErrArg) || !isNote && (note != "" || f != api.ErrArg) {
			t.Errorf("of the kind %d: %q, %d, %q, %d", k, file, e, note, f)
		}
		read, system, y, e := ParseFile(string([]byte{byte(k)}) + ".duke.n7")
		if 0 <= k && k < 256 && isFile != (e == api.OK && read == k && system == "duke" && y == x) {
			t.Errorf("of the kind %d it was read: %d, %q, %v, %d", k, read, system, y, e)
		}
	}
	for _, k := range []int{math.MinInt, math.MaxInt, 'C' + 1<<32, 'Q' + 1<<32, 'C' - 256, 'Q' - 256} {
		file, e := File(k, "duke", x)
		note, f := Note(k, "duke")
		if file != "" || e != api.ErrArg || note != "" || f != api.ErrArg {
			t.Errorf("of the kind %d: %q, %d, %q, %d", k, file, e, note, f)
		}
	}
}

// P3.4, R2: the first of the errors.
func TestFileErrors(t *testing.T) {
	good := id('n', 7)
	for _, s := range badSystems {
		for _, x := range append([]api.Id{good}, badIds()...) {
			if got, e := File('C', s, x); got != "" || e != api.ErrName {
				t.Errorf("File(C, %q, %v): %q, %d", s, x, got, e)
			}
			if got, e := File('Q', s, x); got != "" || e != api.ErrArg {
				t.Errorf("File(Q, %q, %v): %q, %d", s, x, got, e)
			}
		}
	}
	for _, x := range badIds() {
		if got, e := File('C', "duke", x); got != "" || e != api.ErrArg {
			t.Errorf("File(C, duke, %v): %q, %d", x, got, e)
		}
	}
}

// P3.4
func TestParseFileErrors(t *testing.T) {
	for _, s := range []string{
		"", ".", "..", "...", "C", "C.", "C..", "C.duke", "C.duke.", "C..n7", ".duke.n7", "duke.n7", "C.n7", "n7",
		"C.duke.n07", "C.duke.n0", "C.duke.n100000", "C.duke.7", "C.duke.n", "C.duke.n7.", "C.duke.n7.n7", "C.duke..n7", "C..duke.n7", ".C.duke.n7",
		"CC.duke.n7", "Cduke.n7", "C.duken7", "C.Duke.n7", "C.4a.n7", "C.abcdefgh.n7", "C.du.ke.n7", "C duke n7", "C/duke.n7", "C.duke/n7",
		"Q.duke", "S.duke", "Q.duke.n7", "S.duke.n7", "c.duke.n7", "A.duke.n7", "\x00.duke.n7", "\xff.duke.n7", "é.duke.n7",
		" C.duke.n7", "C.duke.n7 ", "C.duke.n7\n", "C.duke.\x007", "C.duke.é7", "C.duké.n7",
	} {
		k, system, x, e := ParseFile(s)
		if k != 0 || system != "" || x != (api.Id{}) || e != api.ErrForm {
			t.Errorf("ParseFile(%q): %d, %q, %v, %d", s, k, system, x, e)
		}
	}
}

// P3.4: one byte of a name turned: it is no name, or that of what it then says.
func TestParseFileTurned(t *testing.T) {
	for _, s := range []string{"C.duke.n7", "X.a.01", "T.abcdefg.Z99999"} {
		for at := range len(s) {
			for c := range 256 {
				b := []byte(s)
				b[at] = byte(c)
				k, system, x, e := ParseFile(string(b))
				if e == api.ErrForm {
					continue
				}
				if again, f := File(k, system, x); e != api.OK || f != api.OK || again != string(b) {
					t.Errorf("ParseFile(%q): %d, %q, %v, %d", b, k, system, x, e)
				}
			}
		}
	}
}

// P3.5
func TestNote(t *testing.T) {
	for _, k := range []byte(noteKinds) {
		for _, s := range goodSystems {
			want := string([]byte{k}) + "." + s
			if got, e := Note(int(k), s); got != want || e != api.OK {
				t.Errorf("Note(%c, %q): %q, %d", k, s, got, e)
			}
		}
		for _, s := range badSystems {
			if got, e := Note(int(k), s); got != "" || e != api.ErrName {
				t.Errorf("Note(%c, %q): %q, %d", k, s, got, e)
			}
		}
	}
	// R2: the kind is asked for ahead of the system.
	if got, e := Note('C', "4a"); got != "" || e != api.ErrArg {
		t.Errorf("Note(C, 4a): %q, %d", got, e)
	}
}

// P3.6
func TestNamesAreReadAndUnlike(t *testing.T) {
	seen := map[string]bool{}
	keep := func(s string) {
		if len(s) > 20 || seen[s] {
			t.Fatalf("%q is too long, or is the name of two things", s)
		}
		seen[s] = true
	}
	for _, system := range goodSystems {
		for _, k := range []byte(fileKinds) {
			for _, x := range someIds() {
				s, e := File(int(k), system, x)
				if e != api.OK {
					t.Fatalf("File(%c, %q, %v): %d", k, system, x, e)
				}
				keep(s)
				kind, name, y, e := ParseFile(s)
				if kind != int(k) || name != system || y != x || e != api.OK {
					t.Fatalf("ParseFile(%q): %d, %q, %v, %d", s, kind, name, y, e)
				}
			}
		}
		for _, k := range []byte(noteKinds) {
			s, _ := Note(int(k), system)
			keep(s)
		}
	}
}
