package octet

import (
	"math"
	"strings"
	"testing"

	"postchaise/api"
)

const maxInt, minInt = math.MaxInt, math.MinInt

// P1.1
func TestText(t *testing.T) {
	for _, c := range []struct {
		n    int
		want string
	}{
		{0, "0"}, {1, "1"}, {9, "9"}, {10, "10"}, {120, "120"}, {-1, "-1"}, {-5, "-5"}, {-100, "-100"},
		{api.MaxNumber, "1099511627776"},
		{maxInt, "9223372036854775807"}, {minInt, "-9223372036854775808"},
	} {
		if got := Text(c.n); got != c.want {
			t.Errorf("Text(%d): %q, want %q", c.n, got, c.want)
		}
	}
}

// P1.2
func TestNumber(t *testing.T) {
	for _, c := range []struct {
		s    string
		n    int
		want api.Errno
	}{
		{"0", 0, api.OK}, {"1", 1, api.OK}, {"9", 9, api.OK}, {"10", 10, api.OK}, {"90817263540", 90817263540, api.OK},
		{"999999999999", 999999999999, api.OK}, {"1000000000000", 1000000000000, api.OK},
		{"1099511627775", 1099511627775, api.OK}, {"1099511627776", api.MaxNumber, api.OK},
		{"", 0, api.ErrForm}, {"00", 0, api.ErrForm}, {"007", 0, api.ErrForm}, {"01", 0, api.ErrForm},
		{"-", 0, api.ErrForm}, {"-5", 0, api.ErrForm}, {"-0", 0, api.ErrForm}, {"+5", 0, api.ErrForm},
		{" 5", 0, api.ErrForm}, {"5 ", 0, api.ErrForm}, {"5\n", 0, api.ErrForm}, {"1_0", 0, api.ErrForm},
		{"1.0", 0, api.ErrForm}, {"0x1", 0, api.ErrForm}, {"1e3", 0, api.ErrForm}, {"1a", 0, api.ErrForm},
		{"/", 0, api.ErrForm}, {":", 0, api.ErrForm}, {"\x00", 0, api.ErrForm}, {"1\xff", 0, api.ErrForm}, {"\u0661", 0, api.ErrForm},
		{"1099511627777", 0, api.ErrLong}, {"9999999999999", 0, api.ErrLong}, {"10000000000000", 0, api.ErrLong},
		{"9223372036854775807", 0, api.ErrLong}, {"9223372036854775808", 0, api.ErrLong},
		{"18446744073709551617", 0, api.ErrLong}, {strings.Repeat("9", 1000), 0, api.ErrLong},
	} {
		if n, e := Number(c.s); n != c.n || e != c.want {
			t.Errorf("Number(%q): %d %d, want %d %d", c.s, n, e, c.n, c.want)
		}
	}
}

// P1.2, R2: the form counts ahead of the length.
func TestNumberFormAheadOfLength(t *testing.T) {
	for _, s := range []string{"01099511627776", "00000000000000", "10000000000000x", "-10000000000000", "x10000000000000"} {
		if n, e := Number(s); n != 0 || e != api.ErrForm {
			t.Errorf("Number(%q): %d %d, want 0 %d", s, n, e, api.ErrForm)
		}
	}
}

// P1.3
func TestPut(t *testing.T) {
	for _, c := range []struct {
		n, size int
		s       string
		want    api.Errno
	}{
		{0, 1, "\x00", api.OK}, {255, 1, "\xff", api.OK}, {92, 1, "\\", api.OK},
		{0, 2, "\x00\x00", api.OK}, {258, 2, "\x01\x02", api.OK}, {255, 2, "\x00\xff", api.OK}, {65535, 2, "\xff\xff", api.OK},
		{0x010203, 3, "\x01\x02\x03", api.OK}, {1<<24 - 1, 3, "\xff\xff\xff", api.OK},
		{0, 4, "\x00\x00\x00\x00", api.OK}, {0x01020304, 4, "\x01\x02\x03\x04", api.OK},
		{1 << 31, 4, "\x80\x00\x00\x00", api.OK}, {1<<32 - 1, 4, "\xff\xff\xff\xff", api.OK},
		{256, 1, "", api.ErrLong}, {65536, 2, "", api.ErrLong}, {1 << 24, 3, "", api.ErrLong}, {1 << 32, 4, "", api.ErrLong},
		{-1, 1, "", api.ErrLong}, {-1, 4, "", api.ErrLong}, {maxInt, 4, "", api.ErrLong}, {minInt, 1, "", api.ErrLong}, {minInt, 4, "", api.ErrLong},
		{0, 0, "", api.ErrArg}, {0, 5, "", api.ErrArg}, {0, 8, "", api.ErrArg}, {0, -1, "", api.ErrArg}, {0, maxInt, "", api.ErrArg}, {0, minInt, "", api.ErrArg},
		{-1, 0, "", api.ErrArg}, {-1, 5, "", api.ErrArg}, {maxInt, 0, "", api.ErrArg}, {maxInt, 5, "", api.ErrArg},
	} {
		if s, e := Put(c.n, c.size); s != c.s || e != c.want {
			t.Errorf("Put(%d, %d): %q %d, want %q %d", c.n, c.size, s, e, c.s, c.want)
		}
	}
}

// P1.3
func TestGet(t *testing.T) {
	const s = "\x01\x02\x03\x04\xff\xfe\xfd\xfc"
	for _, c := range []struct {
		s           string
		at, size, n int
		want        api.Errno
	}{
		{s, 0, 1, 1, api.OK}, {s, 0, 2, 258, api.OK}, {s, 1, 3, 0x020304, api.OK}, {s, 0, 4, 0x01020304, api.OK},
		{s, 4, 4, 0xfffefdfc, api.OK}, {s, 7, 1, 0xfc, api.OK}, {s, 3, 2, 0x04ff, api.OK},
		{"\xff\xff\xff\xff", 0, 4, 1<<32 - 1, api.OK}, {"\x80\x00\x00\x00", 0, 4, 1 << 31, api.OK}, {"\x00\x00\x00\x00", 0, 4, 0, api.OK},
		{s, 8, 1, 0, api.ErrShort}, {s, 7, 2, 0, api.ErrShort}, {s, 5, 4, 0, api.ErrShort}, {s, 9, 1, 0, api.ErrShort},
		{"", 0, 1, 0, api.ErrShort}, {"", 0, 4, 0, api.ErrShort}, {"abc", 0, 4, 0, api.ErrShort},
		{s, maxInt, 1, 0, api.ErrShort}, {s, maxInt, 4, 0, api.ErrShort}, {s, maxInt - 3, 4, 0, api.ErrShort}, {"", maxInt, 1, 0, api.ErrShort},
		{s, 0, 0, 0, api.ErrArg}, {s, 0, 5, 0, api.ErrArg}, {s, 0, 8, 0, api.ErrArg}, {s, 0, -1, 0, api.ErrArg},
		{s, 0, maxInt, 0, api.ErrArg}, {s, 0, minInt, 0, api.ErrArg},
		{s, -1, 1, 0, api.ErrArg}, {s, -1, 4, 0, api.ErrArg}, {s, minInt, 1, 0, api.ErrArg}, {s, -1, 0, 0, api.ErrArg},
		{"", 0, 0, 0, api.ErrArg}, {"", 0, 5, 0, api.ErrArg}, {"", -1, 1, 0, api.ErrArg}, {s, 9, 0, 0, api.ErrArg}, {s, maxInt, 5, 0, api.ErrArg},
	} {
		if n, e := Get(c.s, c.at, c.size); n != c.n || e != c.want {
			t.Errorf("Get(%q, %d, %d): %d %d, want %d %d", c.s, c.at, c.size, n, e, c.n, c.want)
		}
	}
}

// P1.4
func TestFixed(t *testing.T) {
	for _, c := range []struct {
		n, width int
		s        string
		want     api.Errno
	}{
		{0, 1, "0", api.OK}, {7, 1, "7", api.OK}, {9, 1, "9", api.OK}, {7, 3, "007", api.OK}, {0, 3, "000", api.OK},
		{120, 3, "120", api.OK}, {999, 3, "999", api.OK}, {100, 5, "00100", api.OK},
		{0, 20, "00000000000000000000", api.OK}, {5, 19, "0000000000000000005", api.OK},
		{maxInt, 19, "9223372036854775807", api.OK}, {maxInt, 20, "09223372036854775807", api.OK},
		{10, 1, "", api.ErrLong}, {1000, 3, "", api.ErrLong}, {100000, 5, "", api.ErrLong}, {maxInt, 18, "", api.ErrLong}, {maxInt, 1, "", api.ErrLong},
		{0, 0, "", api.ErrArg}, {0, 21, "", api.ErrArg}, {0, -1, "", api.ErrArg}, {7, maxInt, "", api.ErrArg}, {7, minInt, "", api.ErrArg},
		{-1, 1, "", api.ErrArg}, {-1, 20, "", api.ErrArg}, {-100, 1, "", api.ErrArg}, {minInt, 1, "", api.ErrArg}, {minInt, 20, "", api.ErrArg},
		{maxInt, 0, "", api.ErrArg}, {maxInt, 21, "", api.ErrArg},
	} {
		if s, e := Fixed(c.n, c.width); s != c.s || e != c.want {
			t.Errorf("Fixed(%d, %d): %q %d, want %q %d", c.n, c.width, s, e, c.s, c.want)
		}
	}
}

// P1.5
func TestQuote(t *testing.T) {
	for _, c := range []struct{ s, want string }{
		{"", ""}, {" ", "\\20"}, {"!", "!"}, {"[", "["}, {"\\", "\\5c"}, {"]", "]"}, {"~", "~"}, {"\x7f", "\\7f"}, {"\xff", "\\ff"}, {"\x80", "\\80"},
		{"\x00", "\\00"}, {"\n", "\\0a"}, {"a b", "a\\20b"}, {"\\20", "\\5c20"}, {"\u00e9", "\\c3\\a9"}, {"\\\\", "\\5c\\5c"},
		{"Az09\"'%", "Az09\"'%"},
	} {
		if got := Quote(c.s); got != c.want {
			t.Errorf("Quote(%q): %q, want %q", c.s, got, c.want)
		}
		if s, e := Unquote(c.want); s != c.s || e != api.OK {
			t.Errorf("Unquote(%q): %q %d, want %q %d", c.want, s, e, c.s, api.OK)
		}
	}
}

// quotedByte is the Quote of one byte, written out as the document says it.
func quotedByte(c int) string {
	const digits = "0123456789abcdef"
	if c == '\\' || c < 33 || c > 126 {
		return "\\" + digits[c/16:c/16+1] + digits[c%16:c%16+1]
	}
	return string([]byte{byte(c)})
}

// P1.5: each byte, alone and between others.
func TestQuoteEachByte(t *testing.T) {
	for c := range 256 {
		s := string([]byte{byte(c)})
		if got, want := Quote(s), quotedByte(c); got != want {
			t.Errorf("Quote(%q): %q, want %q", s, got, want)
		}
		if got, want := Quote("a"+s+" "), "a"+quotedByte(c)+"\\20"; got != want {
			t.Errorf("Quote between others of %q: %q, want %q", s, got, want)
		}
	}
}

// P1.5
func TestUnquoteWrong(t *testing.T) {
	for _, s := range []string{
		" ", "\x7f", "\xff", "\x00", "a b", "a\n", "\u00e9",
		"\\", "\\2", "a\\", "a\\2", "\\20\\", "\\20\\2", "\\\\", "\\ 20", "\\2 ", "\\g0", "\\0g", "\\x20",
		"\\5C", "\\0A", "\\A0", "\\FF", "\\fF", "\\-1", "\\+1", "\\\\5c", "\\\x00\x00",
		"\\61", "a\\61", "\\21", "\\7e", "\\5b", "\\5d", "ok\\30", "\\20 ",
	} {
		if got, e := Unquote(s); got != "" || e != api.ErrForm {
			t.Errorf("Unquote(%q): %q %d, want nothing and %d", s, got, e, api.ErrForm)
		}
	}
}

// P1.5: of all texts of one byte, and of all of \ and two more, just the Quotes of some text are read.
func TestUnquoteTakesQuotesAlone(t *testing.T) {
	ofByte := map[string]byte{}
	for c := range 256 {
		ofByte[quotedByte(c)] = byte(c)
	}
	check := func(s string) {
		c, there := ofByte[s]
		got, e := Unquote(s)
		if there && (got != string([]byte{c}) || e != api.OK) {
			t.Errorf("Unquote(%q): %q %d, want byte %d", s, got, e, c)
		}
		if !there && (got != "" || e != api.ErrForm) {
			t.Errorf("Unquote(%q): %q %d, want nothing and %d", s, got, e, api.ErrForm)
		}
	}
	for a := range 256 {
		check(string([]byte{byte(a)}))
		for b := range 256 {
			check(string([]byte{'\\', byte(a), byte(b)}))
		}
	}
}

// P1.6: numbers in digits.
func TestNumberReadsText(t *testing.T) {
	for n := 0; n <= api.MaxNumber; n = n + n/7 + 1 {
		for _, m := range []int{n, api.MaxNumber - n} {
			s := Text(m)
			got, e := Number(s)
			if got != m || e != api.OK {
				t.Errorf("Number(%q): %d %d, want %d", s, got, e, m)
			}
		}
	}
	for _, s := range []string{"0", "1", "10", "99", "100", "1099511627776", "1000000000000"} {
		n, e := Number(s)
		if e != api.OK || Text(n) != s {
			t.Errorf("Text of Number(%q): %q %d", s, Text(n), e)
		}
	}
}

// P1.6: numbers in bytes.
func TestGetReadsPut(t *testing.T) {
	for size := 1; size <= 4; size++ {
		end := 1 << (8 * size)
		for n := 0; n < end; n = n + n/9 + 1 {
			for _, m := range []int{n, end - 1 - n} {
				s, e := Put(m, size)
				got, f := Get("ab"+s+"c", 2, size)
				if len(s) != size || got != m || e != api.OK || f != api.OK {
					t.Errorf("Put(%d, %d): %q %d, read as %d %d", m, size, s, e, got, f)
				}
			}
		}
	}
	const bytes = "\x00\x01\x7f\x80\xff\\ \x00\x00\xff"
	for size := 1; size <= 4; size++ {
		for at := 0; at+size <= len(bytes); at++ {
			n, e := Get(bytes, at, size)
			s, f := Put(n, size)
			if s != bytes[at:at+size] || e != api.OK || f != api.OK {
				t.Errorf("Put of Get at %d of %d: %q %d %d", at, size, s, e, f)
			}
		}
	}
}

// P1.6: texts, and digits with noughts ahead.
func TestUnquoteReadsQuote(t *testing.T) {
	for a := range 256 {
		for b := range 256 {
			s := string([]byte{byte(a), byte(b)})
			q := Quote(s)
			got, e := Unquote(q)
			if got != s || e != api.OK {
				t.Fatalf("Unquote(%q): %q %d, want %q", q, got, e, s)
			}
		}
	}
	for _, q := range []string{"", "abc", "\\20", "a\\5c\\00z", "\\ff\\7f!~"} {
		s, e := Unquote(q)
		if e != api.OK || Quote(s) != q {
			t.Errorf("Quote of Unquote(%q): %q %d", q, Quote(s), e)
		}
	}
}

// P1.6
func TestFixedSaysTheNumber(t *testing.T) {
	for n := 0; n <= api.MaxNumber; n = n + n/7 + 1 {
		s, e := Fixed(n, 20)
		digits := strings.TrimLeft(s, "0")
		if digits == "" {
			digits = "0"
		}
		got, f := Number(digits)
		if len(s) != 20 || got != n || e != api.OK || f != api.OK {
			t.Errorf("Fixed(%d, 20): %q %d, read as %d %d", n, s, e, got, f)
		}
	}
}

// P1.7
func TestFixedStandsInOrder(t *testing.T) {
	for width := 1; width <= 20; width++ {
		last, lastN := "", -1
		for n, more := 0, true; more; {
			s, e := Fixed(n, width)
			if e != api.OK {
				break
			}
			if last >= s {
				t.Errorf("Fixed(%d, %d) is %q, not ahead of %q of %d", lastN, width, last, s, n)
			}
			last, lastN = s, n
			more = n <= maxInt-n/11-1
			if more {
				n += n/11 + 1
			}
		}
		if lastN < 9 || len(last) != width {
			t.Errorf("width %d ended at %d, %q", width, lastN, last)
		}
	}
}
