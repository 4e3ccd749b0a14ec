package path

import (
	library "path"
	"slices"
	"strings"
	"testing"

	"postchaise/api"
)

// long: a path of n bytes, of one part.
func long(n int) string { return "/" + strings.Repeat("a", n-1) }

// deep: a path of 2n bytes, of n parts.
func deep(n int) string { return strings.Repeat("/a", n) }

func goodPaths() []string {
	return []string{
		"/", "/a", "/a/b", "/ab", "/a/b/c", "/...", "/....", "/.a", "/a.", "/..a", "/a..", "/a..b", "/.../.a/b", "/~", "/!", "/!/~", "/\\", "/A/0", "/a:b", "/*?",
		long(2), long(39), long(40), deep(19), deep(20), "/b" + deep(19), "/aa" + strings.Repeat("/a", 18),
	}
}

// badPaths: what is short enough, and no path.
func badPaths() []string {
	return []string{
		"", "a", "a/", "a/b", ".", "..", "./a", "../a", " ", " /a", "~/a",
		"//", "///", "/a/", "/a//", "//a", "/a//b", "/.", "/..", "/./", "/../", "/a/.", "/a/..", "/./a", "/../a", "/a/./b", "/a/../b",
		"/ ", "/a b", "/a ", "/ a", "/a\n", "/\x00", "/a\x00", "/\x1f", "/\x7f", "/\x80", "/\xff", "/a/\xff", "/é", "/a/é/b", "\\a",
		long(39) + "/", deep(19) + "/", deep(18) + "/..", long(38) + "/.", long(39) + " ", strings.Repeat("a", 40), strings.Repeat("/", 40),
	}
}

func tooLong() []string {
	return []string{
		long(41), deep(21), long(300), long(301), long(1000), deep(20) + "/", deep(19) + "/..", strings.Repeat("/", 41), strings.Repeat("a", 41), strings.Repeat(" ", 41), strings.Repeat("\xff", 500), "/" + strings.Repeat("é", 20),
	}
}

// allTexts: every text of at most n of these letters.
func allTexts(letters string, n int) []string {
	texts := []string{""}
	for from := 0; n > 0; n-- {
		end := len(texts)
		for _, s := range texts[from:end] {
			for i := range len(letters) {
				texts = append(texts, s+letters[i:i+1])
			}
		}
		from = end
	}
	return texts
}

// P4.1
func TestCheck(t *testing.T) {
	for want, texts := range map[api.Errno][]string{api.OK: goodPaths(), api.ErrForm: badPaths(), api.ErrLong: tooLong()} {
		for _, p := range texts {
			if got := Check(p); got != want {
				t.Errorf("Check(%q): %d, want %d", p, got, want)
			}
		}
	}
}

// P4.1: each byte, as a part alone and at each place of one.
func TestCheckByBytes(t *testing.T) {
	for c := range 256 {
		b := string([]byte{byte(c)})
		in := c >= 33 && c <= 126 && c != '/'
		for _, one := range []struct {
			p  string
			ok bool
		}{
			{"/" + b, in && c != '.'}, {"/a/" + b, in && c != '.'}, {"/" + b + "/a", in && c != '.'},
			{"/" + b + "a", in}, {"/a" + b, in}, {"/a" + b + "a", in || c == '/'}, {"/a/a" + b + "/a", in},
			{b, c == '/'}, {b + "a", c == '/'}, {b + "/a", false}, {"/." + b, in && c != '.'},
		} {
			if got := Check(one.p); (got == api.OK) != one.ok || !one.ok && got != api.ErrForm {
				t.Errorf("Check(%q): %d", one.p, got)
			}
		}
	}
}

// P4.2
func TestClean(t *testing.T) {
	for _, c := range []struct{ p, want string }{
		{"/a//./b/../c", "/a/c"}, {"/..", "/"}, {"/", "/"}, {"//", "/"}, {"/.", "/"}, {"/./", "/"}, {"/../", "/"}, {"/../..", "/"}, {"/../../a", "/a"},
		{"/a", "/a"}, {"/a/", "/a"}, {"//a", "/a"}, {"/a/..", "/"}, {"/a/../", "/"}, {"/a/../..", "/"}, {"/a/../../b", "/b"}, {"/a/b/..", "/a"}, {"/a/b/../..", "/"}, {"/a/b/../../c", "/c"}, {"/a/../b/../c", "/c"}, {"/a/./../b", "/b"}, {"/a//../b", "/b"},
		{"/...", "/..."}, {"/a/...", "/a/..."}, {"/.../..", "/"}, {"/..a", "/..a"}, {"/a../b", "/a../b"}, {"/.a/./.b", "/.a/.b"}, {"/!/~", "/!/~"},
		// Too long on the way, but not at the end.
		{long(41) + "/..", "/"}, {deep(21) + "/..", deep(20)}, {long(297) + "/..", "/"}, {long(200) + "/../b", "/b"}, {strings.Repeat("/", 300), "/"}, {strings.Repeat("/", 299) + "a", "/a"}, {long(40) + strings.Repeat("/.", 130), long(40)}, {deep(60) + strings.Repeat("/..", 60), "/"}, {strings.Repeat("/..", 100), "/"},
		{long(40), long(40)}, {deep(20), deep(20)}, {deep(20) + "/", deep(20)}, {"/" + deep(20), deep(20)},
	} {
		got, e := Clean(c.p)
		if got != c.want || e != api.OK {
			t.Errorf("Clean(%q): %q, %d, want %q", c.p, got, e, c.want)
		}
	}
}

// P4.2, R2: the first of the errors.
func TestCleanErrors(t *testing.T) {
	for _, c := range []struct {
		want  api.Errno
		texts []string
	}{
		{api.ErrLong, []string{
			// The text.
			strings.Repeat("/", 301), strings.Repeat("a", 301), strings.Repeat(" ", 301), long(298) + "/..", deep(300), strings.Repeat("\xff", 1000),
			// The path that would be.
			long(41), deep(21), long(300), long(40) + "/a", deep(20) + "/b", deep(22) + "/..", deep(75) + strings.Repeat("/.", 75), "/a" + long(39), "/.." + long(41),
		}},
		{api.ErrForm, []string{
			"", "a", "a/b", "./a", "../a", ".", "..", " ", " /a", strings.Repeat("a", 300), strings.Repeat("a", 41), "a" + long(299),
			"/ ", "/a b", "/\x00", "/\x1f", "/\x7f", "/\x80", "/\xff", "/é", "/a/ ", "/ /a",
			// No part, and taken away behind it: it was looked at ahead.
			"/ /..", "/a b/../c", "/a/\x7f/../..", "/a/../ ",
			// No part, behind what would be too long.
			long(41) + "/ ", deep(21) + "/\xff", long(299) + " ", deep(149) + "/ ",
		}},
	} {
		for _, p := range c.texts {
			if got, e := Clean(p); got != "" || e != c.want {
				t.Errorf("Clean(%q): %q, %d, want %d", p, got, e, c.want)
			}
		}
	}
}

// P4.2: each byte, as a part and within one.
func TestCleanByBytes(t *testing.T) {
	for c := range 256 {
		b := string([]byte{byte(c)})
		for _, p := range []string{"/" + b, "/" + b + "a", "/a" + b, "/a/" + b + "/b", "/a/b" + b + "/../c"} {
			want, e := library.Clean(p), api.OK
			if c < 33 || c > 126 {
				want, e = "", api.ErrForm
			}
			if got, f := Clean(p); got != want || f != e {
				t.Errorf("Clean(%q): %q, %d, want %q, %d", p, got, f, want, e)
			}
		}
		if got, e := Clean(b + "a"); (e == api.OK) != (c == '/') || c != '/' && (got != "" || e != api.ErrForm) {
			t.Errorf("Clean(%q): %q, %d", b+"a", got, e)
		}
	}
}

// P4.2, P4.5: as the library cleans paths that have a stroke ahead; a path that may be is its own, and nothing else is.
func TestCleanOfAllTexts(t *testing.T) {
	for _, p := range allTexts("/.a", 9) {
		got, e := Clean(p)
		if !strings.HasPrefix(p, "/") {
			if got != "" || e != api.ErrForm || Check(p) != api.ErrForm {
				t.Fatalf("Clean(%q): %q, %d; Check: %d", p, got, e, Check(p))
			}
			continue
		}
		if got != library.Clean(p) || e != api.OK {
			t.Fatalf("Clean(%q): %q, %d", p, got, e)
		}
		if (got == p) != (Check(p) == api.OK) {
			t.Fatalf("Clean(%q): %q, but Check: %d", p, got, Check(p))
		}
		again, e := Clean(got)
		if Check(got) != api.OK || again != got || e != api.OK {
			t.Fatalf("Clean(%q): %q, whose Clean is %q, %d", p, got, again, e)
		}
	}
}

// P4.5
func TestPathIsItsOwn(t *testing.T) {
	for _, p := range goodPaths() {
		if got, e := Clean(p); got != p || e != api.OK {
			t.Errorf("Clean(%q): %q, %d", p, got, e)
		}
	}
}

// P4.3
func TestUnder(t *testing.T) {
	for _, c := range []struct {
		root, p string
		want    bool
	}{
		{"/a", "/ab", false}, {"/a", "/a", true}, {"/a", "/a/b", true}, {"/a", "/a/b/c", true}, {"/a/b", "/a/b/c", true}, {"/a/b", "/a/bc", false}, {"/a/b", "/a", false}, {"/ab", "/a", false}, {"/a", "/b", false}, {"/a", "/b/a", false}, {"/b", "/a/b", false}, {"/a", "/A", false}, {"/a", "/A/b", false},
		{"/", "/", true}, {"/", "/a", true}, {"/", "/a/b", true}, {"/a", "/", false}, {"/", long(40), true}, {"/", deep(20), true},
		{deep(19), deep(20), true}, {deep(20), deep(20), true}, {deep(20), deep(19), false}, {long(40), long(40), true}, {long(39), long(40), false},
		// Where one is no path, nothing is under it, and it is under nothing.
		{"/a/", "/a/b", false}, {"/a/", "/a/", false}, {"", "/a", false}, {"", "", false}, {"a", "a", false}, {"a", "a/b", false}, {"/", "a", false}, {"/", "", false}, {"/", "/a/", false}, {"/a", "/a/", false}, {"/a", "/a/..", false}, {"/a", "/a/../b", false}, {"/a", "/a//b", false}, {"/a", "/a/./b", false}, {"/.", "/./a", false}, {"/..", "/..", false}, {"//", "//a", false}, {"/a", "/a/ ", false}, {"/ ", "/ /a", false},
		{"/", long(41), false}, {long(41), long(41), false}, {deep(20), deep(21), false}, {long(40), long(40) + "/a", false},
	} {
		if got := Under(c.root, c.p); got != c.want {
			t.Errorf("Under(%q, %q): %v", c.root, c.p, got)
		}
	}
}

// P4.3: part by part, for all short texts.
func TestUnderByParts(t *testing.T) {
	texts := allTexts("/.a", 5)
	for _, root := range texts {
		for _, p := range texts {
			want := Check(root) == api.OK && Check(p) == api.OK
			if want && root != "/" {
				a, b := strings.Split(root, "/"), strings.Split(p, "/")
				want = len(a) <= len(b) && slices.Equal(a, b[:len(a)])
			}
			if got := Under(root, p); got != want {
				t.Fatalf("Under(%q, %q): %v", root, p, got)
			}
		}
	}
}

// P4.4
func TestPermit(t *testing.T) {
	for _, c := range []struct {
		roots []string
		p     string
		want  bool
	}{
		{nil, "/a", false}, {[]string{}, "/a", false}, {nil, "/", false},
		{[]string{"/a"}, "/a", true}, {[]string{"/a"}, "/a/b", true}, {[]string{"/a"}, "/ab", false}, {[]string{"/a"}, "/", false}, {[]string{"/"}, "/a", true}, {[]string{"/"}, "/", true},
		{[]string{"/x", "/a"}, "/a", true}, {[]string{"/a", "/x"}, "/a/b", true}, {[]string{"/x", "/y", "/a/b"}, "/a/b/c", true}, {[]string{"/x", "/y"}, "/a", false}, {[]string{"/a/b", "/a/c"}, "/a", false},
		// A root that is no path takes nothing away from the others.
		{[]string{"", "/a/", "x", "/a"}, "/a", true}, {[]string{"/a", "/.."}, "/a", true}, {[]string{"", "/a/"}, "/a/b", false}, {[]string{"a"}, "a", false}, {[]string{"/", "/a"}, "/a/..", false}, {[]string{"/", "/a"}, long(41), false}, {[]string{"/"}, "", false},
	} {
		before := slices.Clone(c.roots)
		if got := Permit(c.roots, c.p); got != c.want {
			t.Errorf("Permit(%q, %q): %v", c.roots, c.p, got)
		}
		if !slices.Equal(before, c.roots) { // R3
			t.Errorf("Permit(%q, %q) has changed the roots: %q", before, c.p, c.roots)
		}
	}
}

// P4.6
func TestBehindARoot(t *testing.T) {
	for _, root := range []string{"/", "/a", "/a/a", "/.a", "/...", long(38), deep(19)} {
		for _, s := range allTexts("/.a", 7) {
			if slices.Contains(strings.Split(s, "/"), "..") {
				continue
			}
			got, e := Clean(root + "/" + s)
			if e == api.OK && !Under(root, got) {
				t.Fatalf("%q behind %q: %q", s, root, got)
			}
			if e != api.OK && (e != api.ErrLong || got != "") {
				t.Fatalf("%q behind %q: %q, %d", s, root, got, e)
			}
			if p := root + "/" + s; Check(p) == api.OK && !Under(root, p) {
				t.Fatalf("%q is not under %q", p, root)
			}
		}
	}
}

// P4.7
func TestUnderIsHandedOn(t *testing.T) {
	var paths []string
	for _, s := range allTexts("/ab", 6) {
		if Check(s) == api.OK {
			paths = append(paths, s)
		}
	}
	paths = append(paths, goodPaths()...)
	for _, a := range paths {
		for _, b := range paths {
			if !Under(a, b) {
				continue
			}
			for _, c := range paths {
				if Under(b, c) && !Under(a, c) {
					t.Fatalf("%q is under %q, which is under %q", c, b, a)
				}
			}
		}
	}
}
