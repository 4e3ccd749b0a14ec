package window

import (
	"fmt"
	"math"
	"math/rand/v2"
	"slices"
	"strings"
	"testing"

	"postchaise/api"
)

// odd: numbers that are wrong nearly everywhere.
func odd() []int {
	return []int{math.MinInt, math.MinInt + 1, -1 << 32, -65, -64, -8, -1, 65, 66, 128, 256, 1 << 32, 1<<32 + 3, math.MaxInt - 1, math.MaxInt}
}

func win(mod, size, base int, l ...string) api.Window {
	return api.Window{Mod: mod, Size: size, Base: base, List: l}
}

func same(v, w api.Window) bool {
	return v.Mod == w.Mod && v.Size == w.Size && v.Base == w.Base && slices.Equal(v.List, w.List)
}

// texts: n texts, no two of them alike.
func texts(n int) []string {
	var l []string
	for i := range n {
		l = append(l, fmt.Sprint("t", i))
	}
	return l
}

func wantBegin(t *testing.T, mod, size, base int) {
	t.Helper()
	if w, e := Begin(mod, size, base); !same(w, win(mod, size, base)) || e != api.OK {
		t.Errorf("Begin(%d, %d, %d): %v, %d", mod, size, base, w, e)
	}
}

func wantNoBegin(t *testing.T, mod, size, base int) {
	t.Helper()
	if w, e := Begin(mod, size, base); !same(w, api.Window{}) || e != api.ErrArg {
		t.Errorf("Begin(%d, %d, %d): %v, %d, want %d", mod, size, base, w, e, api.ErrArg)
	}
}

func wantPut(t *testing.T, w api.Window, s string, want api.Window, n int) {
	t.Helper()
	if got, m, e := Put(w, s); !same(got, want) || m != n || e != api.OK {
		t.Errorf("Put(%v, %q): %v, %d, %d, want %v, %d", w, s, got, m, e, want, n)
	}
}

// wantNoPut: beside an error the window is as it was (R2).
func wantNoPut(t *testing.T, w api.Window, s string, want api.Errno) {
	t.Helper()
	if got, n, e := Put(w, s); !same(got, w) || n != 0 || e != want {
		t.Errorf("Put(%v, %q): %v, %d, %d, want %d", w, s, got, n, e, want)
	}
}

func wantAck(t *testing.T, w api.Window, n int, want api.Window, went int) {
	t.Helper()
	if got, m := Ack(w, n); !same(got, want) || m != went {
		t.Errorf("Ack(%v, %d): %v, %d, want %v, %d", w, n, got, m, want, went)
	}
}

func wantFind(t *testing.T, w api.Window, n int, want string) {
	t.Helper()
	if s, ok := Find(w, n); s != want || !ok {
		t.Errorf("Find(%v, %d): %q, %v, want %q", w, n, s, ok, want)
	}
}

func wantNoFind(t *testing.T, w api.Window, n int) {
	t.Helper()
	if s, ok := Find(w, n); s != "" || ok {
		t.Errorf("Find(%v, %d): %q, %v, want none", w, n, s, ok)
	}
}

func wantNumbers(t *testing.T, w api.Window, want ...int) {
	t.Helper()
	if l := Numbers(w); !slices.Equal(l, want) {
		t.Errorf("Numbers(%v): %v, want %v", w, l, want)
	}
}

// wantNothing: w has no text of number n, and nothing goes by it.
func wantNothing(t *testing.T, w api.Window, n int) {
	t.Helper()
	wantNoFind(t, w, n)
	wantAck(t, w, n, w, 0)
}

// wrongWindows: windows that are not right, each by one thing.
func wrongWindows() []api.Window {
	l := []api.Window{
		{},
		win(1, 1, 0), win(65, 3, 0), win(0, 0, 0), win(-8, 3, 0, "a"), win(1, 0, 0, "a"),
		win(8, 0, 0), win(8, 8, 0), win(8, -1, 0), win(8, 9, 0, "a"), win(2, 2, 0, "a"), win(64, 64, 0, "a"),
		win(8, 3, -1), win(8, 3, 8), win(8, 3, 9, "a"), win(2, 1, 2, "a"), win(64, 63, 64, "a"),
		win(8, 3, 6, "a", "b", "c", "d"), win(2, 1, 0, "a", "b"), win(8, 7, 0, texts(8)...), win(8, 7, 0, texts(9)...), win(64, 63, 0, texts(64)...), win(64, 1, 0, texts(63)...),
	}
	for _, n := range odd() {
		l = append(l, win(n, 1, 0, "a"), win(8, n, 0, "a"), win(8, 3, n, "a"), win(n, n, n, "a"))
	}
	return l
}

// P14.1: worked out beside the program.
func TestAheadByHand(t *testing.T) {
	for _, c := range [][4]int{
		{7, 1, 8, 2}, {1, 7, 8, 6}, {1, 1, 8, 0}, {0, 0, 2, 0}, {0, 1, 2, 1}, {1, 0, 2, 1}, {1, 1, 2, 0},
		{0, 7, 8, 7}, {7, 0, 8, 1}, {6, 0, 8, 2}, {31, 0, 32, 1}, {0, 63, 64, 63}, {63, 0, 64, 1}, {63, 62, 64, 63}, {63, 63, 64, 0}, {2, 1, 3, 2}, {4, 2, 5, 3}, {50, 7, 61, 18},
		{8, 1, 8, -1}, {1, 8, 8, -1}, {8, 8, 8, -1}, {-1, 1, 8, -1}, {1, -1, 8, -1}, {2, 0, 2, -1}, {0, 2, 2, -1}, {64, 0, 64, -1}, {0, 64, 64, -1},
		{0, 0, 1, -1}, {0, 0, 0, -1}, {0, 0, -1, -1}, {0, 0, 65, -1}, {0, 1, 65, -1}, {0, 0, 128, -1}, {-1, -1, -8, -1}, {0, 0, -8, -1},
	} {
		if n := Ahead(c[0], c[1], c[2]); n != c[3] {
			t.Errorf("Ahead(%d, %d, %d): %d, want %d", c[0], c[1], c[2], n, c[3])
		}
	}
}

// aheadAgain: P14.1, written once more: by steps.
func aheadAgain(a, b, mod int) int {
	if mod < 2 || mod > 64 || a < 0 || a >= mod || b < 0 || b >= mod {
		return -1
	}
	n := 0
	for a != b {
		a++
		if a == mod {
			a = 0
		}
		n++
	}
	return n
}

// P14.1: every three numbers about those that may be, and some far from them.
func TestAheadAll(t *testing.T) {
	numbers := odd()
	for n := -2; n <= 66; n++ {
		numbers = append(numbers, n)
	}
	for _, mod := range numbers {
		for _, a := range numbers {
			for _, b := range numbers {
				if n, want := Ahead(a, b, mod), aheadAgain(a, b, mod); n != want {
					t.Fatalf("Ahead(%d, %d, %d): %d, want %d", a, b, mod, n, want)
				}
			}
		}
	}
}

// P14.2: every three numbers about those that may be, and some far from them.
func TestBegin(t *testing.T) {
	numbers := odd()
	for n := -2; n <= 66; n++ {
		numbers = append(numbers, n)
	}
	for _, mod := range numbers {
		for _, size := range numbers {
			for _, base := range numbers {
				if 2 <= mod && mod <= 64 && 1 <= size && size < mod && 0 <= base && base < mod {
					wantBegin(t, mod, size, base)
				} else {
					wantNoBegin(t, mod, size, base)
				}
			}
		}
	}
}

// P14.2: the edges, by hand.
func TestBeginEdges(t *testing.T) {
	for _, c := range [][3]int{{2, 1, 0}, {2, 1, 1}, {3, 2, 2}, {8, 1, 0}, {8, 7, 7}, {32, 16, 1}, {64, 1, 0}, {64, 63, 63}} {
		wantBegin(t, c[0], c[1], c[2])
	}
	for _, c := range [][3]int{{1, 1, 0}, {2, 0, 0}, {2, 2, 0}, {2, 1, 2}, {2, 1, -1}, {8, 8, 0}, {8, 0, 0}, {8, 3, 8}, {64, 64, 0}, {64, 63, 64}, {65, 1, 0}, {0, 0, 0}} {
		wantNoBegin(t, c[0], c[1], c[2])
	}
}

// P14.3, P14.4, P14.5: the window of the document's example, step by step.
func TestByHand(t *testing.T) {
	w := win(8, 3, 6)
	wantNumbers(t, w)
	wantPut(t, w, "a", win(8, 3, 6, "a"), 6)
	wantPut(t, win(8, 3, 6, "a"), "b", win(8, 3, 6, "a", "b"), 7)
	wantPut(t, win(8, 3, 6, "a", "b"), "c", win(8, 3, 6, "a", "b", "c"), 0)
	w = win(8, 3, 6, "a", "b", "c")
	wantNoPut(t, w, "d", api.ErrFull)
	wantNumbers(t, w, 6, 7, 0)
	wantFind(t, w, 6, "a")
	wantFind(t, w, 7, "b")
	wantFind(t, w, 0, "c")
	for _, n := range []int{1, 2, 3, 4, 5} {
		wantNothing(t, w, n)
	}
	wantAck(t, w, 6, win(8, 3, 7, "b", "c"), 1)
	wantAck(t, w, 7, win(8, 3, 0, "c"), 2)
	wantAck(t, w, 0, win(8, 3, 1), 3)
	wantNothing(t, win(8, 3, 0, "c"), 7)
	wantNothing(t, win(8, 3, 0, "c"), 5)
	wantNothing(t, win(8, 3, 0, "c"), 1)
	wantNumbers(t, win(8, 3, 0, "c"), 0)
	wantPut(t, win(8, 3, 0, "c"), "d", win(8, 3, 0, "c", "d"), 1)
	wantPut(t, win(8, 3, 1), "d", win(8, 3, 1, "d"), 1)
}

// P14.3, P14.5: texts that are empty, alike, of any bytes, or long, are texts as others are.
func TestAnyText(t *testing.T) {
	long := strings.Repeat("x", 1<<12)
	w := win(8, 7, 5, "", "a", "a", "\x00\xff", "é", long)
	wantNumbers(t, w, 5, 6, 7, 0, 1, 2)
	wantPut(t, w, "", win(8, 7, 5, "", "a", "a", "\x00\xff", "é", long, ""), 3)
	for i, s := range []string{"", "a", "a", "\x00\xff", "é", long} {
		wantFind(t, w, (5+i)%8, s)
	}
	wantNoFind(t, w, 3)
	wantNoFind(t, w, 4)
	wantAck(t, w, 5, win(8, 7, 6, w.List[1:]...), 1)
	wantAck(t, w, 0, win(8, 7, 1, "é", long), 4)
}

// P14.3, P14.4, P14.5: windows that are not right; that counts ahead of a window that is full.
func TestNotRight(t *testing.T) {
	for _, w := range wrongWindows() {
		wantNoPut(t, w, "s", api.ErrArg)
		wantNoPut(t, w, "", api.ErrArg)
		wantNumbers(t, w)
		for n := -1; n <= 65; n++ {
			wantNothing(t, w, n)
		}
		for _, n := range append(odd(), w.Base) {
			wantNothing(t, w, n)
		}
	}
}

// P14.4, P14.5: numbers that no window has.
func TestNoNumber(t *testing.T) {
	for _, w := range []api.Window{win(8, 7, 0, texts(7)...), win(64, 63, 1, texts(63)...), win(2, 1, 1, "a"), win(8, 3, 0)} {
		for _, n := range append(odd(), w.Mod, w.Mod+1, w.Base+w.Mod, w.Base-w.Mod) {
			wantNothing(t, w, n)
		}
	}
}

// numbersAgain: P14.2's numbers, written once more: by steps.
func numbersAgain(w api.Window) []int {
	var l []int
	n := w.Base
	for range w.List {
		l = append(l, n)
		n++
		if n == w.Mod {
			n = 0
		}
	}
	return l
}

// wantAgain: what every call says of w, which is right, against its second writing.
func wantAgain(t *testing.T, w api.Window) {
	t.Helper()
	numbers := numbersAgain(w)
	wantNumbers(t, w, numbers...)
	for n := range w.Mod {
		at := slices.Index(numbers, n)
		if at < 0 {
			wantNothing(t, w, n)
			continue
		}
		wantFind(t, w, n, w.List[at])
		wantAck(t, w, n, win(w.Mod, w.Size, (n+1)%w.Mod, w.List[at+1:]...), at+1)
	}
	if len(w.List) == w.Size {
		wantNoPut(t, w, "s", api.ErrFull)
		return
	}
	next := numbersAgain(win(w.Mod, w.Size, w.Base, append(slices.Clone(w.List), "s")...))
	wantPut(t, w, "s", win(w.Mod, w.Size, w.Base, append(slices.Clone(w.List), "s")...), next[len(next)-1])
}

// P14.3, P14.4, P14.5: every window of few numbers, and some of many.
func TestEveryWindow(t *testing.T) {
	for mod := 2; mod <= 64; mod++ {
		for size := 1; size < mod; size++ {
			if mod > 12 && size > 2 && size < mod-2 {
				continue
			}
			for base := range mod {
				if mod > 12 && base > 1 && base < mod-2 {
					continue
				}
				for n := range size + 1 {
					wantAgain(t, win(mod, size, base, texts(n)...))
				}
			}
		}
	}
}

// walk: texts put and acknowledged without order in one window, held against what went in and out of it.
type walk struct {
	w     api.Window
	from  int // the number of the first text of all
	first int // how many texts went out
	texts []string
}

func (k *walk) numberOf(i int) int { return (k.from + i) % k.w.Mod }

func (k *walk) put(t *testing.T) {
	t.Helper()
	s := fmt.Sprint("s", len(k.texts))
	w, n, e := Put(k.w, s)
	if len(k.texts)-k.first == k.w.Size {
		if e != api.ErrFull || n != 0 || !same(w, k.w) {
			t.Fatalf("Put(%v): %v, %d, %d", k.w, w, n, e)
		}
		return
	}
	if e != api.OK || n != k.numberOf(len(k.texts)) {
		t.Fatalf("Put(%v): %v, %d, %d", k.w, w, n, e)
	}
	k.w, k.texts = w, append(k.texts, s)
}

func (k *walk) ack(t *testing.T, n int) {
	t.Helper()
	w, went := Ack(k.w, n)
	want := 0
	for i := k.first; i < len(k.texts); i++ {
		if k.numberOf(i) == n {
			want = i - k.first + 1
		}
	}
	if went != want || went == 0 && !same(w, k.w) {
		t.Fatalf("Ack(%v, %d): %v, %d, want %d", k.w, n, w, went, want)
	}
	k.w, k.first = w, k.first+went
}

// wantKept: P14.6 and P14.7 of the window as it is.
func (k *walk) wantKept(t *testing.T) {
	t.Helper()
	left := k.texts[k.first:]
	if len(k.w.List) > k.w.Size || !slices.Equal(k.w.List, left) || k.w.Base != k.numberOf(k.first) {
		t.Fatalf("%v, want %v from %d on", k.w, left, k.numberOf(k.first))
	}
	seen := map[int]bool{}
	for i, n := range Numbers(k.w) {
		if seen[n] || n < 0 || n >= k.w.Mod {
			t.Fatalf("Numbers(%v): %v", k.w, Numbers(k.w))
		}
		seen[n] = true
		wantFind(t, k.w, n, left[i])
	}
	for n := range k.w.Mod {
		if !seen[n] {
			wantNoFind(t, k.w, n)
		}
	}
}

// P14.6, P14.7: what was put is found until it, or one behind it, is acknowledged; as many go out as went in.
func TestWalks(t *testing.T) {
	r := rand.New(rand.NewPCG(14, 1))
	out, full := 0, 0
	for range 300 {
		mod := 2 + r.IntN(63)
		size, from := 1+r.IntN(mod-1), r.IntN(mod)
		w, e := Begin(mod, size, from)
		if e != api.OK {
			t.Fatalf("Begin(%d, %d, %d): %d", mod, size, from, e)
		}
		k := &walk{w: w, from: from}
		for range 200 {
			if r.IntN(4) > 0 {
				k.put(t)
			} else {
				k.ack(t, r.IntN(mod))
			}
			if len(k.w.List) == size {
				full++
			}
			k.wantKept(t)
		}
		out += k.first
		for len(k.w.List) > 0 {
			k.ack(t, k.w.Base)
		}
		if k.first != len(k.texts) {
			t.Fatalf("%d went in, %d out", len(k.texts), k.first)
		}
	}
	if out < 1000 || full < 1000 {
		t.Errorf("only %d went out, and only %d times it was full", out, full)
	}
}

// roomy: a window whose list has room behind its end, with texts in it; and the list with that room.
func roomy(n, room int) (api.Window, []string) {
	all := append(texts(n), slices.Repeat([]string{"behind"}, room)...)
	return win(8, 5, 6, all[:n]...), all
}

// R3: what is handed in, and the room behind it, is as it was; what is answered is new memory.
func TestMemory(t *testing.T) {
	for n := range 6 {
		w, all := roomy(n, 4)
		before := slices.Clone(all)
		var answers []api.Window
		for i := range 2 {
			if v, _, e := Put(w, fmt.Sprint("new", i)); e == api.OK {
				answers = append(answers, v)
			}
		}
		for m := range 8 {
			if v, went := Ack(w, m); went > 0 {
				answers = append(answers, v)
			}
			Find(w, m)
		}
		Numbers(w)
		for _, v := range answers {
			full := v.List[:cap(v.List)]
			for i := range full {
				full[i] = "changed"
			}
		}
		if !slices.Equal(all, before) {
			t.Errorf("%d texts: %q, want %q", n, all, before)
		}
	}
	w, _ := roomy(2, 0)
	l := Numbers(w)
	l[0], l[1] = 100, 100
	wantNumbers(t, w, 6, 7)
}

// R3: no two answers share memory: what is put behind one window is not seen in another.
func TestAnswersApart(t *testing.T) {
	w, _, _ := Put(win(8, 5, 6), "a")
	v, _, _ := Put(w, "b")
	u, _, _ := Put(w, "c")
	x, _, _ := Put(v, "d")
	y, _, _ := Put(v, "e")
	z, _ := Ack(x, 6)
	z.List[0] = "changed"
	for _, c := range []struct{ got, want api.Window }{
		{w, win(8, 5, 6, "a")}, {v, win(8, 5, 6, "a", "b")}, {u, win(8, 5, 6, "a", "c")}, {x, win(8, 5, 6, "a", "b", "d")}, {y, win(8, 5, 6, "a", "b", "e")},
	} {
		if !same(c.got, c.want) {
			t.Errorf("%v, want %v", c.got, c.want)
		}
	}
}

// R3: a list that is nil and one that is empty are the same.
func TestNilAndEmpty(t *testing.T) {
	for _, l := range [][]string{nil, {}} {
		w := win(8, 3, 2, l...)
		wantPut(t, w, "a", win(8, 3, 2, "a"), 2)
		wantNumbers(t, w)
		for n := range 8 {
			wantNothing(t, w, n)
		}
	}
}

// P14.2: the generic function makes the same numbers of the narrowest kinds as of ints.
func TestOnward(t *testing.T) {
	for mod := 2; mod <= 64; mod++ {
		for from := range mod {
			for steps := range mod + 1 {
				want := from + steps
				for want >= mod {
					want -= mod
				}
				wide, narrow, bare := onward(from, steps, mod), onward(int8(from), int8(steps), int8(mod)), onward(uint8(from), uint8(steps), uint8(mod))
				if wide != want || int(narrow) != want || int(bare) != want {
					t.Fatalf("onward(%d, %d, %d): %d, %d, %d, want %d", from, steps, mod, wide, narrow, bare, want)
				}
			}
		}
	}
}
