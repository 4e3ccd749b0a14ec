package line

import (
	"math"
	"math/rand/v2"
	"slices"
	"strings"
	"testing"

	"postchaise/api"
)

// must: the line of a call that has to be done.
func must(l api.Line, e api.Errno) api.Line {
	if e != api.OK {
		panic(e)
	}
	return l
}

// taken: the line behind a Take.
func taken(l api.Line, n, most int) api.Line {
	l, _ = Take(l, n, most)
	return l
}

// alikeWays: whether two ways are the same field by field, list by list.
func alikeWays(a, b api.Way) bool {
	return a.Data == b.Data && a.At == b.At && slices.Equal(a.Bad, b.Bad) && slices.Equal(a.Gap, b.Gap)
}

func alike(a, b api.Line) bool {
	return a.Up == b.Up && alikeWays(a.Ways[0], b.Ways[0]) && alikeWays(a.Ways[1], b.Ways[1])
}

// copied: l with lists of its own.
func copied(l api.Line) api.Line {
	for i, w := range l.Ways {
		l.Ways[i].Bad, l.Ways[i].Gap = slices.Clone(w.Bad), slices.Clone(w.Gap)
	}
	return l
}

// with: l, its way n changed.
func with(l api.Line, n int, change func(*api.Way)) api.Line {
	l = copied(l)
	change(&l.Ways[n])
	return l
}

// some: a line of which ab came out of way 0, b turned, and cdXfg is under way, with X from nowhere and e lost ahead of f; 12 came out of way 1, 3 was lost behind, and 45 is under way, 5 turned.
func some() api.Line {
	l := must(Send(New(), 0, "abcdefg"))
	l = must(Flip(l, 0, 1, 0)) // b becomes c
	l = taken(l, 0, 2)
	l = must(Lose(l, 0, 2))
	l = must(Add(l, 0, 2, 'X'))
	l = must(Send(l, 1, "12345"))
	l = taken(l, 1, 2)
	l = must(Lose(l, 1, 0))
	return must(Flip(l, 1, 1, 3)) // 5 becomes =
}

func someWant() api.Line {
	return api.Line{Up: true, Ways: [2]api.Way{
		{Data: "cdXfg", At: 2, Bad: []int{1, 4}, Gap: []int{4}},
		{Data: "4=", At: 2, Bad: []int{3}, Gap: []int{2}},
	}}
}

// noWays: numbers of which no way is.
func noWays() []int { return []int{-1, 2, 3, 256, 1 << 32, math.MaxInt, math.MinInt} }

// P7.1: nothing is under way, and the first byte of a way has the place At.
func TestNew(t *testing.T) {
	if got := New(); !alike(got, api.Line{Up: true}) {
		t.Errorf("New: %+v", got)
	}
	for n := range 2 {
		for skip := range 4 {
			l := must(Flip(taken(must(Send(New(), n, "abcdef")), n, skip), n, 0, 0))
			if w := l.Ways[n]; w.At != skip || !slices.Equal(w.Bad, []int{w.At}) {
				t.Errorf("way %d, %d taken, its first byte turned: %+v", n, skip, w)
			}
		}
	}
}

// The line that the other tests lean on.
func TestSome(t *testing.T) {
	if got := some(); !alike(got, someWant()) {
		t.Errorf("some: %+v, want %+v", got, someWant())
	}
}

// P7.2: behind the others, whatever the bytes are; no mark and no place changes.
func TestSend(t *testing.T) {
	all := make([]byte, 256)
	for i := range all {
		all[i] = byte(i)
	}
	for n := range 2 {
		for _, s := range []string{"", "x", "é", "\x00\xff", "two words", string(all)} {
			for _, l := range []api.Line{New(), some()} {
				want := with(l, n, func(w *api.Way) { w.Data = w.Data + s })
				if got, e := Send(l, n, s); e != api.OK || !alike(got, want) {
					t.Errorf("Send(%d, %q): %d, %+v", n, s, e, got)
				}
			}
		}
	}
}

// P7.2: the room of a way, to the byte; the other way has its own.
func TestSendFull(t *testing.T) {
	for n := range 2 {
		for under, size := range map[int]int{0: 40000, 1: 39999, 20000: 20000, 39999: 1, 40000: 0} {
			l := must(Send(New(), n, strings.Repeat("u", under)))
			l = must(Send(l, 1-n, "other"))
			if got, e := Send(l, n, strings.Repeat("s", size)); e != api.OK || len(got.Ways[n].Data) != 40000 {
				t.Errorf("%d behind %d: %d", size, under, e)
			}
			for _, more := range []int{1, 2, 40000, 1 << 20} {
				if got, e := Send(l, n, strings.Repeat("s", size+more)); e != api.ErrFull || !alike(got, l) {
					t.Errorf("%d behind %d: %d", size+more, under, e)
				}
			}
		}
		full := must(Send(New(), n, strings.Repeat("u", 40000)))
		if _, e := Send(full, 1-n, strings.Repeat("s", 40000)); e != api.OK {
			t.Errorf("the other way of a full one: %d", e)
		}
		// What came out, or was lost, is not under way any more.
		if _, e := Send(taken(full, n, 7), n, "1234567"); e != api.OK {
			t.Errorf("as much as came out: %d", e)
		}
		if _, e := Send(taken(full, n, 7), n, "12345678"); e != api.ErrFull {
			t.Errorf("more than came out: %d", e)
		}
		if _, e := Send(must(Lose(full, n, 39999)), n, "1"); e != api.OK {
			t.Errorf("as much as was lost: %d", e)
		}
	}
}

// P7.2, R2: of several faults the first one is told, and the line is as it was.
func TestSendErrorsInOrder(t *testing.T) {
	for _, c := range []struct {
		way  int
		up   bool
		size int
		want api.Errno
	}{
		{0, true, 40000, api.OK}, {1, true, 40000, api.OK},
		{0, true, 40001, api.ErrFull}, {1, true, 40001, api.ErrFull},
		{0, false, 1, api.ErrDown}, {1, false, 0, api.ErrDown},
		{0, false, 40001, api.ErrDown}, {1, false, 40001, api.ErrDown},
		{2, true, 0, api.ErrArg}, {2, true, 40001, api.ErrArg}, {-1, false, 1, api.ErrArg}, {2, false, 40001, api.ErrArg},
	} {
		l := New()
		if !c.up {
			l = Hang(l)
		}
		got, e := Send(l, c.way, strings.Repeat("s", c.size))
		if e != c.want || e != api.OK && !alike(got, l) {
			t.Errorf("%+v: %d, %+v", c, e, got)
		}
	}
	for _, n := range noWays() {
		if got, e := Send(some(), n, "x"); e != api.ErrArg || !alike(got, some()) {
			t.Errorf("way %d: %d, %+v", n, e, got)
		}
	}
}

// P7.3: at most so many, from the first one on; marks and the other way are as they were.
func TestTake(t *testing.T) {
	for n := range 2 {
		data := some().Ways[n].Data
		for most, count := range map[int]int{1: 1, 2: 2, len(data): len(data), len(data) + 1: len(data), 40001: len(data), math.MaxInt: len(data), 0: 0, -1: 0, -5: 0, math.MinInt: 0} {
			want := with(some(), n, func(w *api.Way) { w.Data, w.At = w.Data[count:], w.At+count })
			got, s := Take(some(), n, most)
			if s != data[:count] || !alike(got, want) {
				t.Errorf("Take(%d, %d): %q, %+v", n, most, s, got)
			}
			if count < len(data) {
				continue
			}
			if again, s := Take(got, n, 9); s != "" || !alike(again, got) {
				t.Errorf("Take of a way with nothing: %q, %+v", s, again)
			}
		}
	}
	for _, n := range noWays() {
		for _, most := range []int{1, 9, math.MaxInt, 0, -1} {
			if got, s := Take(some(), n, most); s != "" || !alike(got, some()) {
				t.Errorf("Take(%d, %d): %q, %+v", n, most, s, got)
			}
		}
	}
	for _, l := range []api.Line{New(), Hang(some())} {
		if got, s := Take(l, 0, 9); s != "" || !alike(got, l) {
			t.Errorf("Take of a line with nothing: %q, %+v", s, got)
		}
	}
}

// P7.4: each bit of each byte, and bits by numbers of all kinds.
func TestFlipBits(t *testing.T) {
	for c := range 256 {
		for bit := range 8 {
			want := "x" + string([]byte{byte(c) ^ []byte{1, 2, 4, 8, 16, 32, 64, 128}[bit]}) + "y"
			for _, b := range []int{bit, bit + 8, bit + 800, bit - 8, bit - 16, bit - 8000, math.MaxInt - 7 + bit, math.MinInt + bit} {
				got, e := Flip(must(Send(New(), 0, "x"+string([]byte{byte(c)})+"y")), 0, 1, b)
				if e != api.OK || !alike(got, api.Line{Up: true, Ways: [2]api.Way{{Data: want, Bad: []int{1}}}}) {
					t.Fatalf("byte %d, bit %d: %d, %+v", c, b, e, got)
				}
			}
		}
	}
}

// P7.4: the place of a byte that is turned is one of Bad, once, in the order of places; it stays so when the bit is turned back.
func TestFlipMarks(t *testing.T) {
	l := taken(must(Send(New(), 1, "..abcde")), 1, 2)
	for _, c := range []struct {
		at   int
		data string
		bad  []int
	}{
		{2, "abbde", []int{4}},
		{4, "abbdd", []int{4, 6}},
		{0, "`bbdd", []int{2, 4, 6}},
		{2, "`bcdd", []int{2, 4, 6}},
		{3, "`bced", []int{2, 4, 5, 6}},
		{1, "`cced", []int{2, 3, 4, 5, 6}},
		{4, "`ccee", []int{2, 3, 4, 5, 6}},
	} {
		l = must(Flip(l, 1, c.at, 0))
		if !alikeWays(l.Ways[1], api.Way{Data: c.data, At: 2, Bad: c.bad}) {
			t.Fatalf("byte %d turned: %+v, want %q, Bad %v", c.at, l.Ways[1], c.data, c.bad)
		}
	}
}

// damage: a way whose places are marked, for what is done to it at one place.
func damage(bad, gap []int) api.Line {
	return api.Line{Up: true, Ways: [2]api.Way{{}, {Data: "abcde", At: 10, Bad: bad, Gap: gap}}}
}

// P7.4: marks ahead of a byte that is lost, its own, and those behind.
func TestLose(t *testing.T) {
	for _, c := range []struct {
		what     string
		at       int
		bad, gap []int
		data     string
		wantBad  []int
		wantGap  []int
	}{
		{"no marks", 0, nil, nil, "bcde", nil, []int{10}},
		{"the last one", 4, nil, nil, "abcd", nil, []int{14}},
		{"bad ahead", 2, []int{3, 9, 10, 11}, nil, "abde", []int{3, 9, 10, 11}, []int{12}},
		{"bad itself", 2, []int{12}, nil, "abde", nil, []int{12}},
		{"bad itself and ahead", 2, []int{11, 12}, nil, "abde", []int{11}, []int{12}},
		{"bad itself and behind", 2, []int{12, 13}, nil, "abde", []int{12}, []int{12}},
		{"bad behind", 2, []int{13, 14}, nil, "abde", []int{12, 13}, []int{12}},
		{"all bad", 2, []int{10, 11, 12, 13, 14}, nil, "abde", []int{10, 11, 12, 13}, []int{12}},
		{"gap ahead", 2, nil, []int{0, 10, 11}, "abde", nil, []int{0, 10, 11, 12}},
		{"gap itself", 2, nil, []int{12}, "abde", nil, []int{12}},
		{"gap next", 2, nil, []int{13}, "abde", nil, []int{12}},
		{"gap itself and next", 2, nil, []int{12, 13}, "abde", nil, []int{12}},
		{"gap behind", 2, nil, []int{14, 15}, "abde", nil, []int{12, 13, 14}},
		{"all gaps", 2, nil, []int{10, 11, 12, 13, 14, 15}, "abde", nil, []int{10, 11, 12, 13, 14}},
		{"a gap behind all", 4, nil, []int{15}, "abcd", nil, []int{14}},
		{"the first one, with marks of what came out", 0, []int{8, 9, 10}, []int{8, 9, 11}, "bcde", []int{8, 9}, []int{8, 9, 10}},
	} {
		want := damage(c.wantBad, c.wantGap)
		want.Ways[1].Data = c.data
		if got, e := Lose(damage(c.bad, c.gap), 1, c.at); e != api.OK || !alike(got, want) {
			t.Errorf("%s: %d, %+v", c.what, e, got.Ways[1])
		}
	}
}

// P7.4: marks ahead of a byte that comes from nowhere, at its place, and behind.
func TestAdd(t *testing.T) {
	for _, c := range []struct {
		what     string
		at       int
		bad, gap []int
		data     string
		wantBad  []int
		wantGap  []int
	}{
		{"no marks", 0, nil, nil, "Xabcde", []int{10}, nil},
		{"between", 2, nil, nil, "abXcde", []int{12}, nil},
		{"ahead of the last one", 4, nil, nil, "abcdXe", []int{14}, nil},
		{"behind all", 5, nil, nil, "abcdeX", []int{15}, nil},
		{"bad ahead", 2, []int{3, 9, 10, 11}, nil, "abXcde", []int{3, 9, 10, 11, 12}, nil},
		{"bad at its place", 2, []int{12}, nil, "abXcde", []int{12, 13}, nil},
		{"bad behind", 2, []int{13, 14}, nil, "abXcde", []int{12, 14, 15}, nil},
		{"all bad", 2, []int{10, 11, 12, 13, 14}, nil, "abXcde", []int{10, 11, 12, 13, 14, 15}, nil},
		{"gap ahead", 2, nil, []int{0, 10, 11}, "abXcde", []int{12}, []int{0, 10, 11}},
		{"gap at its place", 2, nil, []int{12}, "abXcde", []int{12}, []int{12}},
		{"gap next", 2, nil, []int{13}, "abXcde", []int{12}, []int{14}},
		{"gap behind", 2, nil, []int{14, 15}, "abXcde", []int{12}, []int{15, 16}},
		{"all gaps", 2, nil, []int{10, 11, 12, 13, 14, 15}, "abXcde", []int{12}, []int{10, 11, 12, 14, 15, 16}},
		{"behind all, with a gap there", 5, []int{14}, []int{15}, "abcdeX", []int{14, 15}, []int{15}},
		{"the first one, with marks of what came out", 0, []int{8, 9, 10}, []int{8, 9, 10, 11}, "Xabcde", []int{8, 9, 10, 11}, []int{8, 9, 10, 12}},
	} {
		want := damage(c.wantBad, c.wantGap)
		want.Ways[1].Data = c.data
		if got, e := Add(damage(c.bad, c.gap), 1, c.at, 'X'); e != api.OK || !alike(got, want) {
			t.Errorf("%s: %d, %+v", c.what, e, got.Ways[1])
		}
	}
	for n := range 2 { // each byte may come, and comes to a way with nothing under way too
		for c := range 256 {
			want := with(New(), n, func(w *api.Way) { w.Data, w.Bad = string([]byte{byte(c)}), []int{0} })
			if got, e := Add(New(), n, 0, byte(c)); e != api.OK || !alike(got, want) {
				t.Errorf("byte %d: %d, %+v", c, e, got)
			}
		}
	}
}

// harms: each call of P7.4, of a byte under way.
func harms() []func(l api.Line, n, at int) (api.Line, api.Errno) {
	return []func(l api.Line, n, at int) (api.Line, api.Errno){
		func(l api.Line, n, at int) (api.Line, api.Errno) { return Flip(l, n, at, 0) },
		Lose,
		func(l api.Line, n, at int) (api.Line, api.Errno) { return Add(l, n, at, 'X') },
	}
}

// P7.4: ways that are none, a line that is not up, bytes that are not there.
func TestHarmsNone(t *testing.T) {
	for i, harm := range harms() {
		behind := i / 2 // Add alone may be behind all
		for n := range 2 {
			count := len(some().Ways[n].Data)
			for _, at := range []int{0, 1, count - 1, count - 1 + behind} {
				if _, e := harm(some(), n, at); e != api.OK {
					t.Errorf("call %d of way %d at %d: %d", i, n, at, e)
				}
			}
			for _, at := range []int{-1, -2, math.MinInt, count + behind, count + 1 + behind, 40000, math.MaxInt} {
				if got, e := harm(some(), n, at); e != api.ErrNone || !alike(got, some()) {
					t.Errorf("call %d of way %d at %d: %d, %+v", i, n, at, e, got)
				}
			}
			// Numbers are of bytes under way, not of places.
			gone := taken(some(), n, 9)
			if got, e := harm(gone, n, behind); e != api.ErrNone || !alike(got, gone) {
				t.Errorf("call %d of way %d that has nothing: %d, %+v", i, n, e, got)
			}
			for at := -1; at < 3; at++ {
				if got, e := harm(Hang(some()), n, at); e != api.ErrNone || !alike(got, Hang(some())) {
					t.Errorf("call %d of a line that is not up, at %d: %d, %+v", i, at, e, got)
				}
			}
		}
		for _, n := range noWays() {
			if got, e := harm(some(), n, 0); e != api.ErrNone || !alike(got, some()) {
				t.Errorf("call %d of way %d: %d, %+v", i, n, e, got)
			}
		}
	}
}

// P7.4, R2: no byte comes to a way that is full; that there is no such byte is told first.
func TestAddFull(t *testing.T) {
	for n := range 2 {
		full := must(Send(New(), n, strings.Repeat("u", 40000)))
		for _, at := range []int{0, 1, 20000, 39999, 40000} {
			if got, e := Add(full, n, at, 'X'); e != api.ErrFull || !alike(got, full) {
				t.Errorf("Add at %d: %d", at, e)
			}
			if got, e := Add(must(Lose(full, n, 0)), n, min(at, 39999), 'X'); e != api.OK || len(got.Ways[n].Data) != 40000 {
				t.Errorf("Add at %d, one byte less: %d", at, e)
			}
		}
		for _, at := range []int{-1, 40001, math.MinInt, math.MaxInt} {
			if got, e := Add(full, n, at, 'X'); e != api.ErrNone || !alike(got, full) {
				t.Errorf("Add at %d: %d", at, e)
			}
		}
		for _, way := range []int{-1, 2} {
			if _, e := Add(full, way, 0, 'X'); e != api.ErrNone {
				t.Errorf("Add to way %d: %d", way, e)
			}
		}
		down := full
		down.Up = false
		if _, e := Add(down, n, 0, 'X'); e != api.ErrNone {
			t.Errorf("Add to a line that is not up: %d", e)
		}
		if _, e := Add(full, 1-n, 0, 'X'); e != api.OK {
			t.Errorf("Add to the other way: %d", e)
		}
		// The others do not ask for room.
		if _, e := Flip(full, n, 39999, 7); e != api.OK {
			t.Errorf("Flip of a full way: %d", e)
		}
	}
}

// P7.5
func TestHangOpen(t *testing.T) {
	for _, l := range []api.Line{New(), some(), taken(some(), 0, 9), Hang(some()), Hang(Hang(New()))} {
		if got := Hang(l); !alike(got, api.Line{}) {
			t.Errorf("Hang: %+v", got)
		}
		if got, e := Open(Hang(l)); e != api.OK || !alike(got, New()) {
			t.Errorf("Open behind Hang: %d, %+v", e, got)
		}
	}
	for _, l := range []api.Line{New(), some(), must(Open(Hang(some())))} {
		if got, e := Open(l); e != api.ErrBusy || !alike(got, l) {
			t.Errorf("Open of a line that is up: %d, %+v", e, got)
		}
	}
}

// P7.6: each span of a few places, with each set of marks in them.
func TestClean(t *testing.T) {
	const places = 5
	for set := range 1 << (2 * places) {
		var w api.Way
		for p := range places {
			if set>>p&1 == 1 {
				w.Bad = append(w.Bad, p)
			}
			if set>>(places+p)&1 == 1 {
				w.Gap = append(w.Gap, p)
			}
		}
		for from := -1; from <= places; from++ {
			for to := -1; to <= places; to++ {
				want := true
				for p := from; p < to; p++ {
					want = want && !slices.Contains(w.Bad, p) && (p == from || !slices.Contains(w.Gap, p))
				}
				for n := range 2 {
					l := New()
					l.Ways[n] = w
					if got := Clean(l, n, api.Span{From: from, To: to}); got != want {
						t.Fatalf("Clean of %d to %d of %+v: %v", from, to, w, got)
					}
					if !Clean(l, 1-n, api.Span{From: from, To: to}) {
						t.Fatalf("the other way is not clean")
					}
				}
			}
		}
	}
}

// P7.6: ways that are none, spans at the ends of int, lines with nothing.
func TestCleanEdges(t *testing.T) {
	for _, n := range noWays() {
		for _, l := range []api.Line{New(), some(), Hang(New())} {
			if Clean(l, n, api.Span{}) || Clean(l, n, api.Span{From: 0, To: 1}) {
				t.Errorf("way %d is clean", n)
			}
		}
	}
	for _, s := range []api.Span{{}, {From: 3, To: 1}, {From: math.MaxInt, To: math.MinInt}, {From: math.MinInt, To: math.MinInt}, {From: 5, To: math.MaxInt}, {From: math.MinInt, To: 1}, {From: 2, To: 4}, {From: 4, To: 4}} {
		if !Clean(some(), 0, s) || !Clean(New(), 1, s) || !Clean(Hang(some()), 0, s) {
			t.Errorf("%+v is not clean", s)
		}
	}
	for _, s := range []api.Span{{From: math.MinInt, To: math.MaxInt}, {From: math.MinInt, To: 2}, {From: 4, To: math.MaxInt}, {From: 1, To: 2}, {From: 4, To: 5}, {From: 3, To: 5}} {
		if Clean(some(), 0, s) {
			t.Errorf("%+v is clean", s)
		}
	}
}

// cell: a byte of a way: which of those that were sent it is (-1: none), whether it was damaged, and whether some were lost ahead of it.
type cell struct {
	c        byte
	sent     int
	bad, gap bool
}

// model: P7.1 to P7.4 of one way, written once more: all bytes, those that came out too, and an end that can have a gap ahead of it.
type model struct {
	cells []cell
	at    int
	end   bool
	sent  string
}

func (m *model) send(s string) {
	for i := range len(s) {
		m.cells = append(m.cells, cell{c: s[i], sent: len(m.sent) + i, gap: i == 0 && m.end})
		m.end = false
	}
	m.sent += s
}

// gap: the mark of the cell at that place, or of the end.
func (m *model) gap(place int) *bool {
	if place == len(m.cells) {
		return &m.end
	}
	return &m.cells[place].gap
}

func (m *model) lose(at int) {
	m.cells = slices.Delete(m.cells, m.at+at, m.at+at+1)
	*m.gap(m.at + at) = true
}

func (m *model) add(at int, c byte) {
	gap := m.gap(m.at + at)
	born := cell{c: c, sent: -1, bad: true, gap: *gap}
	*gap = false
	m.cells = slices.Insert(m.cells, m.at+at, born)
}

func (m *model) flip(at, bit int) {
	m.cells[m.at+at].c ^= byte(1 << bit)
	m.cells[m.at+at].bad = true
}

// way: the way that the model is.
func (m *model) way() api.Way {
	w := api.Way{At: m.at}
	for i, c := range m.cells {
		if i >= m.at {
			w.Data += string([]byte{c.c})
		}
		if c.bad {
			w.Bad = append(w.Bad, i)
		}
		if c.gap {
			w.Gap = append(w.Gap, i)
		}
	}
	if m.end {
		w.Gap = append(w.Gap, len(m.cells))
	}
	return w
}

// sound: whether the cells of a span were sent as they are, one behind the other.
func (m *model) sound(s api.Span) bool {
	for i := s.From; i < s.To; i++ {
		c := m.cells[i]
		if c.sent < 0 || c.c != m.sent[c.sent] || i > s.From && c.sent != m.cells[i-1].sent+1 {
			return false
		}
	}
	return true
}

// step: a random call, done to the line and to the models; what came out, and of which way.
func step(t *testing.T, dice *rand.Rand, l api.Line, ms *[2]model) (api.Line, string, int) {
	n := dice.IntN(2)
	m := &ms[n]
	under := len(m.cells) - m.at
	e, s := api.OK, ""
	switch kind := dice.IntN(12); {
	case kind < 3:
		sent := strings.Repeat(string(rune('a'+dice.IntN(26)))+"-", dice.IntN(6))
		l, e = Send(l, n, sent)
		m.send(sent)
	case kind < 5:
		most := dice.IntN(8) - 1
		l, s = Take(l, n, most)
		m.at += min(max(most, 0), under)
	case kind < 7:
		at := dice.IntN(under + 1)
		l, e = Add(l, n, at, byte(at))
		m.add(at, byte(at))
	case under == 0:
	case kind < 10:
		at := dice.IntN(under)
		l, e = Lose(l, n, at)
		m.lose(at)
	default:
		at, bit := dice.IntN(under), dice.IntN(8)
		l, e = Flip(l, n, at, bit)
		m.flip(at, bit)
	}
	if e != api.OK {
		t.Fatalf("a call of a walk: %d", e)
	}
	return l, s, n
}

// P7.1 to P7.6, P7.8, P7.9: walks of many steps, both ways at once, held against the models; Bad and Gap rise, each place once; what is clean was sent so.
func TestWalks(t *testing.T) {
	for seed := range uint64(150) {
		dice := rand.New(rand.NewPCG(7, seed))
		l, ms, out := New(), [2]model{}, [2]string{}
		for range 80 {
			after, s, n := step(t, dice, l, &ms)
			out[n] += s
			l = after
			for i := range 2 {
				if want := ms[i].way(); !alikeWays(l.Ways[i], want) || len(out[i]) != want.At {
					t.Fatalf("seed %d, way %d: %+v, want %+v", seed, i, l.Ways[i], want)
				}
				for p := range ms[i].at {
					if out[i][p] != ms[i].cells[p].c {
						t.Fatalf("seed %d, way %d: %q came out", seed, i, out[i])
					}
				}
			}
		}
		for n := range 2 {
			cleanIsSound(t, l, n, &ms[n])
		}
	}
}

// cleanIsSound: P7.8 of each span of what came out; and bytes that nothing was done to are clean.
func cleanIsSound(t *testing.T, l api.Line, n int, m *model) {
	t.Helper()
	for from := range m.at + 1 {
		for to := from; to <= m.at; to++ {
			s := api.Span{From: from, To: to}
			marked := false
			for i := from; i < to; i++ {
				marked = marked || m.cells[i].bad || i > from && m.cells[i].gap
			}
			if Clean(l, n, s) == marked {
				t.Fatalf("%+v of %+v: clean %v", s, l.Ways[n], !marked)
			}
			if !marked && !m.sound(s) {
				t.Fatalf("%+v of %+v is clean and was not sent so", s, l.Ways[n])
			}
		}
	}
}

// P7.7: in pieces of all sizes.
func TestInOrder(t *testing.T) {
	dice := rand.New(rand.NewPCG(7, 7))
	for range 100 {
		l, sent, out := New(), [2]string{}, [2]string{}
		for range 200 {
			n, s := dice.IntN(2), ""
			if dice.IntN(2) == 0 {
				for range dice.IntN(9) {
					s += string([]byte{byte(dice.IntN(256))})
				}
				l = must(Send(l, n, s))
				sent[n] += s
				continue
			}
			l, s = Take(l, n, dice.IntN(10))
			out[n] += s
		}
		for n := range 2 {
			rest := ""
			at := l.Ways[n].At
			l, rest = Take(l, n, math.MaxInt)
			if out[n]+rest != sent[n] || at != len(out[n]) || l.Ways[n].At != len(sent[n]) || !Clean(l, n, api.Span{From: 0, To: len(sent[n])}) {
				t.Fatalf("way %d: %q came of %q", n, out[n]+rest, sent[n])
			}
		}
	}
}

// P7.9: whatever is done to a way, the other one is as it was.
func TestWaysApart(t *testing.T) {
	for n := range 2 {
		calls := []func(api.Line) (api.Line, api.Errno){
			func(l api.Line) (api.Line, api.Errno) { return Send(l, n, "more") },
			func(l api.Line) (api.Line, api.Errno) { return taken(l, n, 1), api.OK },
		}
		for _, harm := range harms() {
			calls = append(calls, func(l api.Line) (api.Line, api.Errno) { return harm(l, n, 1) })
		}
		for i, call := range calls {
			got, e := call(some())
			if e != api.OK || !alikeWays(got.Ways[1-n], some().Ways[1-n]) || alikeWays(got.Ways[n], some().Ways[n]) {
				t.Errorf("call %d of way %d: %d, %+v", i, n, e, got)
			}
		}
	}
}

// The chapter's examples.
func TestExamples(t *testing.T) {
	l := must(Send(New(), 0, "ab"))
	if got := must(Lose(l, 0, 0)).Ways[0]; !alikeWays(got, api.Way{Data: "b", Gap: []int{0}}) {
		t.Errorf("ab, Lose 0: %+v", got)
	}
	if got := must(Flip(l, 0, 1, 0)).Ways[0]; !alikeWays(got, api.Way{Data: "ac", Bad: []int{1}}) {
		t.Errorf("ab, Flip 1 by 0: %+v", got)
	}
	one, a := Take(l, 0, 1)
	two, b := Take(one, 0, 9)
	if a != "a" || b != "b" || two.Ways[0].At != 2 {
		t.Errorf("Take 1, Take 9: %q, %q, %+v", a, b, two)
	}
}

// calls: each call that answers a line, done to both ways and at many numbers.
func calls() []func(api.Line) api.Line {
	l := []func(api.Line) api.Line{
		Hang,
		func(l api.Line) api.Line { after, _ := Open(l); return after },
		func(l api.Line) api.Line { Clean(l, 0, api.Span{From: 0, To: 9}); return l },
	}
	for n := range 2 {
		l = append(l,
			func(l api.Line) api.Line { after, _ := Send(l, n, "zz"); return after },
			func(l api.Line) api.Line { return taken(l, n, 1) },
			func(l api.Line) api.Line { return taken(l, n, 9) })
		for _, harm := range harms() {
			for at := -1; at < 6; at++ {
				l = append(l, func(l api.Line) api.Line { after, _ := harm(l, n, at); return after })
			}
		}
	}
	return l
}

// roomy: some(), with things behind the ends of its lists.
func roomy() api.Line {
	l := some()
	for i, w := range l.Ways {
		l.Ways[i].Bad = append(slices.Clone(w.Bad), 70, 80)[:len(w.Bad)]
		l.Ways[i].Gap = append(slices.Clone(w.Gap), 71, 81)[:len(w.Gap)]
	}
	return l
}

// lists: all lists of a line.
func lists(l api.Line) [][]int {
	return [][]int{l.Ways[0].Bad, l.Ways[0].Gap, l.Ways[1].Bad, l.Ways[1].Gap}
}

// R3: nothing handed in is changed, nor the room behind its lists.
func TestMemoryHandedIn(t *testing.T) {
	for i, do := range calls() {
		l := roomy()
		do(l)
		if !alike(l, some()) {
			t.Errorf("call %d has changed what it was handed: %+v", i, l)
		}
		for k, list := range lists(l) {
			if behind := list[len(list) : len(list)+2]; !slices.Equal(behind, []int{70 + k%2, 80 + k%2}) {
				t.Errorf("call %d has changed what lies behind list %d: %v", i, k, behind)
			}
		}
	}
}

// R3: lists that a call has changed share no memory with those handed in, nor with one another; two lines made from one do not touch one another.
func TestMemoryAnswered(t *testing.T) {
	for i, one := range calls() {
		for k, other := range calls() {
			l, want := roomy(), one(some())
			got := one(l)
			other(l)
			other(got)
			if !alike(got, want) {
				t.Errorf("call %d behind call %d: %+v, want %+v", k, i, got, want)
			}
		}
		for k := range lists(roomy()) {
			l := roomy()
			got := one(l)
			list := lists(got)[k]
			same := slices.Equal(list, lists(l)[k])
			want := one(some())
			clear(list[:cap(list)])
			if !same && !alike(l, some()) {
				t.Errorf("call %d answers memory that it was handed in list %d", i, k)
			}
			for m, rest := range lists(got) {
				if m != k && !slices.Equal(rest, lists(want)[m]) {
					t.Errorf("call %d: lists %d and %d share memory", i, k, m)
				}
			}
		}
	}
}

// R1, R3, R4: lines that no call makes.
func TestStrangeLines(t *testing.T) {
	for _, w := range []api.Way{
		{},
		{Data: "abc", At: math.MaxInt, Bad: []int{math.MaxInt, math.MinInt, 0}, Gap: []int{math.MaxInt, math.MaxInt}},
		{Data: "abc", At: math.MinInt, Bad: []int{5, 4, 4, -1}, Gap: []int{3, 3, 2, 1, math.MinInt}},
		{Data: strings.Repeat("x", 50000), At: -7, Bad: []int{}, Gap: []int{-7, -7, -6}},
	} {
		for _, up := range []bool{true, false} {
			l := api.Line{Ways: [2]api.Way{w, w}, Up: up}
			before := copied(l)
			for _, n := range []int{math.MinInt, -1, 0, 1, 2, math.MaxInt} {
				for _, at := range []int{math.MinInt, -1, 0, 1, 2, 3, 49999, 50000, math.MaxInt} {
					for i, harm := range harms() {
						a, e := harm(l, n, at)
						b, f := harm(l, n, at)
						if e != f || !alike(a, b) {
							t.Errorf("call %d of way %d at %d answers %d, then %d", i, n, at, e, f)
						}
					}
					Take(l, n, at)
					Clean(l, n, api.Span{From: at, To: -at})
				}
				Send(l, n, "")
				Send(l, n, "x")
			}
			Open(l)
			Hang(l)
			if !alike(before, l) {
				t.Errorf("%+v has changed into %+v", before, l)
			}
		}
	}
}
