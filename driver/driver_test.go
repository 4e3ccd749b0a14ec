package driver

import (
	"fmt"
	"math"
	"math/rand/v2"
	"slices"
	"strings"
	"testing"

	"postchaise/api"
	"postchaise/gproto"
	"postchaise/iproto"
)

// The letters of all protocols.
const letters = "gGie"

// edges are numbers that no field of a drive of e but At may have.
var edges = []int{math.MinInt, -1 << 40, -256, -1, 1, 2, 7, 8, 32, 64, 256, 1 << 32, 1<<40 + 1, math.MaxInt}

func show(d api.Drive) string { return fmt.Sprintf("%+v", d) }

// same: whether all fields are alike; nil and empty lists are (R3).
func same(a, b api.Drive) bool {
	v, w := a.Win, b.Win
	if v.Mod != w.Mod || v.Size != w.Size || v.Base != w.Base || !slices.Equal(v.List, w.List) {
		return false
	}
	if !slices.Equal(a.Ahead, b.Ahead) || !slices.Equal(a.Queue, b.Queue) || !slices.Equal(a.Took, b.Took) {
		return false
	}
	bare := func(d api.Drive) string {
		d.Win, d.Ahead, d.Queue, d.Took = api.Window{}, nil, nil, nil
		return fmt.Sprintf("%#v", d)
	}
	return bare(a) == bare(b)
}

// with: d, changed.
func with(d api.Drive, change func(*api.Drive)) api.Drive {
	change(&d)
	return d
}

// randomBytes: n bytes that are the same in every run; many of them begin packets, or are small.
func randomBytes(r *rand.Rand, n int) string {
	b := make([]byte, n)
	for i := range b {
		b[i] = byte(r.IntN(256))
		switch r.IntN(8) {
		case 0:
			b[i] = 7
		case 1:
			b[i] = 16
		case 2:
			b[i] = byte(r.IntN(10))
		}
	}
	return string(b)
}

func wantFeed(t *testing.T, d api.Drive, s string, want api.Drive, said string, came ...api.Piece) {
	t.Helper()
	if got, out, l := Feed(d, s); !same(got, want) || out != said || !slices.Equal(l, came) {
		t.Errorf("Feed(%s, %q):\n%s, %q, %+v, want\n%s, %q, %+v", show(d), s, show(got), out, l, show(want), said, came)
	}
}

func wantTick(t *testing.T, d, want api.Drive, said string) {
	t.Helper()
	if got, out := Tick(d); !same(got, want) || out != said {
		t.Errorf("Tick(%s):\n%s, %q, want\n%s, %q", show(d), show(got), out, show(want), said)
	}
}

func wantSend(t *testing.T, d api.Drive, p api.Piece, want api.Drive, said string) {
	t.Helper()
	if got, out := Send(d, p); !same(got, want) || out != said {
		t.Errorf("Send(%s, %+v):\n%s, %q, want\n%s, %q", show(d), p, show(got), out, show(want), said)
	}
}

func wantClose(t *testing.T, d, want api.Drive, said string) {
	t.Helper()
	if got, out := Close(d); !same(got, want) || out != said {
		t.Errorf("Close(%s):\n%s, %q, want\n%s, %q", show(d), show(got), out, show(want), said)
	}
}

// begun: what Begin makes of a size and a room that every protocol takes, and what it says.
func begun(t *testing.T, letter int, caller bool) (api.Drive, string) {
	t.Helper()
	d, said, e := Begin(letter, caller, 64, 3)
	if e != api.OK {
		t.Fatal(string(rune(letter)), e)
	}
	return d, said
}

// plainDrive: a drive of e.
func plainDrive(phase, at int) api.Drive {
	return api.Drive{Letter: 'e', Phase: phase, At: at}
}

// took: places that a call before left in a drive.
func took() []api.Span { return []api.Span{{From: 3, To: 9}, {From: -1, To: -5}} }

// untook: d as a call leaves it that does nothing else.
func untook(d api.Drive) api.Drive {
	d.Took = nil
	return d
}

// P17.1: Begin of g, G and i is that of their layers, of every size and room about those that may be.
func TestBegin(t *testing.T) {
	numbers := []int{math.MinInt, -1, 0, 1, 2, 3, 7, 8, 16, 17, 31, 32, 33, 64, 65, 128, 256, 512, 1024, 2048, 4095, 4096, 4097, 8192, math.MaxInt}
	good := map[int]int{}
	for _, size := range numbers {
		for _, room := range numbers {
			for _, caller := range []bool{false, true} {
				for _, letter := range []int{'g', 'G', 'i'} {
					d, said, e := Begin(letter, caller, size, room)
					want, wantSaid, wantE := iproto.Begin(caller, size, room)
					if letter != 'i' {
						want, wantSaid, wantE = gproto.Begin(letter, caller, size, room)
					}
					if !same(d, want) || said != wantSaid || e != wantE {
						t.Fatalf("Begin(%d, %v, %d, %d): %s, %q, %d", letter, caller, size, room, show(d), said, e)
					}
					if e == api.OK {
						good[letter]++
					}
				}
			}
		}
	}
	// 2 sizes of g, 8 of G, 16 of i (those from 1 to 4095), with 4 rooms, and 6 of i; each as caller and as called.
	if want := map[int]int{'g': 16, 'G': 64, 'i': 216}; fmt.Sprint(good) != fmt.Sprint(want) {
		t.Errorf("%v, want %v", good, want)
	}
}

// P17.1: of g, G and i the drive has its letter, and opens.
func TestBeginOpens(t *testing.T) {
	for _, letter := range "gGi" {
		d, said, e := Begin(int(letter), true, 32, 3)
		if e != api.OK || said == "" || d.Letter != int(letter) || !d.Caller || d.Phase != api.Opening || d.Size != 32 || d.Room != 3 || !Right(d) {
			t.Errorf("%q: %s, %q, %d", letter, show(d), said, e)
		}
	}
}

// P17.1: Begin of e takes any size and room, has none of them, runs, and has nothing to say.
func TestBeginPlain(t *testing.T) {
	for _, size := range append(edges, 0) {
		for _, room := range append(edges, 0) {
			for _, caller := range []bool{false, true} {
				d, said, e := Begin('e', caller, size, room)
				if want := (api.Drive{Letter: 'e', Caller: caller, Phase: api.Running}); !same(d, want) || said != "" || e != api.OK {
					t.Fatalf("Begin(e, %v, %d, %d): %s, %q, %d", caller, size, room, show(d), said, e)
				}
			}
		}
	}
}

// otherLetters: numbers that are no protocol's letter.
func otherLetters() []int {
	l := []int{math.MinInt, math.MaxInt, 'e' - 256, 'g' + 256, 'i' + 1<<32, 'e' + 1<<32, 1 << 40}
	for n := -300; n <= 600; n++ {
		if n < 0 || n > 255 || !strings.ContainsRune(letters, rune(n)) {
			l = append(l, n)
		}
	}
	return l
}

// P17.1: ErrArg of any other letter, and nothing beside it.
func TestBeginOther(t *testing.T) {
	for _, letter := range otherLetters() {
		for _, size := range []int{0, 32, 64} {
			d, said, e := Begin(letter, true, size, 3)
			if !same(d, api.Drive{}) || said != "" || e != api.ErrArg {
				t.Errorf("Begin(%d): %s, %q, %d", letter, show(d), said, e)
			}
		}
	}
}

// rightPlains: right drives of e, at the edges of what P17.2 allows.
func rightPlains() []api.Drive {
	var l []api.Drive
	for _, phase := range []int{api.Running, api.Closed} {
		for _, at := range []int{0, 1, 5000, api.MaxNumber - 1, api.MaxNumber} {
			d := plainDrive(phase, at)
			l = append(l, d, with(d, func(d *api.Drive) { d.Caller = true }), with(d, func(d *api.Drive) { d.Took = took() }),
				with(d, func(d *api.Drive) {
					d.Ahead, d.Queue, d.Took, d.Win.List = []api.IFrame{}, []api.Piece{}, []api.Span{}, []string{}
				}))
		}
	}
	return l
}

// wrongPlains: drives of e that are not right, each by one thing.
func wrongPlains() []api.Drive {
	var l []api.Drive
	for _, d := range rightPlains() {
		for _, n := range edges {
			if n < 0 || n > api.MaxNumber {
				l = append(l, with(d, func(d *api.Drive) { d.At = n }))
			}
			l = append(l, with(d, func(d *api.Drive) { d.Step = n }), with(d, func(d *api.Drive) { d.Size = n }), with(d, func(d *api.Drive) { d.Room = n }),
				with(d, func(d *api.Drive) { d.Wants = n }), with(d, func(d *api.Drive) { d.Wait = n }), with(d, func(d *api.Drive) { d.Tries = n }),
				with(d, func(d *api.Drive) { d.Win.Mod = n }), with(d, func(d *api.Drive) { d.Win.Size = n }), with(d, func(d *api.Drive) { d.Win.Base = n }))
		}
		for _, n := range []int{math.MinInt, -2, 0, api.Opening, api.Closing, api.Failed, 6, 256 + api.Running, math.MaxInt} {
			l = append(l, with(d, func(d *api.Drive) { d.Phase = n }))
		}
		l = append(l, with(d, func(d *api.Drive) { d.Win.List = []string{""} }), with(d, func(d *api.Drive) { d.Win.List = []string{"a", "b"} }),
			with(d, func(d *api.Drive) { d.Ahead = []api.IFrame{{}} }), with(d, func(d *api.Drive) { d.Queue = []api.Piece{{}} }),
			with(d, func(d *api.Drive) { d.Queue = []api.Piece{{Data: "x"}} }), with(d, func(d *api.Drive) { d.Buf = "x" }))
	}
	return l
}

// wrongOthers: drives of g, G and i that are not right, and such of letters that are nobody's.
func wrongOthers(t *testing.T) []api.Drive {
	t.Helper()
	var l []api.Drive
	for _, letter := range "gGi" {
		d, _ := begun(t, int(letter), letter == 'g')
		l = append(l, with(d, func(d *api.Drive) { d.Phase = 0 }), with(d, func(d *api.Drive) { d.Phase = api.Running }), with(d, func(d *api.Drive) { d.Size = 0 }),
			with(d, func(d *api.Drive) { d.Wants = 32 }), with(d, func(d *api.Drive) { d.At = -1 }), with(d, func(d *api.Drive) { d.At = api.MaxNumber + 1 }),
			with(d, func(d *api.Drive) { d.Queue = []api.Piece{{}} }), with(d, func(d *api.Drive) { d.Win.List = []string{"\x00a"} }), plainDrive(api.Opening, 0))
		for _, other := range otherLetters() {
			l = append(l, with(d, func(d *api.Drive) { d.Letter = other }))
		}
	}
	for _, other := range otherLetters() {
		l = append(l, with(plainDrive(api.Running, 7), func(d *api.Drive) { d.Letter = other }))
	}
	return append(l, api.Drive{})
}

// P17.2: which drives of e are right; none is of a letter that is nobody's.
func TestRight(t *testing.T) {
	for _, d := range rightPlains() {
		if !Right(d) {
			t.Errorf("not right: %s", show(d))
		}
	}
	for _, d := range slices.Concat(wrongPlains(), wrongOthers(t)) {
		if Right(d) {
			t.Errorf("right: %s", show(d))
		}
	}
}

// P17.2: which drives of g, G and i are right their layers say: a drive under each letter, its fields turned one by one.
func TestRightByLetter(t *testing.T) {
	rights := map[int]int{}
	for _, made := range letters {
		for _, phase := range []int{0, 1, 2, 3, 4, 5, 6} {
			base, _ := begun(t, int(made), true)
			base.Phase = phase
			if phase == api.Running && made != 'e' {
				base.Win = api.Window{Mod: map[rune]int{'i': 32}[made], Size: base.Room, Base: 1}
				base.Win.Mod = max(base.Win.Mod, 8)
			}
			for _, n := range append(edges, 0) {
				for _, change := range []func(*api.Drive){
					func(d *api.Drive) {}, func(d *api.Drive) { d.Size = n }, func(d *api.Drive) { d.Room = n }, func(d *api.Drive) { d.Wants = n }, func(d *api.Drive) { d.At = n }, func(d *api.Drive) { d.Wait = n }, func(d *api.Drive) { d.Tries = n }, func(d *api.Drive) { d.Step = n },
					func(d *api.Drive) { d.Win.Mod = n }, func(d *api.Drive) { d.Win.Size = n }, func(d *api.Drive) { d.Win.Base = n }, func(d *api.Drive) { d.Win.List = []string{"\x01x"} }, func(d *api.Drive) { d.Win.List = []string{"xx"} }, func(d *api.Drive) { d.Queue = []api.Piece{{Channel: n, Data: "x"}} },
				} {
					for _, letter := range "gGi" {
						d := with(base, change)
						d.Letter = int(letter)
						want := iproto.Right(d)
						if letter != 'i' {
							want = gproto.Right(d)
						}
						if Right(d) != want {
							t.Fatalf("%v: %s", !want, show(d))
						}
						if want {
							rights[d.Letter]++
						}
					}
				}
			}
		}
	}
	if rights['g'] < 500 || rights['G'] < 500 || rights['i'] < 500 {
		t.Errorf("only %v", rights)
	}
}

// P17.2: of a drive that is not right each call answers it as it is, Took empty, and nothing else.
func TestNotRight(t *testing.T) {
	for _, d := range slices.Concat(wrongPlains(), wrongOthers(t)) {
		d.Took = took()
		for _, s := range []string{"", "x", "\x10\x09\x01\x02\x03\x04", strings.Repeat("abc", 50)} {
			wantFeed(t, d, s, untook(d), "")
		}
		wantTick(t, d, untook(d), "")
		wantClose(t, d, untook(d), "")
		for channel := -1; channel <= 3; channel++ {
			wantSend(t, d, api.Piece{Channel: channel, Data: "x"}, untook(d), "")
		}
	}
}

// P17.3: bytes that come by e are one piece of channel 0 as long as it runs; At counts them, closed or not.
func TestFeedPlain(t *testing.T) {
	for _, s := range []string{"", "x", "abc", "\x00\xff\x10\x07", strings.Repeat("long", 20000)} {
		for _, d := range rightPlains() {
			want := untook(d)
			if want.At += len(s); want.At > api.MaxNumber {
				want.At = api.MaxNumber
			}
			if s == "" || d.Phase == api.Closed {
				wantFeed(t, d, s, want, "")
			} else {
				wantFeed(t, d, s, want, "", api.Piece{Data: s})
			}
		}
	}
}

// P17.3: At of e goes up to MaxNumber, and stays there.
func TestPlainPlace(t *testing.T) {
	for _, phase := range []int{api.Running, api.Closed} {
		for _, c := range []struct{ at, n, want int }{
			{0, 2, 2}, {2, 3, 5}, {api.MaxNumber - 3, 2, api.MaxNumber - 1}, {api.MaxNumber - 3, 3, api.MaxNumber}, {api.MaxNumber - 3, 4, api.MaxNumber}, {api.MaxNumber, 1, api.MaxNumber}, {api.MaxNumber, 0, api.MaxNumber},
		} {
			if d, _, _ := Feed(plainDrive(phase, c.at), strings.Repeat("x", c.n)); d.At != c.want || !Right(d) {
				t.Errorf("%d bytes at %d: %s", c.n, c.at, show(d))
			}
		}
	}
}

// P17.3: a tick of e changes nothing, and says nothing.
func TestTickPlain(t *testing.T) {
	for _, d := range rightPlains() {
		for range 20 {
			wantTick(t, d, untook(d), "")
		}
	}
}

// P17.3: what is sent by e is said as it is, of channel 0, as long as it runs.
func TestSendPlain(t *testing.T) {
	for _, d := range rightPlains() {
		for _, s := range []string{"", "x", "abc", "\x00\xff\x10\x07", strings.Repeat("long", 20000)} {
			said := s
			if d.Phase == api.Closed {
				said = ""
			}
			wantSend(t, d, api.Piece{Data: s}, untook(d), said)
			for _, channel := range edges {
				wantSend(t, d, api.Piece{Channel: channel, Data: s}, untook(d), "")
			}
		}
	}
}

// P17.3: e is closed at once, says nothing, and stays closed.
func TestClosePlain(t *testing.T) {
	for _, d := range rightPlains() {
		want := untook(d)
		want.Phase = api.Closed
		wantClose(t, d, want, "")
		wantClose(t, want, want, "")
	}
}

// layerFeed, layerTick, layerSend, layerClose: the calls of layers 15 and 16 for a drive of g, G or i.
func layerFeed(d api.Drive, s string) (api.Drive, string, []api.Piece) {
	if d.Letter == 'i' {
		return iproto.Feed(d, s)
	}
	return gproto.Feed(d, s)
}

func layerTick(d api.Drive) (api.Drive, string) {
	if d.Letter == 'i' {
		return iproto.Tick(d)
	}
	return gproto.Tick(d)
}

func layerSend(d api.Drive, p api.Piece) (api.Drive, string) {
	if d.Letter == 'i' {
		return iproto.Send(d, p)
	}
	return gproto.Send(d, p)
}

func layerClose(d api.Drive) (api.Drive, string) {
	if d.Letter == 'i' {
		return iproto.Close(d)
	}
	return gproto.Close(d)
}

// walkAsLayers: one call of a drive of g, G or i, held against its layer's; the drive behind it, and what it says.
func walkAsLayers(t *testing.T, r *rand.Rand, d api.Drive, heard string) (api.Drive, string) {
	t.Helper()
	switch r.IntN(12) {
	case 0:
		next, said := layerTick(d)
		wantTick(t, d, next, said)
		return next, said
	case 1, 2, 3:
		p := api.Piece{Channel: r.IntN(12) - 2, Data: randomBytes(r, r.IntN(200))}
		next, said := untook(d), ""
		if p.Channel == 0 || p.Channel == 1 && d.Letter == 'i' {
			next, said = layerSend(d, p)
		}
		wantSend(t, d, p, next, said)
		return next, said
	case 4:
		if r.IntN(12) > 0 {
			break
		}
		next, said := layerClose(d)
		wantClose(t, d, next, said)
		return next, said
	case 5:
		heard += randomBytes(r, r.IntN(30))
	}
	next, said, came := layerFeed(d, heard)
	wantFeed(t, d, heard, next, said, came...)
	return next, said
}

// P17.3: walks of two ends of g, G and i through all phases: each call is that of the letter's layer, but Send of a channel that is none of the drive's.
func TestAsLayers(t *testing.T) {
	r := rand.New(rand.NewPCG(17, 3))
	phases := map[int]int{}
	for n := range 300 {
		letter := int("gGi"[n%3])
		var ends [2]api.Drive
		var heard [2]string
		for who := range 2 {
			ends[who], heard[1-who] = begun(t, letter, who == 0)
		}
		for range 120 {
			who := r.IntN(2)
			phases[ends[who].Phase]++
			d, said := walkAsLayers(t, r, ends[who], heard[who])
			if t.Failed() {
				return
			}
			ends[who], heard[who] = d, ""
			heard[1-who] += said
		}
	}
	for phase := api.Opening; phase <= api.Closed; phase++ {
		if phases[phase] < 100 {
			t.Errorf("phase %d: only %d times", phase, phases[phase])
		}
	}
}

// runs: two ends of a protocol that are open.
func runs(t *testing.T, letter int) [2]api.Drive {
	t.Helper()
	p := newPair(t, letter, [2]int{64, 64}, [2]int{3, 3}, harm{})
	for range 4 {
		p.round(t)
	}
	for _, d := range p.ends {
		if d.Phase != api.Running {
			t.Fatal(show(d))
		}
	}
	return p.ends
}

// P17.3: a piece of a channel that is none of the drive's is not sent, in whichever phase: Took is empty, all else is as it was.
func TestSendOtherChannel(t *testing.T) {
	for _, letter := range letters {
		opening, _ := begun(t, int(letter), true)
		open := runs(t, int(letter))[0]
		closing, _ := Close(open)
		for _, d := range []api.Drive{opening, open, closing} {
			d.Took = took()
			for _, channel := range append(edges, 3, 4, 5, 6) {
				if channel == 1 && letter == 'i' {
					continue
				}
				wantSend(t, d, api.Piece{Channel: channel, Data: "x"}, untook(d), "")
			}
		}
		for channel := range Channels(open) {
			if _, said := Send(open, api.Piece{Channel: channel, Data: "x"}); said == "" {
				t.Errorf("%q: nothing is said on channel %d", letter, channel)
			}
		}
	}
}

// P17.3: Took is empty behind each call but Feed of g, G and i, which tells the places of what it took.
func TestTook(t *testing.T) {
	for _, letter := range letters {
		ends := runs(t, int(letter))
		d := with(ends[0], func(d *api.Drive) { d.Took = took() })
		at := d.At
		_, packet := Send(ends[1], api.Piece{Data: "hello"})
		fed, _, _ := Feed(d, packet)
		want := []api.Span{{From: at, To: at + len(packet)}}
		if letter == 'e' {
			want = nil
		}
		if !slices.Equal(fed.Took, want) {
			t.Errorf("%q: Feed took %v, want %v", letter, fed.Took, want)
		}
		ticked, _ := Tick(d)
		sent, _ := Send(d, api.Piece{Data: "x"})
		none, _ := Send(d, api.Piece{Channel: 2, Data: "x"})
		closed, _ := Close(d)
		for i, d := range []api.Drive{ticked, sent, none, closed} {
			if len(d.Took) > 0 {
				t.Errorf("%q, call %d took %v", letter, i, d.Took)
			}
		}
	}
}

// P17.4: a drive is quiet if nothing waits to be sent, or to be acknowledged, whatever else it is.
func TestQuiet(t *testing.T) {
	for _, letter := range append(otherLetters(), 'g', 'G', 'i', 'e') {
		for _, phase := range []int{-1, 0, 1, 2, 3, 4, 5} {
			d := api.Drive{Letter: letter, Phase: phase}
			busy := with(d, func(d *api.Drive) {
				d.Buf, d.Took, d.Ahead, d.Wait, d.Tries, d.Win.Size = "abc", took(), []api.IFrame{{Data: "x"}}, 3, 5, 7
				d.Queue, d.Win.List = []api.Piece{}, []string{}
			})
			for _, quiet := range []api.Drive{d, busy} {
				if !Quiet(quiet) {
					t.Fatalf("not quiet: %s", show(quiet))
				}
				for _, change := range []func(*api.Drive){
					func(d *api.Drive) { d.Queue = []api.Piece{{}} }, func(d *api.Drive) { d.Queue = []api.Piece{{Data: "x"}, {Channel: 1, Data: "y"}} },
					func(d *api.Drive) { d.Win.List = []string{""} }, func(d *api.Drive) { d.Win.List = []string{"x", "y"} },
					func(d *api.Drive) { d.Queue, d.Win.List = []api.Piece{{Data: "x"}}, []string{"x"} },
				} {
					if loud := with(quiet, change); Quiet(loud) {
						t.Fatalf("quiet: %s", show(loud))
					}
				}
			}
		}
	}
}

// P17.4: a drive that sends is quiet only when all of it is acknowledged; of e it always is.
func TestQuietAgain(t *testing.T) {
	for _, letter := range letters {
		opening, _ := begun(t, int(letter), true)
		ends := runs(t, int(letter))
		for _, d := range []api.Drive{opening, ends[0]} {
			sent, said := Send(d, api.Piece{Data: "hello"})
			if !Quiet(d) || Quiet(sent) != (letter == 'e') {
				t.Errorf("%q: %v, %v: %s", letter, Quiet(d), Quiet(sent), show(sent))
			}
			_, answer, _ := Feed(ends[1], said)
			if heard, _, _ := Feed(sent, answer); d.Phase == api.Running && !Quiet(heard) {
				t.Errorf("%q: not quiet: %s", letter, show(heard))
			}
		}
	}
}

// P17.4: two channels of i, one of all others, right or not.
func TestChannels(t *testing.T) {
	for _, letter := range append(otherLetters(), 'g', 'G', 'i', 'e') {
		want := 1
		if letter == 'i' {
			want = 2
		}
		for _, d := range []api.Drive{{Letter: letter}, {Letter: letter, Phase: api.Running, Size: 64, Room: 3}} {
			if got := Channels(d); got != want {
				t.Errorf("Channels(%s): %d", show(d), got)
			}
		}
	}
}

// The chapter's examples.
func TestExamples(t *testing.T) {
	d, said, e := Begin('e', true, 0, 0)
	if e != api.OK || d.Phase != api.Running || said != "" {
		t.Errorf("Begin of e: %s, %q, %d", show(d), said, e)
	}
	if _, said := Send(d, api.Piece{Data: "abc"}); said != "abc" {
		t.Errorf("Send abc by e: %q", said)
	}
	if _, _, e := Begin('x', true, 64, 3); e != api.ErrArg {
		t.Errorf("Begin of x: %d", e)
	}
}

// spoil writes x over all of l, and over the room behind it.
func spoil[T any](l []T, x T) {
	full := l[:cap(l)]
	for i := range full {
		full[i] = x
	}
}

// R3: what is handed in, and the room behind it, is as it was; what is answered new shares no memory with it.
func TestMemory(t *testing.T) {
	calls := []func(api.Drive) api.Drive{
		func(d api.Drive) api.Drive { d, _, _ = Feed(d, "\x10\x09bytes"); return d },
		func(d api.Drive) api.Drive { d, _ = Tick(d); return d },
		func(d api.Drive) api.Drive { d, _ = Send(d, api.Piece{Data: "new"}); return d },
		func(d api.Drive) api.Drive { d, _ = Send(d, api.Piece{Channel: 7, Data: "new"}); return d },
		func(d api.Drive) api.Drive { d, _ = Close(d); return d },
		func(d api.Drive) api.Drive { Right(d); Quiet(d); Channels(d); d.Took = nil; return d },
	}
	for _, letter := range letters + "x" {
		for i, call := range calls {
			list := []string{"\x00a", "\x01b", "behind", "behind"}
			queue := []api.Piece{{Data: strings.Repeat("q", 70)}, {Data: "r"}, {Data: "behind"}, {Data: "behind"}}
			places := took()
			lists, queues := slices.Clone(list), slices.Clone(queue)
			d := api.Drive{Letter: 'e', Phase: api.Running, Queue: queue[:0], Took: places[:1]}
			d.Win.List = list[:0]
			if letter != 'e' {
				d = runs(t, 'g')[0]
				if letter == 'i' {
					d = runs(t, 'i')[0]
				}
				d.Letter, d.Queue, d.Took, d.Win.List = int(letter), queue[:2], places[:1], list[:2]
			}
			if Right(d) != (letter != 'x') {
				t.Fatal(show(d))
			}
			got := call(d)
			if !slices.Equal(got.Queue, d.Queue) {
				spoil(got.Queue, api.Piece{Data: "spoilt"})
			}
			if !slices.Equal(got.Win.List, d.Win.List) {
				spoil(got.Win.List, "spoilt")
			}
			spoil(got.Took, api.Span{})
			if !slices.Equal(list, lists) || !slices.Equal(queue, queues) || !slices.Equal(places, took()) {
				t.Errorf("%q, call %d: %q, %v, %v", letter, i, list, queue, places)
			}
		}
	}
}
