package iproto

import (
	"math"
	"slices"
	"strings"
	"testing"

	"postchaise/api"
)

// ahead: packets that came early, of these numbers.
func ahead(numbers ...int) []api.IFrame {
	var l []api.IFrame
	for _, n := range numbers {
		l = append(l, early(n))
	}
	return l
}

// rightDrives: right drives at the edges of what P16.6 allows.
func rightDrives() []api.Drive {
	var l []api.Drive
	for _, d := range []api.Drive{begun(4095, 16), begun(1, 1), running(64, 3, 0), running(64, 3, 31, "\x00a", "\x07b", "\x01"+strings.Repeat("c", 64)), running(4095, 16, 20, texts(16)...)} {
		l = append(l, d)
		for _, change := range []func(*api.Drive){
			func(d *api.Drive) { d.Wants = 0 }, func(d *api.Drive) { d.Wants = 31 },
			func(d *api.Drive) { d.At = 0 }, func(d *api.Drive) { d.At = 1 << 40 },
			func(d *api.Drive) { d.Wait = 0 }, func(d *api.Drive) { d.Wait = 3 },
			func(d *api.Drive) { d.Tries = 0 }, func(d *api.Drive) { d.Tries = 13 },
			func(d *api.Drive) { d.Caller = false },
			func(d *api.Drive) { d.Ahead = []api.IFrame{} },
			func(d *api.Drive) { d.Queue = []api.Piece{{Channel: 7, Data: "x"}, {Data: zeros(5000)}} },
			func(d *api.Drive) { d.Took = []api.Span{{From: -1, To: -5}} },
			func(d *api.Drive) { d.Buf = "any bytes \xff\x07" },
			func(d *api.Drive) { d.Step = 0 }, func(d *api.Drive) { d.Step = 31 }, func(d *api.Drive) { d.Step = -1 },
			func(d *api.Drive) { d.Phase = 3 }, func(d *api.Drive) { d.Phase = 4 }, func(d *api.Drive) { d.Phase = 5 },
			func(d *api.Drive) {
				d.Phase, d.Step, d.Win = 4, math.MinInt, api.Window{Mod: -1, Size: -99, Base: math.MaxInt, List: []string{"\x00a", "\x07b"}}
				d.Win.List = d.Win.List[:min(d.Size, 2)]
			},
		} {
			l = append(l, with(d, change))
		}
	}
	run := running(64, 3, 3, texts(1)...)
	for _, phase := range []int{2, 3, 4, 5} {
		for _, change := range []func(*api.Drive){
			func(d *api.Drive) { d.Ahead = ahead(2) }, func(d *api.Drive) { d.Ahead = ahead(16) }, func(d *api.Drive) { d.Ahead = ahead(2, 16) },
			func(d *api.Drive) { d.Ahead = ahead(2, 3, 4, 5, 6, 7, 8, 9, 10, 11, 12, 13, 14, 15, 16) },
			func(d *api.Drive) { d.Wants, d.Ahead = 28, ahead(29, 31, 0, 1, 11) },
			func(d *api.Drive) {
				d.Ahead = []api.IFrame{{Kind: -7, Number: 2, Ack: 99, Channel: -3, Caller: true, Data: zeros(5000)}}
			},
		} {
			d := with(run, change)
			d.Phase = phase
			l = append(l, d)
		}
	}
	odd := with(begun(64, 3), func(d *api.Drive) {
		d.Step, d.Win = math.MaxInt, api.Window{Mod: 77, Size: -1, Base: 99, List: []string{}}
	})
	return append(l, odd, with(odd, func(d *api.Drive) { d.Step = math.MinInt }))
}

// wrongAnyhow: what makes a drive wrong in every phase.
func wrongAnyhow() []func(*api.Drive) {
	return []func(*api.Drive){
		func(d *api.Drive) { d.Letter = 'g' }, func(d *api.Drive) { d.Letter = 'G' }, func(d *api.Drive) { d.Letter = 'e' }, func(d *api.Drive) { d.Letter = 'I' }, func(d *api.Drive) { d.Letter = 'i' + 256 }, func(d *api.Drive) { d.Letter = 0 },
		func(d *api.Drive) { d.Size, d.Win.List = 0, nil }, func(d *api.Drive) { d.Size, d.Win.List = -1, nil }, func(d *api.Drive) { d.Size = 4096 },
		func(d *api.Drive) { d.Room, d.Win.Size, d.Win.List = 0, 0, nil }, func(d *api.Drive) { d.Room, d.Win.Size = 17, 17 },
		func(d *api.Drive) { d.Wants = -1 }, func(d *api.Drive) { d.Wants = 32 },
		func(d *api.Drive) { d.At = -1 }, func(d *api.Drive) { d.At = 1<<40 + 1 }, func(d *api.Drive) { d.At = math.MinInt }, func(d *api.Drive) { d.At = math.MaxInt },
		func(d *api.Drive) { d.Wait = -1 }, func(d *api.Drive) { d.Wait = 4 },
		func(d *api.Drive) { d.Tries = -1 }, func(d *api.Drive) { d.Tries = 14 },
		func(d *api.Drive) { d.Ahead = []api.IFrame{{}} }, func(d *api.Drive) { d.Ahead = []api.IFrame{{Number: 2}} }, func(d *api.Drive) { d.Ahead = append(ahead(2), api.IFrame{Number: 3}) },
		func(d *api.Drive) { d.Ahead = ahead(1) }, func(d *api.Drive) { d.Ahead = ahead(17) }, func(d *api.Drive) { d.Ahead = ahead(0) }, func(d *api.Drive) { d.Ahead = ahead(31) }, func(d *api.Drive) { d.Ahead = ahead(2, 17) },
		func(d *api.Drive) { d.Ahead = ahead(2, 2) }, func(d *api.Drive) { d.Ahead = ahead(3, 2) }, func(d *api.Drive) { d.Ahead = ahead(2, 5, 4) }, func(d *api.Drive) { d.Ahead = ahead(1, 2) },
		func(d *api.Drive) { d.Ahead = ahead(-30) }, func(d *api.Drive) { d.Ahead = ahead(34) }, func(d *api.Drive) { d.Ahead = ahead(2, 35) }, func(d *api.Drive) { d.Ahead = ahead(math.MinInt) }, func(d *api.Drive) { d.Ahead = ahead(math.MaxInt) },
		func(d *api.Drive) { d.Queue = []api.Piece{{}} },
		func(d *api.Drive) { d.Queue = []api.Piece{{Data: "x"}, {Channel: 1}, {Data: "y"}} },
		func(d *api.Drive) { d.Queue = []api.Piece{{Data: "x"}, {Channel: 8, Data: "y"}} }, func(d *api.Drive) { d.Queue = []api.Piece{{Channel: -1, Data: "y"}} }, func(d *api.Drive) { d.Queue = []api.Piece{{Channel: 256, Data: "y"}} },
		func(d *api.Drive) { d.Win.List = []string{""} }, func(d *api.Drive) { d.Win.List = []string{"\x00"} }, func(d *api.Drive) { d.Win.List = []string{"\x00a", "\x07"} },
		func(d *api.Drive) { d.Win.List = []string{"\x08a"} }, func(d *api.Drive) { d.Win.List = []string{"\x00a", "\xffa"} }, func(d *api.Drive) { d.Win.List = []string{zeros(66)} }, func(d *api.Drive) { d.Win.List = []string{"\x00a", zeros(5000)} },
		func(d *api.Drive) { d.Phase = 0 }, func(d *api.Drive) { d.Phase = 6 },
	}
}

// wrongDrives: drives that are not right, each by one thing.
func wrongDrives() []api.Drive {
	l := []api.Drive{{}}
	for _, d := range []api.Drive{begun(64, 3), running(64, 3, 7, texts(2)...), with(running(64, 3, 1), func(d *api.Drive) { d.Phase = 3 }), with(begun(64, 3), func(d *api.Drive) { d.Phase = 4 }), with(begun(64, 3), func(d *api.Drive) { d.Phase = 5 })} {
		for _, n := range []int{math.MinInt, -1 << 32, -2, 1<<40 + 1, 1<<40 + 7, math.MaxInt} {
			l = append(l,
				with(d, func(d *api.Drive) { d.Letter = n }), with(d, func(d *api.Drive) { d.Phase = n }), with(d, func(d *api.Drive) { d.Size = n }),
				with(d, func(d *api.Drive) { d.Room = n }), with(d, func(d *api.Drive) { d.Wants = n }),
				with(d, func(d *api.Drive) { d.Wait = n }), with(d, func(d *api.Drive) { d.Tries = n }))
		}
		for _, change := range wrongAnyhow() {
			l = append(l, with(d, change))
		}
	}
	open, run := begun(64, 3), running(64, 3, 7, texts(2)...)
	for _, n := range []int{math.MinInt, -2, 32, math.MaxInt} {
		l = append(l, with(run, func(d *api.Drive) { d.Step = n }), with(run, func(d *api.Drive) { d.Win.Base = n }), with(run, func(d *api.Drive) { d.Win.Mod = n + 32 }), with(run, func(d *api.Drive) { d.Win.Size = n }))
	}
	return append(l, with(open, func(d *api.Drive) { d.Win = run.Win }), with(open, func(d *api.Drive) { d.Ahead = ahead(2) }),
		with(run, func(d *api.Drive) { d.Win = api.Window{} }), with(run, func(d *api.Drive) { d.Win.Mod = 31 }), with(run, func(d *api.Drive) { d.Win.Mod = 33 }), with(run, func(d *api.Drive) { d.Win.Mod = 8 }),
		with(run, func(d *api.Drive) { d.Win.Size = 2 }), with(run, func(d *api.Drive) { d.Win.Size = 4 }), with(run, func(d *api.Drive) { d.Room = 4 }), with(run, func(d *api.Drive) { d.Win.Base = -1 }),
		with(run, func(d *api.Drive) { d.Win.List = texts(4) }))
}

// P16.6: which drives are right.
func TestRight(t *testing.T) {
	for _, d := range rightDrives() {
		if !Right(d) || !rightAgain(d) {
			t.Errorf("not right: %s", show(d))
		}
	}
	for _, d := range wrongDrives() {
		if Right(d) || rightAgain(d) {
			t.Errorf("right: %s", show(d))
		}
	}
}

// P16.6: every number about those that may be, one field at a time, held against the second writing.
func TestRightAgain(t *testing.T) {
	for phase := 0; phase <= 6; phase++ {
		base := with(running(64, 3, 7, texts(2)...), func(d *api.Drive) { d.Phase, d.Step, d.Ahead = phase, 0, ahead(2, 4) })
		for n := -40; n <= 140; n++ {
			for _, change := range []func(*api.Drive){
				func(d *api.Drive) { d.Letter = n }, func(d *api.Drive) { d.Size = n }, func(d *api.Drive) { d.Size = 4000 + n }, func(d *api.Drive) { d.Room = n }, func(d *api.Drive) { d.Room, d.Win.Size = n, n }, func(d *api.Drive) { d.Wants = n }, func(d *api.Drive) { d.At = n }, func(d *api.Drive) { d.At = 1<<40 + n }, func(d *api.Drive) { d.Wait = n }, func(d *api.Drive) { d.Tries = n }, func(d *api.Drive) { d.Step = n },
				func(d *api.Drive) { d.Win.Mod = n }, func(d *api.Drive) { d.Win.Size = n }, func(d *api.Drive) { d.Win.Base = n }, func(d *api.Drive) { d.Win.List = texts(n) }, func(d *api.Drive) { d.Win.List = []string{zeros(max(n, 0))} }, func(d *api.Drive) { d.Win.List = []string{piece(n, "x")} },
				func(d *api.Drive) { d.Ahead = ahead(n) }, func(d *api.Drive) { d.Ahead = ahead(n, n+1, n+3) }, func(d *api.Drive) { d.Ahead = ahead(n, 5) }, func(d *api.Drive) { d.Ahead = ahead(5, n) }, func(d *api.Drive) { d.Wants, d.Ahead = n, ahead(30, 1) },
				func(d *api.Drive) { d.Queue = []api.Piece{{Channel: n, Data: "x"}} },
			} {
				for _, change := range []func(*api.Drive){change, func(d *api.Drive) { change(d); d.Win.List = nil }, func(d *api.Drive) { change(d); d.Ahead = nil }, func(d *api.Drive) { change(d); d.Ahead, d.Win.List = nil, nil }} {
					if d := with(base, change); Right(d) != rightAgain(d) {
						t.Fatalf("%v: %s", Right(d), show(d))
					}
				}
			}
		}
	}
}

// P16.6: of a drive that is not right each call answers it as it is, and nothing else; Took is empty.
func TestNotRight(t *testing.T) {
	for _, d := range wrongDrives() {
		d.Took = []api.Span{{From: 1, To: 7}}
		want := with(d, func(d *api.Drive) { d.Took = nil })
		for _, s := range []string{"", "x", ack(0), sync(1, 1, 0), closing(0), data(1, 0, 0, "x")} {
			if got, said, l := Feed(d, s); !same(got, want) || said != "" || len(l) != 0 {
				t.Errorf("Feed(%s, %q): %s, %q, %+v", show(d), s, show(got), said, l)
			}
		}
		wantTick(t, d, want, "")
		wantSend(t, d, api.Piece{Data: "x"}, want, "")
		wantClose(t, d, want, "")
	}
}

// R3: what is handed in, and the room behind it, is as it was; what is answered new shares no memory with it.
func TestMemory(t *testing.T) {
	calls := []func(api.Drive) api.Drive{
		func(d api.Drive) api.Drive { d, _ = Tick(d); return d },
		func(d api.Drive) api.Drive { d, _ = Close(d); return d },
		func(d api.Drive) api.Drive { d, _ = Send(d, api.Piece{Data: "new"}); return d },
		func(d api.Drive) api.Drive { d, _, _ = Feed(d, ack(7)); return d },
		func(d api.Drive) api.Drive { d, _, _ = Feed(d, ack(8)+data(1, 0, 0, "x")); return d },
		func(d api.Drive) api.Drive { d, _, _ = Feed(d, data(2, 0, 0, "x")); return d },
		func(d api.Drive) api.Drive { d, _, _ = Feed(d, data(4, 0, 0, "x")+data(6, 0, 0, "x")); return d },
		func(d api.Drive) api.Drive {
			d, _, _ = Feed(d, data(2, 0, 0, "x")+data(1, 0, 0, "x")+data(4, 0, 0, "x"))
			return d
		},
		func(d api.Drive) api.Drive { d, _, _ = Feed(d, nak(8, 6)); return d },
		func(d api.Drive) api.Drive { d, _, _ = Feed(d, sync(9, 9, 0)); return d },
	}
	for _, phase := range []int{api.Opening, api.Running} {
		for i, call := range calls {
			list := append(texts(3), "behind", "behind")
			queue := []api.Piece{{Data: strings.Repeat("q", 70)}, {Data: "r"}, {Data: "behind"}, {Data: "behind"}}
			took := []api.Span{{From: 1, To: 2}, {From: 3, To: 4}, {From: 5, To: 6}}
			held := ahead(3, 5, 9, 10, 11, 12)
			lists, queues, tooks, helds := slices.Clone(list), slices.Clone(queue), slices.Clone(took), slices.Clone(held)
			d := running(64, 4, 7, list[:3]...)
			d.Ahead = held[:2]
			if phase == api.Opening {
				d = begun(64, 4)
			}
			d.Queue, d.Took = queue[:2], took[:1]
			isAsItWas := func() bool {
				return slices.Equal(list, lists) && slices.Equal(queue, queues) && slices.Equal(took, tooks) && slices.Equal(held, helds)
			}
			got := call(d)
			if !isAsItWas() {
				t.Errorf("call %d: %q, %v, %v, %v", i, list, queue, took, held)
			}
			spoilChanged(got.Queue, queues[:2], api.Piece{Data: "spoilt"})
			spoilChanged(got.Win.List, lists[:3], "spoilt")
			spoilChanged(got.Ahead, helds[:2], api.IFrame{Data: "spoilt"})
			spoilChanged(got.Took, nil, api.Span{From: -1, To: -1})
			if !isAsItWas() {
				t.Errorf("call %d shares memory: %q, %v, %v, %v", i, list, queue, took, held)
			}
		}
	}
}

// spoilChanged writes x over all of l, and over the room behind it, unless l is as it was.
func spoilChanged[T comparable](l, was []T, x T) {
	if slices.Equal(l, was) {
		return
	}
	full := l[:cap(l)]
	for i := range full {
		full[i] = x
	}
}

// R3: two drives made of one go on apart.
func TestApart(t *testing.T) {
	d, _ := Send(begun(64, 3), api.Piece{Data: "a"})
	d, _ = Send(d, api.Piece{Data: "b"})
	x, _ := Send(d, api.Piece{Data: "x"})
	y, _ := Send(d, api.Piece{Data: "y"})
	if !slices.Equal(x.Queue, []api.Piece{{Data: "a"}, {Data: "b"}, {Data: "x"}}) || !slices.Equal(y.Queue, []api.Piece{{Data: "a"}, {Data: "b"}, {Data: "y"}}) || len(d.Queue) != 2 {
		t.Errorf("%v, %v, %v", d.Queue, x.Queue, y.Queue)
	}
	run := running(64, 7, 1, texts(1)...)
	v, _ := Send(run, api.Piece{Data: "v"})
	w, _ := Send(run, api.Piece{Data: "w"})
	if !slices.Equal(v.Win.List, append(texts(1), "\x00v")) || !slices.Equal(w.Win.List, append(texts(1), "\x00w")) {
		t.Errorf("%q, %q", v.Win.List, w.Win.List)
	}
	run, _, _ = Feed(run, data(4, 0, 0, "four")+data(6, 0, 0, "six"))
	v, _, _ = Feed(run, data(2, 0, 0, "v")+data(8, 0, 0, "v"))
	w, _, _ = Feed(run, data(3, 0, 0, "w")+data(9, 0, 0, "w"))
	numbers := func(d api.Drive) []int {
		var l []int
		for _, f := range d.Ahead {
			l = append(l, f.Number)
		}
		return l
	}
	if !slices.Equal(numbers(run), []int{4, 6}) || !slices.Equal(numbers(v), []int{2, 4, 6, 8}) || !slices.Equal(numbers(w), []int{3, 4, 6, 9}) {
		t.Errorf("%v, %v, %v", run.Ahead, v.Ahead, w.Ahead)
	}
}
