package gproto

import (
	"fmt"
	"math"
	"math/rand/v2"
	"slices"
	"strings"
	"testing"

	"postchaise/api"
	"postchaise/gframe"
)

func packet(f api.GFrame) string {
	s, e := gframe.Write(f)
	if e != api.OK {
		panic(fmt.Sprint(f, e))
	}
	return s
}

func control(high, low int) string { return packet(api.GFrame{High: high, Low: low}) }

func short(high, low, size int, data string) string {
	return packet(api.GFrame{Type: api.GShort, High: high, Low: low, Size: size, Data: data})
}

func long(high, low int, data string) string {
	return packet(api.GFrame{Type: api.GLong, High: high, Low: low, Size: len(data), Data: data})
}

func initA(room int) string    { return control(api.GInitA, room) }
func initB(code int) string    { return control(api.GInitB, code) }
func initC(room int) string    { return control(api.GInitC, room) }
func ready(number int) string  { return control(api.GReady, number) }
func reject(number int) string { return control(api.GReject, number) }
func closing() string          { return control(api.GClose, 0) }

func zeros(n int) string { return strings.Repeat("\x00", n) }

// texts: n texts, no two of them alike.
func texts(n int) []string {
	var l []string
	for i := range n {
		l = append(l, fmt.Sprint("t", i))
	}
	return l
}

// randomBytes: n bytes that are the same in every run; many of them are 16, or small.
func randomBytes(r *rand.Rand, n int) string {
	b := make([]byte, n)
	for i := range b {
		b[i] = byte(r.IntN(256))
		if r.IntN(5) == 0 {
			b[i] = 16
		} else if r.IntN(4) == 0 {
			b[i] = byte(r.IntN(10))
		}
	}
	return string(b)
}

// heard: the packets in s as a failing test tells them.
func heard(s string) string {
	out := ""
	for {
		f, x, ok := gframe.Scan(s)
		if !ok {
			return fmt.Sprintf("%s%q", out, s)
		}
		out += fmt.Sprintf("%q{%d %d %d, %d %q} ", s[:x.From], f.Type, f.High, f.Low, f.Size, f.Data)
		s = s[x.To:]
	}
}

func show(d api.Drive) string { return fmt.Sprintf("%+v", d) }

// same: whether all fields are alike; nil and empty lists are (R3).
func same(a, b api.Drive) bool {
	v, w := a.Win, b.Win
	if v.Mod != w.Mod || v.Size != w.Size || v.Base != w.Base || !slices.Equal(v.List, w.List) {
		return false
	}
	if !slices.Equal(a.Ahead, b.Ahead) || !slices.Equal(a.Queue, b.Queue) || !slices.Equal(a.Took, b.Took) {
		return false
	}
	plain := func(d api.Drive) string {
		d.Win, d.Ahead, d.Queue, d.Took = api.Window{}, nil, nil, nil
		return fmt.Sprintf("%#v", d)
	}
	return plain(a) == plain(b)
}

// begun: what Begin makes of G, at the called end.
func begun(size, room int) api.Drive {
	return api.Drive{Letter: 'G', Phase: api.Opening, Size: size, Room: room, Wants: 1}
}

// running: a drive of G that is open, and waits for packet 1, with texts from that number on.
func running(size, room, base int, l ...string) api.Drive {
	d := begun(size, room)
	d.Phase, d.Step = api.Running, -1
	d.Win = api.Window{Mod: 8, Size: room, Base: base, List: l}
	return d
}

// with: d, changed.
func with(d api.Drive, change func(*api.Drive)) api.Drive {
	change(&d)
	return d
}

// wantFeed: Took is left to the tests that are about it.
func wantFeed(t *testing.T, d api.Drive, s string, want api.Drive, said, came string) {
	t.Helper()
	got, out, l := Feed(d, s)
	got.Took, want.Took = nil, nil
	if !same(got, want) || out != said {
		t.Errorf("Feed(%s, %s):\n%s, %s, want\n%s, %s", show(d), heard(s), show(got), heard(out), show(want), heard(said))
	}
	if came == "" && len(l) == 0 {
		return
	}
	if len(l) != 1 || l[0] != (api.Piece{Data: came}) {
		t.Errorf("Feed(%s, %s): %+v came, want %q", show(d), heard(s), l, came)
	}
}

func wantTick(t *testing.T, d, want api.Drive, said string) {
	t.Helper()
	if got, out := Tick(d); !same(got, want) || out != said {
		t.Errorf("Tick(%s):\n%s, %s, want\n%s, %s", show(d), show(got), heard(out), show(want), heard(said))
	}
}

func wantSend(t *testing.T, d api.Drive, p api.Piece, want api.Drive, said string) {
	t.Helper()
	if got, out := Send(d, p); !same(got, want) || out != said {
		t.Errorf("Send(%s, %+v):\n%s, %s, want\n%s, %s", show(d), p, show(got), heard(out), show(want), heard(said))
	}
}

func wantClose(t *testing.T, d, want api.Drive, said string) {
	t.Helper()
	if got, out := Close(d); !same(got, want) || out != said {
		t.Errorf("Close(%s):\n%s, %s, want\n%s, %s", show(d), show(got), heard(out), show(want), heard(said))
	}
}

// tookOne: d behind a packet of n bytes, as far as every packet changes it.
func tookOne(d api.Drive, n int) api.Drive {
	d.Wait |= 2
	d.At += n
	return d
}

// P15.1: the letters, sizes and rooms that may be, and those beside them.
func TestBegin(t *testing.T) {
	sizes := []int{math.MinInt, -32, -1, 0, 1, 16, 31, 32, 33, 48, 63, 64, 65, 96, 100, 127, 128, 256, 512, 1024, 2048, 4095, 4096, 4097, 8192, 1 << 40, math.MaxInt}
	rooms := []int{math.MinInt, -1, 0, 1, 2, 3, 4, 5, 6, 7, 8, 9, 15, 16, math.MaxInt}
	good := 0
	for _, letter := range []int{math.MinInt, -'g', 0, 'e', 'f', 'g', 'h', 'i', 'F', 'G', 'H', 'g' + 256, 'G' + 256, math.MaxInt} {
		for _, size := range sizes {
			for _, room := range rooms {
				for _, caller := range []bool{false, true} {
					d, s, e := Begin(letter, caller, size, room)
					isSize := strings.Contains(" 32 64 128 256 512 1024 2048 4096 ", fmt.Sprintf(" %d ", size))
					if 1 <= room && room <= 7 && isSize && (letter == 'G' || letter == 'g' && size < 128) {
						good++
						want := api.Drive{Letter: letter, Phase: 1, Caller: caller, Size: size, Room: room, Wants: 1}
						if !same(d, want) || s != initA(room) || e != api.OK || !Right(d) {
							t.Errorf("Begin(%d, %v, %d, %d): %s, %s, %d", letter, caller, size, room, show(d), heard(s), e)
						}
					} else if !same(d, api.Drive{}) || s != "" || e != api.ErrArg {
						t.Errorf("Begin(%d, %v, %d, %d): %s, %s, %d", letter, caller, size, room, show(d), heard(s), e)
					}
				}
			}
		}
	}
	if good != 2*7*(8+2) {
		t.Errorf("%d drives", good)
	}
}

// P15.1: what is said first, byte by byte: the sum is 43690 less the control byte.
func TestBeginBytes(t *testing.T) {
	_, s, _ := Begin('g', true, 64, 3)
	sum := 43690 - 7*8 - 3
	b := []byte{16, 9, byte(sum % 256), byte(sum / 256), 7*8 + 3, 0}
	b[5] = b[1] ^ b[2] ^ b[3] ^ b[4]
	if s != string(b) {
		t.Errorf("%q, want %q", s, b)
	}
}

// P15.2: the opening, packet by packet.
func TestOpening(t *testing.T) {
	d := with(begun(256, 5), func(d *api.Drive) { d.Tries, d.Queue = 4, []api.Piece{{Data: "abc"}} })
	one := with(tookOne(d, 6), func(d *api.Drive) { d.Step, d.Tries, d.Room = 1, 0, 3 })
	wantFeed(t, d, initA(3), one, initB(3), "")
	one.Tries = 7
	two := with(tookOne(one, 6), func(d *api.Drive) { d.Step, d.Tries, d.Size = 2, 0, 64 })
	wantFeed(t, one, initB(1), two, initC(3), "")
	two.Tries = 9
	open := with(tookOne(two, 6), func(d *api.Drive) {
		d.Phase, d.Step, d.Tries, d.Room, d.Queue = 2, -1, 0, 2, nil
		d.Win = api.Window{Mod: 8, Size: 2, Base: 1, List: []string{"abc"}}
	})
	wantFeed(t, two, initC(2), open, short(1, 0, 32, "abc"), "")
	wantFeed(t, d, initA(3)+initB(1)+initC(3), with(open, func(d *api.Drive) { d.Room, d.Win.Size = 3, 3 }), initB(3)+initC(3)+short(1, 0, 32, "abc"), "")
}

// P15.2: what is told is agreed on only where it is less; a size's code of 0 is 32, a room of 0 is nothing.
func TestAgree(t *testing.T) {
	for mine := 1; mine <= 7; mine++ {
		for low := range 8 {
			for step := 0; step <= 2; step += 2 {
				d := with(begun(32, mine), func(d *api.Drive) { d.Step, d.Tries = step, 3 })
				got, said, _ := Feed(d, control(api.GInitA-step, low))
				if low == 0 {
					if got.Took = nil; !same(got, tookOne(d, 6)) || said != "" {
						t.Errorf("room %d, step %d, low 0: %s, %s", mine, step, show(got), heard(said))
					}
					continue
				}
				if got.Room != min(mine, low) || got.Size != 32 || got.Tries != 0 || got.Phase != 1+step/2 || step == 0 && (got.Step != 1 || said != initB(0)) || step == 2 && (got.Step != -1 || said != "" || got.Win.Size != min(mine, low)) {
					t.Errorf("room %d, step %d, low %d: %s, %s", mine, step, low, show(got), heard(said))
				}
			}
		}
	}
	for code := range 8 {
		for low := range 8 {
			d := with(begun(32<<code, 4), func(d *api.Drive) { d.Step, d.Tries = 1, 3 })
			got, said, _ := Feed(d, initB(low))
			if got.Size != 32<<min(code, low) || got.Room != 4 || got.Step != 2 || got.Tries != 0 || got.Phase != 1 || said != initC(4) {
				t.Errorf("size code %d, low %d: %s, %s", code, low, show(got), heard(said))
			}
		}
	}
	g := with(begun(64, 4), func(d *api.Drive) { d.Letter, d.Step = 'g', 1 })
	if got, _, _ := Feed(g, initB(7)); got.Size != 64 {
		t.Errorf("g: size %d", got.Size)
	}
}

// P15.2: the opening packet of one step less is said again, once a tick; others are nothing.
func TestOpeningAgain(t *testing.T) {
	for step := range 3 {
		for q := range 3 {
			for wait := range 4 {
				if q == step {
					continue
				}
				d := with(begun(128, 5), func(d *api.Drive) { d.Step, d.Wait, d.Tries = step, wait, 6 })
				want, said := tookOne(d, 6), ""
				if q == step-1 && wait%2 == 0 {
					want.Wait = 3
					said = []string{initA(5), initB(2)}[q]
				}
				for _, low := range []int{0, 1, 7} {
					wantFeed(t, d, control(api.GInitA-q, low), want, said, "")
				}
			}
		}
	}
	d := with(begun(128, 5), func(d *api.Drive) { d.Step = 1 })
	wantFeed(t, d, initA(5)+initA(5)+initA(5), with(tookOne(d, 18), func(d *api.Drive) { d.Wait = 3 }), initA(5), "")
}

// P15.2: an end that runs answers INITC by ready; none that closes or has ended answers an opening packet.
func TestOpeningLate(t *testing.T) {
	for wants := range 8 {
		d := with(running(64, 3, 5, "a", "b"), func(d *api.Drive) { d.Wants, d.Tries, d.Step = wants, 4, 5 })
		for low := range 8 {
			wantFeed(t, d, initC(low), tookOne(d, 6), ready((wants+7)%8), "")
			wantFeed(t, d, initA(low), tookOne(d, 6), "", "")
			wantFeed(t, d, initB(low), tookOne(d, 6), "", "")
		}
	}
	for _, phase := range []int{api.Closing, api.Closed, api.Failed} {
		for step := -1; step <= 3; step++ {
			d := with(running(64, 3, 5, "a", "b"), func(d *api.Drive) { d.Phase, d.Step = phase, step })
			for _, s := range []string{initA(2), initB(0), initC(2)} {
				wantFeed(t, d, s, tookOne(d, 6), "", "")
			}
		}
	}
}

// P15.2: close, in every phase.
func TestTakeClose(t *testing.T) {
	full := running(64, 3, 5, "a", "b", "c")
	full.Queue = []api.Piece{{Data: "waits"}}
	full.Tries = 3
	for step := range 3 {
		d := with(begun(64, 3), func(d *api.Drive) { d.Step, d.Tries = step, 3 })
		wantFeed(t, d, closing(), with(tookOne(d, 6), func(d *api.Drive) { d.Phase, d.Step = 4, 1 }), closing(), "")
	}
	wantFeed(t, full, closing(), with(tookOne(full, 6), func(d *api.Drive) { d.Phase, d.Step = 4, 1 }), closing(), "")
	for step := -1; step <= 3; step++ {
		d := with(full, func(d *api.Drive) { d.Phase, d.Step = api.Closing, step })
		wantFeed(t, d, closing(), with(tookOne(d, 6), func(d *api.Drive) { d.Phase, d.Step = 4, 0 }), "", "")
		d.Phase = api.Closed
		said := ""
		if step == 1 {
			said = closing()
		}
		wantFeed(t, d, closing(), tookOne(d, 6), said, "")
		d.Phase = api.Failed
		wantFeed(t, d, closing(), tookOne(d, 6), "", "")
	}
	// Its Low says nothing, and what is in the window is not acknowledged by it.
	wantFeed(t, full, control(api.GClose, 6), with(tookOne(full, 6), func(d *api.Drive) { d.Phase, d.Step = 4, 1 }), closing(), "")
	// Each one that is heard is answered.
	wantFeed(t, full, closing()+closing()+closing(), with(tookOne(full, 18), func(d *api.Drive) { d.Phase, d.Step = 4, 1 }), closing()+closing()+closing(), "")
}

// P15.2: any other packet opens an end that has heard all but INITC, and is taken by it; one of lesser Step takes nothing.
func TestOtherOpens(t *testing.T) {
	d := with(begun(64, 3), func(d *api.Drive) { d.Step, d.Tries = 2, 5 })
	open := tookOne(running(64, 3, 1), 6)
	for _, s := range []string{ready(0), ready(3), control(0, 0), control(3, 1)} {
		wantFeed(t, d, s, open, "", "")
	}
	wantFeed(t, d, reject(0), with(open, func(d *api.Drive) { d.Wait = 3 }), "", "")
	wantFeed(t, d, short(1, 0, 64, "xyz"), with(open, func(d *api.Drive) { d.Wants, d.At = 2, 70 }), ready(1), "xyz")
	wantFeed(t, d, short(2, 0, 64, "xyz"), with(open, func(d *api.Drive) { d.At = 70 }), reject(0), "")
	wantFeed(t, d, short(4, 0, 64, "xyz"), with(open, func(d *api.Drive) { d.At = 70 }), ready(0), "")
	d.Queue = []api.Piece{{Data: "q"}}
	wantFeed(t, d, ready(0), with(open, func(d *api.Drive) { d.Win.List = []string{"q"} }), short(1, 0, 32, "q"), "")
	for step := range 2 {
		d.Step = step
		for _, s := range []string{ready(0), reject(0), control(0, 0), control(3, 1)} {
			wantFeed(t, d, s, tookOne(d, 6), "", "")
		}
		wantFeed(t, d, short(1, 0, 32, "xyz"), tookOne(d, 38), "", "")
	}
}

// P15.2: any other packet has an end that closes say so once more; one that is closed or has failed says nothing.
func TestOtherLate(t *testing.T) {
	d := running(64, 3, 5, "a", "b")
	for _, s := range []string{ready(5), reject(5), control(0, 5), control(3, 5), short(1, 5, 32, "x"), long(1, 5, zeros(32)), short(2, 5, 32, "x")} {
		d.Phase = api.Closing
		wantFeed(t, d, s, tookOne(d, len(s)), closing(), "")
		d.Phase, d.Step = api.Closed, 1
		wantFeed(t, d, s, tookOne(d, len(s)), "", "")
		d.Phase = api.Failed
		wantFeed(t, d, s, tookOne(d, len(s)), "", "")
	}
}

// P15.2: every packet that runs acknowledges, those that say nothing else too; Tries is 0 only if a text went.
func TestAcknowledge(t *testing.T) {
	d := with(running(64, 4, 6, "a", "b", "c", "d"), func(d *api.Drive) { d.Tries, d.Step = 7, 6 })
	acked := func(n int) api.Drive {
		return with(tookOne(d, 6), func(d *api.Drive) { d.Win.Base, d.Win.List, d.Tries = (6+n)%8, d.Win.List[n:], 0 })
	}
	for _, high := range []int{api.GReady, 0, 3} {
		wantFeed(t, d, control(high, 6), acked(1), "", "")
		wantFeed(t, d, control(high, 7), acked(2), "", "")
		wantFeed(t, d, control(high, 0), acked(3), "", "")
		wantFeed(t, d, control(high, 1), acked(4), "", "")
		for low := 2; low <= 5; low++ {
			wantFeed(t, d, control(high, low), tookOne(d, 6), "", "")
		}
	}
	wantFeed(t, d, short(1, 7, 32, "x"), with(acked(2), func(d *api.Drive) { d.At, d.Wants = 38, 2 }), ready(1), "x")
	wantFeed(t, d, short(2, 7, 32, "x"), with(acked(2), func(d *api.Drive) { d.At = 38 }), reject(0), "")
	wantFeed(t, d, short(0, 7, 32, "x"), with(acked(2), func(d *api.Drive) { d.At = 38 }), ready(0), "")
}

// P15.2: reject has all of the window said anew, what it acknowledges not any more, once a tick.
func TestTakeReject(t *testing.T) {
	d := with(running(64, 3, 7, "a", "b", strings.Repeat("c", 64)), func(d *api.Drive) { d.Wants, d.Tries = 4, 2 })
	all := short(7, 3, 32, "a") + short(0, 3, 32, "b") + long(1, 3, strings.Repeat("c", 64))
	marked := with(tookOne(d, 6), func(d *api.Drive) { d.Wait = 3 })
	wantFeed(t, d, reject(6), marked, all, "")
	wantFeed(t, d, reject(6)+reject(6), with(marked, func(d *api.Drive) { d.At = 12 }), all, "")
	wantFeed(t, d, reject(7), with(marked, func(d *api.Drive) { d.Win.Base, d.Win.List, d.Tries = 0, d.Win.List[1:], 0 }), all[38:], "")
	wantFeed(t, d, reject(1), with(marked, func(d *api.Drive) { d.Win.Base, d.Win.List, d.Tries = 2, nil, 0 }), "", "")
	for _, wait := range []int{1, 3} {
		d.Wait = wait
		wantFeed(t, d, reject(6), marked, "", "")
		wantFeed(t, d, reject(7), with(marked, func(d *api.Drive) { d.Win.Base, d.Win.List, d.Tries = 0, d.Win.List[1:], 0 }), "", "")
	}
}

// P15.2: a data packet of every number, for every Room and what is waited for.
func TestTakeData(t *testing.T) {
	for room := 1; room <= 7; room++ {
		for wants := range 8 {
			d := with(running(64, room, 1), func(d *api.Drive) { d.Wants, d.Tries = wants, 5 })
			for k := range 8 {
				number := (wants + k) % 8
				for _, s := range []string{short(number, 3, 32, "ab"), short(number, 3, 4096, "ab"), short(number, 3, 64, ""), long(number, 3, strings.Repeat("l", 128))} {
					f, _, _ := gframe.Read(s)
					want, said, came := tookOne(d, len(s)), ready((wants+7)%8), ""
					if k == 0 {
						want.Wants, said, came = (wants+1)%8, ready(wants), f.Data
					} else if k < room {
						said = reject((wants + 7) % 8)
					}
					wantFeed(t, d, s, want, said, came)
				}
			}
		}
	}
}

// P15.2: reject is said to each packet that is ahead, marked again or not; what comes in order is one piece.
func TestManyData(t *testing.T) {
	d := with(running(64, 3, 1), func(d *api.Drive) { d.Wants = 7 })
	for wait := range 4 {
		d.Wait = wait
		s := short(0, 0, 32, "no") + short(1, 0, 32, "no") + short(7, 0, 32, "one") + long(0, 0, strings.Repeat("2", 32)) + short(0, 0, 32, "no") + short(1, 0, 32, "") + short(2, 0, 32, "four")
		want := with(tookOne(d, len(s)), func(d *api.Drive) { d.Wants = 3 })
		wantFeed(t, d, s, want, reject(6)+reject(6)+ready(7)+ready(0)+ready(0)+ready(1)+ready(2), "one"+strings.Repeat("2", 32)+"four")
	}
}

// P15.2: what waits goes behind all that is said to packets, and says of all that came.
func TestWaitingGoesLast(t *testing.T) {
	d := running(32, 2, 3, "a", "b")
	d.Queue = []api.Piece{{Data: strings.Repeat("c", 40)}, {Data: "d"}}
	s := short(1, 3, 32, "x") + ready(4) + short(2, 4, 32, "y")
	want := with(tookOne(d, len(s)), func(d *api.Drive) {
		d.Wants, d.Win.Base, d.Queue = 3, 5, []api.Piece{{Data: "d"}}
		d.Win.List = []string{strings.Repeat("c", 32), strings.Repeat("c", 8)}
	})
	wantFeed(t, d, s, want, ready(1)+ready(2)+long(5, 2, strings.Repeat("c", 32))+short(6, 2, 32, strings.Repeat("c", 8)), "xy")
	// Also where no packet came, and none of its own is said.
	d = running(32, 3, 3, "a", "b")
	d.Queue = []api.Piece{{Data: "c"}}
	wantFeed(t, d, "", with(d, func(d *api.Drive) { d.Queue, d.Win.List = nil, []string{"a", "b", "c"} }), short(5, 0, 32, "c"), "")
}

// P15.2: Took, At and Buf, wherever the bytes are cut.
func TestPlaces(t *testing.T) {
	s := "xx" + short(1, 0, 32, "one") + "\x10\x10" + ready(0) + "y" + short(2, 0, 32, "two") + "zzz"
	whole := []api.Span{{From: 1002, To: 1040}, {From: 1042, To: 1048}, {From: 1049, To: 1087}}
	for cut := range len(s) + 1 {
		d := with(running(64, 3, 1), func(d *api.Drive) { d.At = 1000 })
		d.Took = []api.Span{{From: 1, To: 2}}
		var took []api.Span
		came := ""
		for _, part := range []string{s[:cut], s[cut:]} {
			var l []api.Piece
			had := d.At + len(d.Buf)
			d, _, l = Feed(d, part)
			took = append(took, d.Took...)
			for _, p := range l {
				came += p.Data
			}
			if d.At+len(d.Buf) != had+len(part) {
				t.Errorf("cut at %d: At %d, Buf %q", cut, d.At, d.Buf)
			}
		}
		if !slices.Equal(took, whole) || came != "onetwo" || d.Buf != "" || d.At != 1000+len(s) || d.Wait != 2 {
			t.Errorf("cut at %d: %v, %q, %s", cut, took, came, show(d))
		}
	}
}

// P15.2: what may be the beginning of a packet stays in Buf, and nothing ahead of it.
func TestBuf(t *testing.T) {
	d := with(running(64, 3, 1), func(d *api.Drive) { d.At = 50 })
	p := short(1, 0, 32, "one")
	for n := range len(p) {
		got, said, l := Feed(d, "junk"+p[:n])
		if got.Took = nil; !same(got, with(d, func(d *api.Drive) { d.At, d.Buf = 54, p[:n] })) || said != "" || len(l) != 0 {
			t.Errorf("%d bytes: %s, %s, %+v", n, show(got), heard(said), l)
		}
		got, _, _ = Feed(d, ready(0)+"\x09\x08"+p[:n])
		if !same(got, with(d, func(d *api.Drive) { d.At, d.Buf, d.Wait, d.Took = 58, p[:n], 2, []api.Span{{From: 50, To: 56}} })) {
			t.Errorf("%d bytes behind a packet: %s", n, show(got))
		}
	}
	// What looked like a packet is passed by, when enough has come to tell.
	turned := []byte(p)
	turned[20] ^= 1
	s := string(turned) + ready(0)
	got, _, _ := Feed(d, s)
	if !slices.Equal(got.Took, []api.Span{{From: 50 + len(p), To: 50 + len(s)}}) || got.Buf != "" || got.At != 50+len(s) || got.Wants != 1 {
		t.Errorf("a damaged packet: %s", show(got))
	}
}

// P15.2: bytes that come in any phase are gone through for packets, also where nothing is done about them.
func TestPlacesInEveryPhase(t *testing.T) {
	for phase := 1; phase <= 5; phase++ {
		d := with(running(64, 3, 1), func(d *api.Drive) { d.Phase, d.Step, d.Buf = phase, 0, "\x10\x09" })
		got, _, _ := Feed(d, control(api.GReady, 0)[2:]+"ab"+ready(0)+"\x10")
		if !slices.Equal(got.Took, []api.Span{{From: 0, To: 6}, {From: 8, To: 14}}) || got.At != 14 || got.Buf != "\x10" || got.Wait != 2 {
			t.Errorf("phase %d: %s", phase, show(got))
		}
	}
}

// P15.3: Buf goes if nothing was taken since the last tick; Wait is 0, in every phase.
func TestTickBuf(t *testing.T) {
	for phase := 1; phase <= 5; phase++ {
		for wait := range 4 {
			d := with(running(64, 3, 1), func(d *api.Drive) { d.Phase, d.Step, d.Buf, d.At, d.Wait = phase, 0, "\x10\x01abc", 10, wait })
			d.Took = []api.Span{{From: 1, To: 2}}
			got, _ := Tick(d)
			buf, at := d.Buf, 10
			if wait < 2 {
				buf, at = "", 15
			}
			if got.Buf != buf || got.At != at || got.Wait != 0 || len(got.Took) != 0 {
				t.Errorf("phase %d, wait %d: %s", phase, wait, show(got))
			}
		}
	}
}

// P15.3: an opening packet, or close, is said twelve times more; then it is Failed, or Closed.
func TestTickTries(t *testing.T) {
	for tries := range 14 {
		for step := range 3 {
			d := with(begun(128, 5), func(d *api.Drive) { d.Step, d.Tries, d.Wait = step, tries, 3 })
			want := with(d, func(d *api.Drive) { d.Tries, d.Wait = tries+1, 0 })
			said := []string{initA(5), initB(2), initC(5)}[step]
			if tries >= 12 {
				want.Phase, said = api.Failed, ""
			}
			wantTick(t, d, want, said)
		}
		for step := -1; step <= 2; step++ {
			d := with(running(64, 3, 6, "a", "b"), func(d *api.Drive) { d.Phase, d.Step, d.Tries = api.Closing, step, tries })
			want := with(d, func(d *api.Drive) { d.Tries = tries + 1 })
			said := closing()
			if tries >= 12 {
				want.Phase, want.Step, said = api.Closed, 0, ""
			}
			wantTick(t, d, want, said)
		}
	}
}

// P15.3: of an end that runs a window that stood a whole tick is said anew.
func TestTickRunning(t *testing.T) {
	all := short(6, 2, 32, "a") + long(7, 2, strings.Repeat("b", 64)) + short(0, 2, 64, strings.Repeat("c", 32))
	for tries := range 14 {
		for step := -1; step <= 7; step++ {
			d := with(running(64, 3, 6, "a", strings.Repeat("b", 64), strings.Repeat("c", 32)), func(d *api.Drive) { d.Step, d.Tries, d.Wants, d.Wait = step, tries, 3, 2 })
			want, said := with(d, func(d *api.Drive) { d.Wait = 0 }), ""
			if step != 6 {
				want.Step = 6
			} else if want.Tries++; tries < 12 {
				said = all
			} else {
				want.Phase = api.Failed
			}
			wantTick(t, d, want, said)
			d.Win.List = nil
			wantTick(t, d, with(d, func(d *api.Drive) { d.Wait, d.Step = 0, -1 }), "")
		}
	}
	for _, phase := range []int{api.Closed, api.Failed} {
		d := with(running(64, 3, 6, "a"), func(d *api.Drive) { d.Phase, d.Step, d.Tries = phase, 6, 13 })
		wantTick(t, d, d, "")
	}
}

// P15.4: what is sent waits while it opens, and goes while it runs; in no other phase, and no empty piece.
func TestSend(t *testing.T) {
	p := api.Piece{Channel: 2, Data: "abc"}
	d := with(begun(64, 3), func(d *api.Drive) { d.Queue, d.Step = []api.Piece{{Data: "x"}}, 2 })
	d.Took = []api.Span{{From: 1, To: 2}}
	bare := with(d, func(d *api.Drive) { d.Took = nil })
	wantSend(t, d, p, with(bare, func(d *api.Drive) { d.Queue = []api.Piece{{Data: "x"}, p} }), "")
	wantSend(t, d, api.Piece{}, bare, "")
	wantSend(t, d, api.Piece{Channel: 1}, bare, "")
	run := running(64, 3, 7, "a")
	wantSend(t, run, p, with(run, func(d *api.Drive) { d.Win.List = []string{"a", "abc"} }), short(0, 0, 32, "abc"))
	wantSend(t, run, api.Piece{Channel: 1}, run, "")
	full := running(64, 1, 7, "a")
	wantSend(t, full, p, with(full, func(d *api.Drive) { d.Queue = []api.Piece{p} }), "")
	for _, phase := range []int{api.Closing, api.Closed, api.Failed} {
		d := with(run, func(d *api.Drive) { d.Phase = phase })
		wantSend(t, d, p, d, "")
	}
	// What waits goes even if nothing else does: the room is there.
	held := with(run, func(d *api.Drive) { d.Queue = []api.Piece{{Data: "w"}} })
	wantSend(t, held, p, with(run, func(d *api.Drive) { d.Win.List = []string{"a", "w", "abc"} }), short(0, 0, 32, "w")+short(1, 0, 32, "abc"))
}

// P15.4: a piece is cut into texts of Size; two pieces share no packet; the rest keeps its channel.
func TestSendCut(t *testing.T) {
	data := strings.Repeat("0123456789abcdef", 9)
	d := with(running(32, 7, 6), func(d *api.Drive) { d.Wants = 0 })
	said := long(6, 7, data[:32]) + long(7, 7, data[32:64]) + long(0, 7, data[64:96]) + long(1, 7, data[96:128]) + short(2, 7, 32, data[128:])
	want := with(d, func(d *api.Drive) {
		d.Win.List = []string{data[:32], data[32:64], data[64:96], data[96:128], data[128:]}
	})
	wantSend(t, d, api.Piece{Data: data}, want, said)
	small := running(32, 2, 6)
	kept := with(small, func(d *api.Drive) {
		d.Win.List, d.Queue = []string{data[:32], data[32:64]}, []api.Piece{{Channel: 5, Data: data[64:]}}
	})
	wantSend(t, small, api.Piece{Channel: 5, Data: data}, kept, long(6, 0, data[:32])+long(7, 0, data[32:64]))
	wantSend(t, kept, api.Piece{Data: "more"}, with(kept, func(d *api.Drive) { d.Queue = []api.Piece{{Channel: 5, Data: data[64:]}, {Data: "more"}} }), "")
	exact := with(small, func(d *api.Drive) { d.Win.List = []string{data[:32], data[32:64]} })
	wantSend(t, small, api.Piece{Data: data[:64]}, exact, long(6, 0, data[:32])+long(7, 0, data[32:64]))
}

// leastAbove: the least size that is above n and at most size, which is above n itself.
func leastAbove(n, size int) int {
	for _, c := range []int{32, 64, 128, 256, 512, 1024, 2048} {
		if c > n && c < size {
			return c
		}
	}
	return size
}

// P15.4: the size of a packet for every length about the sizes, of G and of g.
func TestShortSizes(t *testing.T) {
	for code := range 8 {
		size := 32 << code
		for _, n := range []int{1, 2, 31, 32, 33, 63, 64, 65, 127, 128, 129, 255, 256, 511, 512, 1023, 1024, 2047, 2048, 2049, 4095, 4096} {
			if n > size {
				continue
			}
			data := strings.Repeat("d", n)
			for _, letter := range []int{'g', 'G'} {
				d := with(running(size, 3, 1), func(d *api.Drive) { d.Letter = letter })
				if !Right(d) {
					continue
				}
				want := ""
				switch {
				case n == size:
					want = long(1, 0, data)
				case letter == 'G':
					want = short(1, 0, leastAbove(n, size), data)
				default:
					want = short(1, 0, size, data)
				}
				if _, said := Send(d, api.Piece{Data: data}); said != want {
					t.Errorf("%c of %d, %d bytes: %d said, want %d", letter, size, n, len(said), len(want))
				}
			}
		}
	}
}

// P15.5: what is open begins to close; what is not is as it was.
func TestClose(t *testing.T) {
	for step := range 3 {
		d := with(begun(64, 3), func(d *api.Drive) { d.Step, d.Tries, d.Wait, d.Queue = step, 4, 3, []api.Piece{{Data: "w"}} })
		wantClose(t, d, with(d, func(d *api.Drive) { d.Phase, d.Step, d.Tries = 3, 0, 0 }), closing())
	}
	d := with(running(64, 3, 6, "a", "b"), func(d *api.Drive) { d.Step, d.Tries = 6, 4 })
	d.Took = []api.Span{{From: 1, To: 2}}
	wantClose(t, d, with(d, func(d *api.Drive) { d.Phase, d.Step, d.Tries, d.Took = 3, 0, 0, nil }), closing())
	for _, phase := range []int{api.Closing, api.Closed, api.Failed} {
		d := with(d, func(d *api.Drive) { d.Phase = phase })
		wantClose(t, d, with(d, func(d *api.Drive) { d.Took = nil }), "")
	}
}

// rightDrives: right drives at the edges of what P15.6 allows.
func rightDrives() []api.Drive {
	var l []api.Drive
	for _, d := range []api.Drive{begun(4096, 7), begun(32, 1), running(64, 3, 0), running(64, 3, 7, "a", "b", strings.Repeat("c", 64)), running(4096, 7, 4, texts(7)...)} {
		l = append(l, d)
		for _, change := range []func(*api.Drive){
			func(d *api.Drive) { d.Wants = 0 }, func(d *api.Drive) { d.Wants = 7 },
			func(d *api.Drive) { d.At = 0 }, func(d *api.Drive) { d.At = 1 << 40 },
			func(d *api.Drive) { d.Wait = 0 }, func(d *api.Drive) { d.Wait = 3 },
			func(d *api.Drive) { d.Tries = 0 }, func(d *api.Drive) { d.Tries = 13 },
			func(d *api.Drive) { d.Caller = true },
			func(d *api.Drive) { d.Ahead = []api.IFrame{} },
			func(d *api.Drive) { d.Queue = []api.Piece{{Channel: -9, Data: "x"}, {Data: zeros(5000)}} },
			func(d *api.Drive) { d.Took = []api.Span{{From: -1, To: -5}} },
			func(d *api.Drive) { d.Buf = "any bytes \xff\x10" },
			func(d *api.Drive) { d.Step = 0 }, func(d *api.Drive) { d.Step = 2 },
			func(d *api.Drive) { d.Phase = 3 }, func(d *api.Drive) { d.Phase = 4 }, func(d *api.Drive) { d.Phase = 5 },
			func(d *api.Drive) {
				d.Phase, d.Step, d.Win = 4, math.MinInt, api.Window{Mod: -1, Size: 99, Base: math.MaxInt, List: []string{"", zeros(5000)}}
			},
		} {
			l = append(l, with(d, change))
		}
	}
	run := running(64, 3, 3, "a")
	g := with(begun(64, 3), func(d *api.Drive) { d.Letter = 'g' })
	odd := with(begun(64, 3), func(d *api.Drive) { d.Win = api.Window{Mod: 77, Size: -1, Base: 9, List: []string{}} })
	return append(l, with(run, func(d *api.Drive) { d.Step = -1 }), with(run, func(d *api.Drive) { d.Step = 7 }), g, odd)
}

// wrongDrives: drives that are not right, each by one thing.
func wrongDrives() []api.Drive {
	l := []api.Drive{{}}
	for _, d := range []api.Drive{begun(64, 3), running(64, 3, 7, "a", "b"), with(running(64, 3, 1), func(d *api.Drive) { d.Phase = 3 }), with(begun(64, 3), func(d *api.Drive) { d.Phase = 4 }), with(begun(64, 3), func(d *api.Drive) { d.Phase = 5 })} {
		for _, n := range []int{math.MinInt, -1 << 32, -2, 14, 1<<40 + 1, 1<<40 + 7, math.MaxInt} {
			l = append(l,
				with(d, func(d *api.Drive) { d.Letter = n }), with(d, func(d *api.Drive) { d.Phase = n }), with(d, func(d *api.Drive) { d.Size = n }),
				with(d, func(d *api.Drive) { d.Room = n }), with(d, func(d *api.Drive) { d.Wants = n }),
				with(d, func(d *api.Drive) { d.Wait = n }), with(d, func(d *api.Drive) { d.Tries = n }))
		}
		for _, change := range []func(*api.Drive){
			func(d *api.Drive) { d.Letter = 'i' }, func(d *api.Drive) { d.Letter = 'e' }, func(d *api.Drive) { d.Letter = 0 },
			func(d *api.Drive) { d.Letter, d.Size, d.Win.List = 'g', 128, nil },
			func(d *api.Drive) { d.Size = 0 }, func(d *api.Drive) { d.Size = 65 }, func(d *api.Drive) { d.Size = 8192 },
			func(d *api.Drive) { d.Room, d.Win.Size, d.Win.List = 0, 0, nil }, func(d *api.Drive) { d.Room, d.Win.Size = 8, 8 },
			func(d *api.Drive) { d.Wants = -1 }, func(d *api.Drive) { d.Wants = 8 },
			func(d *api.Drive) { d.At = -1 }, func(d *api.Drive) { d.At = 1<<40 + 1 }, func(d *api.Drive) { d.At = math.MinInt }, func(d *api.Drive) { d.At = math.MaxInt },
			func(d *api.Drive) { d.Wait = -1 }, func(d *api.Drive) { d.Wait = 4 },
			func(d *api.Drive) { d.Tries = -1 },
			func(d *api.Drive) { d.Ahead = []api.IFrame{{}} },
			func(d *api.Drive) { d.Queue = []api.Piece{{}} },
			func(d *api.Drive) { d.Queue = []api.Piece{{Data: "x"}, {Channel: 1}, {Data: "y"}} },
			func(d *api.Drive) { d.Phase = 0 }, func(d *api.Drive) { d.Phase = 6 },
		} {
			l = append(l, with(d, change))
		}
	}
	open, run := begun(64, 3), running(64, 3, 7, "a", "b")
	for _, n := range []int{math.MinInt, -2, 8, math.MaxInt} {
		l = append(l, with(open, func(d *api.Drive) { d.Step = n }), with(run, func(d *api.Drive) { d.Step = n }), with(run, func(d *api.Drive) { d.Win.Base = n }), with(run, func(d *api.Drive) { d.Win.Mod = n + 8 }), with(run, func(d *api.Drive) { d.Win.Size = n }))
	}
	return append(l, with(open, func(d *api.Drive) { d.Step = -1 }), with(open, func(d *api.Drive) { d.Step = 3 }), with(open, func(d *api.Drive) { d.Win = run.Win }), with(open, func(d *api.Drive) { d.Win.List = []string{""} }),
		with(run, func(d *api.Drive) { d.Win = api.Window{} }), with(run, func(d *api.Drive) { d.Win.Mod = 7 }), with(run, func(d *api.Drive) { d.Win.Mod = 9 }), with(run, func(d *api.Drive) { d.Win.Size = 2 }), with(run, func(d *api.Drive) { d.Win.Size = 4 }), with(run, func(d *api.Drive) { d.Room = 4 }), with(run, func(d *api.Drive) { d.Win.Base = -1 }),
		with(run, func(d *api.Drive) { d.Win.List = texts(4) }), with(run, func(d *api.Drive) { d.Win.List = []string{"a", ""} }), with(run, func(d *api.Drive) { d.Win.List = []string{zeros(65)} }), with(run, func(d *api.Drive) { d.Win.List = []string{"a", "b", zeros(65)} }))
}

// P15.6: which drives are right.
func TestRight(t *testing.T) {
	for _, d := range rightDrives() {
		if !Right(d) || !rightAgain(d) {
			t.Errorf("not right: %s", show(d))
		}
	}
	for _, d := range wrongDrives() {
		if Right(d) || rightAgain(d) {
			t.Errorf("right: %s", show(d))
		}
	}
}

// P15.6: every number about those that may be, one field at a time, held against the second writing.
func TestRightAgain(t *testing.T) {
	for phase := 0; phase <= 6; phase++ {
		for _, letter := range []int{'g', 'G', 'i'} {
			base := with(running(64, 3, 7, "a", "b"), func(d *api.Drive) { d.Phase, d.Letter, d.Step = phase, letter, 0 })
			for n := -3; n <= 140; n++ {
				for _, change := range []func(*api.Drive){
					func(d *api.Drive) { d.Size = n }, func(d *api.Drive) { d.Room = n }, func(d *api.Drive) { d.Room, d.Win.Size = n, n }, func(d *api.Drive) { d.Wants = n }, func(d *api.Drive) { d.At = n }, func(d *api.Drive) { d.Wait = n }, func(d *api.Drive) { d.Tries = n }, func(d *api.Drive) { d.Step = n },
					func(d *api.Drive) { d.Win.Mod = n }, func(d *api.Drive) { d.Win.Size = n }, func(d *api.Drive) { d.Win.Base = n }, func(d *api.Drive) { d.Win.List = texts(n) }, func(d *api.Drive) { d.Win.List = []string{zeros(max(n, 0))} },
				} {
					d := with(base, change)
					if Right(d) != rightAgain(d) {
						t.Fatalf("%v: %s", Right(d), show(d))
					}
					d.Win.List = nil
					if Right(d) != rightAgain(d) {
						t.Fatalf("%v: %s", Right(d), show(d))
					}
				}
			}
		}
	}
}

// P15.6: of a drive that is not right each call answers it as it is, and nothing else; Took is empty.
func TestNotRight(t *testing.T) {
	for _, d := range wrongDrives() {
		d.Took = []api.Span{{From: 1, To: 7}}
		want := with(d, func(d *api.Drive) { d.Took = nil })
		for _, s := range []string{"", "x", ready(0), closing(), short(1, 0, 32, "x")} {
			if got, said, l := Feed(d, s); !same(got, want) || said != "" || len(l) != 0 {
				t.Errorf("Feed(%s, %q): %s, %q, %+v", show(d), s, show(got), said, l)
			}
		}
		wantTick(t, d, want, "")
		wantSend(t, d, api.Piece{Data: "x"}, want, "")
		wantClose(t, d, want, "")
	}
}

// R3: what is handed in, and the room behind it, is as it was; what is answered new shares no memory with it.
func TestMemory(t *testing.T) {
	calls := []func(api.Drive) api.Drive{
		func(d api.Drive) api.Drive { d, _ = Tick(d); return d },
		func(d api.Drive) api.Drive { d, _ = Close(d); return d },
		func(d api.Drive) api.Drive { d, _ = Send(d, api.Piece{Data: "new"}); return d },
		func(d api.Drive) api.Drive { d, _, _ = Feed(d, ready(7)); return d },
		func(d api.Drive) api.Drive { d, _, _ = Feed(d, ready(0)+short(1, 0, 32, "x")); return d },
		func(d api.Drive) api.Drive { d, _, _ = Feed(d, reject(6)); return d },
		func(d api.Drive) api.Drive { d, _, _ = Feed(d, initA(3)); return d },
	}
	for _, phase := range []int{api.Opening, api.Running} {
		for i, call := range calls {
			list := []string{"a", "b", "c", "behind", "behind"}
			queue := []api.Piece{{Data: strings.Repeat("q", 70)}, {Data: "r"}, {Data: "behind"}, {Data: "behind"}}
			took := []api.Span{{From: 1, To: 2}, {From: 3, To: 4}, {From: 5, To: 6}}
			lists, queues, tooks := slices.Clone(list), slices.Clone(queue), slices.Clone(took)
			d := running(64, 4, 7, list[:3]...)
			if phase == api.Opening {
				d = begun(64, 4)
			}
			d.Queue, d.Took = queue[:2], took[:1]
			got := call(d)
			if !slices.Equal(list, lists) || !slices.Equal(queue, queues) || !slices.Equal(took, tooks) {
				t.Errorf("call %d: %q, %v, %v", i, list, queue, took)
			}
			if !slices.Equal(got.Queue, queues[:2]) {
				spoil(got.Queue, api.Piece{Data: "spoilt"})
			}
			if !slices.Equal(got.Win.List, lists[:3]) {
				spoil(got.Win.List, "spoilt")
			}
			spoil(got.Took, api.Span{From: -1, To: -1})
			if !slices.Equal(list, lists) || !slices.Equal(queue, queues) || !slices.Equal(took, tooks) {
				t.Errorf("call %d shares memory: %q, %v, %v", i, list, queue, took)
			}
		}
	}
}

// spoil writes x over all of l, and over the room behind it.
func spoil[T any](l []T, x T) {
	full := l[:cap(l)]
	for i := range full {
		full[i] = x
	}
}

// R3: two drives made of one go on apart.
func TestApart(t *testing.T) {
	d, _ := Send(begun(64, 3), api.Piece{Data: "a"})
	d, _ = Send(d, api.Piece{Data: "b"})
	x, _ := Send(d, api.Piece{Data: "x"})
	y, _ := Send(d, api.Piece{Data: "y"})
	if !slices.Equal(x.Queue, []api.Piece{{Data: "a"}, {Data: "b"}, {Data: "x"}}) || !slices.Equal(y.Queue, []api.Piece{{Data: "a"}, {Data: "b"}, {Data: "y"}}) || len(d.Queue) != 2 {
		t.Errorf("%v, %v, %v", d.Queue, x.Queue, y.Queue)
	}
	run := running(64, 7, 1, "a")
	v, _ := Send(run, api.Piece{Data: "v"})
	w, _ := Send(run, api.Piece{Data: "w"})
	if !slices.Equal(v.Win.List, []string{"a", "v"}) || !slices.Equal(w.Win.List, []string{"a", "w"}) {
		t.Errorf("%q, %q", v.Win.List, w.Win.List)
	}
}
