package iproto

import (
	"fmt"
	"math"
	"math/rand/v2"
	"slices"
	"strings"
	"testing"

	"postchaise/api"
	"postchaise/iframe"
)

func packet(f api.IFrame) string {
	s, e := iframe.Write(f)
	if e != api.OK {
		panic(fmt.Sprint(f, e))
	}
	return s
}

// byCaller: the packets in s as the end that calls says them.
func byCaller(s string) string {
	out := ""
	for s != "" {
		f, n, e := iframe.Read(s)
		if e != api.OK {
			panic(fmt.Sprint(s, e))
		}
		f.Caller = true
		out += packet(f)
		s = s[n:]
	}
	return out
}

// The packets that the called end says; drives in these tests are of the end that calls, unless byCaller stands about what they hear.
func sync(size, room, ack int) string {
	return packet(api.IFrame{Kind: api.ISync, Ack: ack, Data: string([]byte{byte(size / 256), byte(size % 256), byte(room)})})
}
func ack(number int) string        { return packet(api.IFrame{Kind: api.IAck, Ack: number}) }
func nak(number, ack int) string   { return packet(api.IFrame{Kind: api.INak, Number: number, Ack: ack}) }
func closing(ack int) string       { return packet(api.IFrame{Kind: api.IClose, Ack: ack}) }
func early(number int) api.IFrame  { return heldOn(number, number%3) }
func zeros(n int) string           { return strings.Repeat("\x00", n) }
func show(d api.Drive) string      { return fmt.Sprintf("%+v", d) }
func piece(n int, s string) string { return string(byte(n)) + s }

func data(number, ack, channel int, s string) string {
	return packet(api.IFrame{Kind: api.IData, Number: number, Ack: ack, Channel: channel, Data: s})
}

// heldOn: a packet that came early, from the called end, as it is kept.
func heldOn(number, channel int) api.IFrame {
	return api.IFrame{Number: number, Channel: channel, Data: fmt.Sprint("early", number)}
}

// texts: n texts of a window, no two of them alike.
func texts(n int) []string {
	var l []string
	for i := range n {
		l = append(l, piece(i%8, fmt.Sprint("t", i)))
	}
	return l
}

// randomBytes: n bytes that are the same in every run; many of them are 7, or small.
func randomBytes(r *rand.Rand, n int) string {
	b := make([]byte, n)
	for i := range b {
		b[i] = byte(r.IntN(256))
		if r.IntN(5) == 0 {
			b[i] = 7
		} else if r.IntN(4) == 0 {
			b[i] = byte(r.IntN(10))
		}
	}
	return string(b)
}

// heard: the packets in s as a failing test tells them.
func heard(s string) string {
	out := ""
	for {
		f, x, ok := iframe.Scan(s)
		if !ok {
			return fmt.Sprintf("%s%q", out, s)
		}
		out += fmt.Sprintf("%q%+v ", s[:x.From], f)
		s = s[x.To:]
	}
}

// same: whether all fields are alike; nil and empty lists are (R3).
func same(a, b api.Drive) bool {
	v, w := a.Win, b.Win
	if v.Mod != w.Mod || v.Size != w.Size || v.Base != w.Base || !slices.Equal(v.List, w.List) {
		return false
	}
	if !slices.Equal(a.Ahead, b.Ahead) || !slices.Equal(a.Queue, b.Queue) || !slices.Equal(a.Took, b.Took) {
		return false
	}
	plain := func(d api.Drive) string {
		d.Win, d.Ahead, d.Queue, d.Took = api.Window{}, nil, nil, nil
		return fmt.Sprintf("%#v", d)
	}
	return plain(a) == plain(b)
}

// begun: what Begin makes at the end that calls.
func begun(size, room int) api.Drive {
	return api.Drive{Letter: 'i', Phase: api.Opening, Caller: true, Size: size, Room: room, Wants: 1}
}

// running: a drive that is open, and waits for packet 1, with texts from that number on.
func running(size, room, base int, l ...string) api.Drive {
	d := begun(size, room)
	d.Phase, d.Step = api.Running, -1
	d.Win = api.Window{Mod: 32, Size: room, Base: base, List: l}
	return d
}

// with: d, changed.
func with(d api.Drive, change func(*api.Drive)) api.Drive {
	change(&d)
	return d
}

// wantFeed: Took is left to the tests that are about it. What is said is written as the called end would say it.
func wantFeed(t *testing.T, d api.Drive, s string, want api.Drive, said string, came ...api.Piece) {
	t.Helper()
	got, out, l := Feed(d, s)
	got.Took, want.Took = nil, nil
	if said = byCaller(said); !same(got, want) || out != said {
		t.Errorf("Feed(%s, %s):\n%s, %s, want\n%s, %s", show(d), heard(s), show(got), heard(out), show(want), heard(said))
	}
	if !slices.Equal(l, came) {
		t.Errorf("Feed(%s, %s): %+v came, want %+v", show(d), heard(s), l, came)
	}
}

func wantTick(t *testing.T, d, want api.Drive, said string) {
	t.Helper()
	said = byCaller(said)
	if got, out := Tick(d); !same(got, want) || out != said {
		t.Errorf("Tick(%s):\n%s, %s, want\n%s, %s", show(d), show(got), heard(out), show(want), heard(said))
	}
}

func wantSend(t *testing.T, d api.Drive, p api.Piece, want api.Drive, said string) {
	t.Helper()
	said = byCaller(said)
	if got, out := Send(d, p); !same(got, want) || out != said {
		t.Errorf("Send(%s, %+v):\n%s, %s, want\n%s, %s", show(d), p, show(got), heard(out), show(want), heard(said))
	}
}

func wantClose(t *testing.T, d, want api.Drive, said string) {
	t.Helper()
	said = byCaller(said)
	if got, out := Close(d); !same(got, want) || out != said {
		t.Errorf("Close(%s):\n%s, %s, want\n%s, %s", show(d), show(got), heard(out), show(want), heard(said))
	}
}

// tookOne: d behind n bytes of packets, as far as every packet changes it.
func tookOne(d api.Drive, n int) api.Drive {
	d.Wait |= 2
	d.At += n
	return d
}

// P16.1: the sizes and rooms that may be, and those beside them.
func TestBegin(t *testing.T) {
	sizes := []int{math.MinInt, -4096, -1, 0, 1, 2, 31, 32, 50, 100, 255, 256, 257, 4094, 4095, 4096, 4097, 65536, 1 << 40, math.MaxInt}
	rooms := []int{math.MinInt, -16, -1, 0, 1, 2, 7, 8, 15, 16, 17, 31, 32, 256, 257, math.MaxInt}
	good := 0
	for _, size := range sizes {
		for _, room := range rooms {
			for _, caller := range []bool{false, true} {
				d, s, e := Begin(caller, size, room)
				if 1 <= room && room <= 16 && 0 < size && size < 4096 {
					good++
					want := api.Drive{Letter: 'i', Phase: 1, Caller: caller, Size: size, Room: room, Wants: 1}
					says := sync(size, room, 0)
					if caller {
						says = byCaller(says)
					}
					if !same(d, want) || s != says || e != api.OK || !Right(d) {
						t.Errorf("Begin(%v, %d, %d): %s, %s, %d", caller, size, room, show(d), heard(s), e)
					}
				} else if !same(d, api.Drive{}) || s != "" || e != api.ErrArg {
					t.Errorf("Begin(%v, %d, %d): %s, %s, %d", caller, size, room, show(d), heard(s), e)
				}
			}
		}
	}
	if good != 2*11*6 {
		t.Errorf("%d drives", good)
	}
}

// P16.1: what is said first, byte by byte: number, ack and channel 0, kind 1 of the caller, three bytes, their sum behind them.
func TestBeginBytes(t *testing.T) {
	_, s, _ := Begin(true, 300, 16)
	if want := "\x07\x00\x00\x30\x03\x33\x01\x2c\x10"; len(s) != 13 || s[:9] != want {
		t.Errorf("%q, want %q", s, want)
	}
	_, s, _ = Begin(false, 4095, 1)
	if want := "\x07\x00\x00\x20\x03\x23\x0f\xff\x01"; len(s) != 13 || s[:9] != want {
		t.Errorf("%q, want %q", s, want)
	}
}

// P16.2: sync opens, with the lesser size and room; what waits goes at once.
func TestOpens(t *testing.T) {
	d := with(begun(100, 3), func(d *api.Drive) { d.Tries, d.Step = 4, 0 })
	for _, c := range [][4]int{{50, 16, 50, 3}, {100, 3, 100, 3}, {101, 4, 100, 3}, {4095, 255, 100, 3}, {65535, 1, 100, 1}, {1, 2, 1, 2}, {256, 1, 100, 1}, {256, 2, 100, 2}} {
		want := with(tookOne(d, 13), func(d *api.Drive) {
			d.Phase, d.Step, d.Tries, d.Size, d.Room = 2, -1, 0, c[2], c[3]
			d.Win = api.Window{Mod: 32, Size: c[3], Base: 1}
		})
		wantFeed(t, d, sync(c[0], c[1], 0), want, "")
		// What number and ack it has says nothing.
		wantFeed(t, d, packet(api.IFrame{Kind: api.ISync, Number: 9, Ack: 30, Channel: 5, Data: sync(c[0], c[1], 0)[6:9]}), want, "")
	}
	d.Queue = []api.Piece{{Channel: 1, Data: "abcdef"}, {Data: "x"}}
	want := with(tookOne(d, 13), func(d *api.Drive) {
		d.Phase, d.Step, d.Tries, d.Size, d.Room, d.Queue = 2, -1, 0, 4, 2, []api.Piece{{Data: "x"}}
		d.Win = api.Window{Mod: 32, Size: 2, Base: 1, List: []string{"\x01abcd", "\x01ef"}}
	})
	wantFeed(t, d, sync(4, 2, 0), want, data(1, 0, 1, "abcd")+data(2, 0, 1, "ef"))
	// Wants, and what else is not named, stays.
	d = with(begun(9, 9), func(d *api.Drive) { d.Wants, d.Wait, d.Win = 7, 1, api.Window{Mod: 5, Size: 6, Base: 7} })
	wantFeed(t, d, sync(9, 9, 0), with(tookOne(d, 13), func(d *api.Drive) { d.Phase, d.Step, d.Win = 2, -1, api.Window{Mod: 32, Size: 9, Base: 1} }), "")
}

// P16.2: a sync of a size or a room of 0, or with another count of bytes, opens nothing; other packets do not either.
func TestOpensNot(t *testing.T) {
	d := with(begun(100, 3), func(d *api.Drive) { d.Tries, d.Queue = 4, []api.Piece{{Data: "q"}} })
	for _, s := range []string{"\x00\x00\x00", "\x00\x00\x01", "\x00\x01\x00", "\x01\x00\x00", "\xff\xff\x00", "", "\x01", "\x01\x01", "\x01\x01\x01\x01", zeros(300)} {
		p := packet(api.IFrame{Kind: api.ISync, Data: s})
		wantFeed(t, d, p, tookOne(d, len(p)), "")
	}
	for _, p := range []string{ack(0), ack(1), nak(1, 0), data(1, 0, 0, "x"), data(2, 0, 0, "x"), data(1, 0, 0, "")} {
		wantFeed(t, d, p, tookOne(d, len(p)), "")
	}
	p := packet(api.IFrame{Kind: api.ISync, Data: "\x01\x00\x01"})
	if got, _, _ := Feed(d, p); got.Phase != 2 || got.Size != 100 || got.Room != 1 {
		t.Errorf("size 256: %s", show(got))
	}
}

// P16.2: an end that runs answers sync, of three bytes whatever they are, once a tick; none that closes or has ended does.
func TestSyncLate(t *testing.T) {
	for wants := range 32 {
		d := with(running(300, 3, 5, texts(2)...), func(d *api.Drive) { d.Wants, d.Tries, d.Step = wants, 4, 5 })
		marked := with(tookOne(d, 13), func(d *api.Drive) { d.Wait = 3 })
		for _, s := range []string{sync(1, 1, 5), sync(0, 0, 6), sync(65535, 255, 0)} {
			wantFeed(t, d, s, marked, sync(300, 3, (wants+31)%32))
			wantFeed(t, d, s+s, with(marked, func(d *api.Drive) { d.At = 26 }), sync(300, 3, (wants+31)%32))
			for _, wait := range []int{1, 3} {
				wantFeed(t, with(d, func(d *api.Drive) { d.Wait = wait }), s, marked, "")
			}
			wantFeed(t, with(d, func(d *api.Drive) { d.Wait = 2 }), s, marked, sync(300, 3, (wants+31)%32))
		}
		for _, s := range []string{"", "\x01", "\x01\x01", "\x01\x01\x01\x01"} {
			p := packet(api.IFrame{Kind: api.ISync, Ack: 5, Data: s})
			wantFeed(t, d, p, tookOne(d, len(p)), "")
		}
	}
	for _, phase := range []int{api.Closing, api.Closed, api.Failed} {
		for step := -1; step <= 3; step++ {
			d := with(running(64, 3, 5, texts(2)...), func(d *api.Drive) { d.Phase, d.Step = phase, step })
			wantFeed(t, d, sync(1, 1, 5), tookOne(d, 13), "")
		}
	}
}

// P16.2: close, in every phase.
func TestTakeClose(t *testing.T) {
	full := running(64, 3, 5, texts(3)...)
	full.Queue = []api.Piece{{Data: "waits"}}
	full.Ahead = []api.IFrame{early(12)}
	full.Tries, full.Wants = 3, 10
	d := with(begun(64, 3), func(d *api.Drive) { d.Step, d.Tries = 7, 3 })
	closed := func(d *api.Drive) { d.Phase, d.Step = 4, 1 }
	wantFeed(t, d, closing(0), with(tookOne(d, 6), closed), closing(0))
	wantFeed(t, full, closing(0), with(tookOne(full, 6), closed), closing(9))
	for step := -1; step <= 3; step++ {
		d := with(full, func(d *api.Drive) { d.Phase, d.Step = api.Closing, step })
		wantFeed(t, d, closing(0), with(tookOne(d, 6), func(d *api.Drive) { d.Phase, d.Step = 4, 0 }), "")
		d.Phase = api.Closed
		said := ""
		if step == 1 {
			said = closing(9)
		}
		wantFeed(t, d, closing(0), tookOne(d, 6), said)
		d.Phase = api.Failed
		wantFeed(t, d, closing(0), tookOne(d, 6), "")
	}
	// Its Ack says nothing: what is in the window is not acknowledged by it; nor do its number and bytes.
	wantFeed(t, full, closing(6), with(tookOne(full, 6), closed), closing(9))
	odd := packet(api.IFrame{Kind: api.IClose, Number: 10, Ack: 6, Channel: 3, Data: "bytes"})
	wantFeed(t, full, odd, with(tookOne(full, len(odd)), closed), closing(9))
	// Each one that is heard is answered.
	wantFeed(t, full, closing(0)+closing(0)+closing(0), with(tookOne(full, 18), closed), closing(9)+closing(9)+closing(9))
}

// P16.2: any other packet has an end that closes say so once more; one that is closed or has failed says nothing.
func TestOtherLate(t *testing.T) {
	d := with(running(64, 3, 5, texts(2)...), func(d *api.Drive) { d.Ahead = []api.IFrame{early(3)} })
	for _, s := range []string{ack(5), nak(5, 5), nak(6, 31), data(1, 5, 0, "x"), data(1, 5, 0, ""), data(2, 5, 1, "x"), data(20, 5, 1, "x")} {
		d.Phase = api.Closing
		wantFeed(t, d, s, tookOne(d, len(s)), closing(0))
		d.Phase, d.Step = api.Closed, 1
		wantFeed(t, d, s, tookOne(d, len(s)), "")
		d.Phase = api.Failed
		wantFeed(t, d, s, tookOne(d, len(s)), "")
	}
}

// P16.2: every packet that runs but sync and close acknowledges, one without bytes too; Tries is 0 only if a text went.
func TestAcknowledge(t *testing.T) {
	d := with(running(64, 4, 30, texts(4)...), func(d *api.Drive) { d.Tries, d.Step = 7, 30 })
	acked := func(n, bytes int) api.Drive {
		return with(tookOne(d, bytes), func(d *api.Drive) { d.Win.Base, d.Win.List, d.Tries = (30+n)%32, d.Win.List[n:], 0 })
	}
	for number := range 32 {
		n := (number-30)&31 + 1
		for _, s := range []string{ack(number), nak(20, number), data(1, number, 0, "")} {
			want := tookOne(d, 6)
			if n <= 4 {
				want = acked(n, 6)
			}
			wantFeed(t, d, s, want, "")
		}
	}
	wantFeed(t, d, data(1, 31, 2, "x"), with(acked(2, 11), func(d *api.Drive) { d.Wants = 2 }), ack(1), api.Piece{Channel: 2, Data: "x"})
	wantFeed(t, d, data(31, 31, 2, "x"), acked(2, 11), ack(0))
	wantFeed(t, d, data(3, 31, 2, "x"), with(acked(2, 11), func(d *api.Drive) {
		d.Wait, d.Ahead = 3, []api.IFrame{{Number: 3, Ack: 31, Channel: 2, Data: "x"}}
	}), nak(1, 0))
	// An ack of another number than 0, with a channel and with bytes, is an ack.
	odd := packet(api.IFrame{Kind: api.IAck, Number: 1, Ack: 31, Channel: 2, Data: "x"})
	wantFeed(t, d, odd, acked(2, len(odd)), "")
}

// P16.2: nak has the text of its number said anew, each time, if the window has it still.
func TestTakeNak(t *testing.T) {
	l := []string{piece(0, "a"), piece(7, strings.Repeat("b", 64)), piece(3, "c")}
	says := []string{data(30, 3, 0, "a"), data(31, 3, 7, strings.Repeat("b", 64)), data(0, 3, 3, "c")}
	for wait := range 4 {
		d := with(running(64, 3, 30, l...), func(d *api.Drive) { d.Wants, d.Tries, d.Wait = 4, 2, wait })
		for number := range 32 {
			said := ""
			if at := (number - 30) & 31; at < 3 {
				said = says[at]
			}
			wantFeed(t, d, nak(number, 29), tookOne(d, 6), said)
			wantFeed(t, d, nak(number, 29)+nak(number, 20), tookOne(d, 12), said+said)
		}
		one := with(tookOne(d, 6), func(d *api.Drive) { d.Win.Base, d.Win.List, d.Tries = 31, l[1:], 0 })
		wantFeed(t, d, nak(31, 30), one, says[1])
		wantFeed(t, d, nak(0, 30), one, says[2])
		wantFeed(t, d, nak(30, 30), one, "")
	}
}

// P16.2: a data packet of every number, whatever is waited for.
func TestTakeData(t *testing.T) {
	for _, room := range []int{1, 3, 16} {
		for wants := range 32 {
			for wait := range 4 {
				d := with(running(8, room, 1), func(d *api.Drive) { d.Wants, d.Tries, d.Wait = wants, 5, wait })
				for k := range 32 {
					number, last := (wants+k)%32, (wants+31)%32
					for _, body := range []string{"ab", strings.Repeat("l", 128), zeros(4095)} {
						s := data(number, 3, k%8, body)
						want := tookOne(d, len(s))
						switch {
						case k == 0:
							want.Wants = (wants + 1) % 32
							wantFeed(t, d, s, want, ack(wants), api.Piece{Channel: 0, Data: body})
						case k > 15:
							wantFeed(t, d, s, want, ack(last))
						case wait%2 == 1:
							want.Ahead = []api.IFrame{{Number: number, Ack: 3, Channel: k % 8, Data: body}}
							wantFeed(t, d, s, want, "")
						default:
							want.Wait = 3
							want.Ahead = []api.IFrame{{Number: number, Ack: 3, Channel: k % 8, Data: body}}
							wantFeed(t, d, s, want, nak(wants, last))
						}
					}
					wantFeed(t, d, data(number, 3, k%8, ""), tookOne(d, 6), "")
				}
			}
		}
	}
}

// P16.2: what comes early stands in Ahead by its number, in whatever order it came, each number once: the one that came first.
func TestKeep(t *testing.T) {
	r := rand.New(rand.NewPCG(16, 2))
	for wants := range 32 {
		for range 20 {
			d := with(running(8, 16, 1), func(d *api.Drive) { d.Wants = wants })
			s := ""
			kept := map[int]api.IFrame{}
			for range 1 + r.IntN(25) {
				k := 1 + r.IntN(15)
				f := api.IFrame{Number: (wants + k) % 32, Ack: 20 + r.IntN(12), Channel: r.IntN(8), Data: randomBytes(r, 1+r.IntN(9))}
				s += packet(f)
				if _, there := kept[k]; !there {
					kept[k] = f
				}
			}
			want := with(tookOne(d, len(s)), func(d *api.Drive) { d.Wait = 3 })
			for k := 1; k <= 15; k++ {
				if f, there := kept[k]; there {
					want.Ahead = append(want.Ahead, f)
				}
			}
			wantFeed(t, d, s, want, nak(wants, (wants+31)%32))
		}
	}
}

// P16.2: with the one that was waited for all of Ahead comes that follows it, by one ack; the others stay.
func TestAheadComes(t *testing.T) {
	for wants := range 32 {
		number := func(k int) int { return (wants + k) % 32 }
		for gap := 1; gap <= 15; gap++ {
			d := with(running(8, 3, 1), func(d *api.Drive) { d.Wants, d.Wait = wants, 1 })
			came := []api.Piece{{Channel: 5, Data: "now"}}
			var rest []api.IFrame
			for k := 1; k <= 15; k++ {
				if k == gap {
					continue
				}
				f := heldOn(number(k), k%2)
				d.Ahead = append(d.Ahead, f)
				if k < gap {
					came = append(came, api.Piece{Channel: k % 2, Data: f.Data})
				} else {
					rest = append(rest, f)
				}
			}
			s := data(wants, 3, 5, "now")
			want := with(tookOne(d, len(s)), func(d *api.Drive) { d.Wants, d.Ahead = number(gap), rest })
			wantFeed(t, d, s, want, ack(number(gap-1)), came...)
		}
	}
}

// P16.2: neighbours of one channel are one piece, wherever they came from; others are not.
func TestJoined(t *testing.T) {
	d := with(running(8, 3, 1), func(d *api.Drive) { d.Wants = 30 })
	d.Ahead = []api.IFrame{{Number: 31, Channel: 1, Data: "b"}, {Number: 0, Channel: 1, Data: "c"}, {Number: 1, Data: "d"}}
	s := data(30, 0, 1, "a") + data(2, 0, 0, "e") + data(3, 0, 2, "f") + data(4, 0, 0, "g") + data(5, 0, 0, "h")
	want := with(tookOne(d, len(s)), func(d *api.Drive) { d.Wants, d.Ahead = 6, nil })
	wantFeed(t, d, s, want, ack(1)+ack(2)+ack(3)+ack(4)+ack(5), []api.Piece{{Channel: 1, Data: "abc"}, {Data: "de"}, {Channel: 2, Data: "f"}, {Data: "gh"}}...)
}

// The chapter's example: packet 2 ahead of 1: nak 1; then 1: both come, in order.
func TestEarly(t *testing.T) {
	d := running(50, 3, 1)
	s := data(2, 0, 1, "two")
	held := with(tookOne(d, len(s)), func(d *api.Drive) { d.Wait, d.Ahead = 3, []api.IFrame{{Number: 2, Channel: 1, Data: "two"}} })
	wantFeed(t, d, s, held, nak(1, 0))
	one := data(1, 0, 0, "one")
	wantFeed(t, held, one, with(tookOne(held, len(one)), func(d *api.Drive) { d.Wants, d.Ahead = 3, nil }), ack(2), api.Piece{Data: "one"}, api.Piece{Channel: 1, Data: "two"})
}

// P16.2: a packet of the drive's own Caller is nobody's, in every phase: its places are told, and nothing else is done.
func TestNobodys(t *testing.T) {
	for phase := 1; phase <= 5; phase++ {
		for wait := range 4 {
			d := with(running(64, 3, 5, texts(2)...), func(d *api.Drive) { d.Phase, d.Step, d.Wait, d.Tries = phase, 1, wait, 5 })
			if phase == api.Opening {
				d.Win.List = nil
			}
			for _, s := range []string{sync(1, 1, 5), closing(5), ack(5), nak(5, 31), data(1, 5, 0, "x"), data(2, 5, 0, "x"), data(31, 5, 0, "x")} {
				own := byCaller(s)
				wantFeed(t, d, "ab"+own, with(d, func(d *api.Drive) { d.At = 2 + len(own) }), "")
				got, _, _ := Feed(d, "ab"+own)
				if !slices.Equal(got.Took, []api.Span{{From: 2, To: 2 + len(own)}}) {
					t.Errorf("%s: %v", heard(s), got.Took)
				}
				called := with(d, func(d *api.Drive) { d.Caller = false })
				got, said, l := Feed(called, s)
				if got.Took = nil; !same(got, with(called, func(d *api.Drive) { d.At = len(s) })) || said != "" || len(l) != 0 {
					t.Errorf("%s: %s, %s, %+v", heard(s), show(got), heard(said), l)
				}
			}
		}
	}
}

// P16.2: the called end hears the one that calls, and says all packets as its own.
func TestCalled(t *testing.T) {
	d := with(begun(64, 3), func(d *api.Drive) { d.Caller = false })
	run := with(running(64, 3, 1, texts(1)...), func(d *api.Drive) { d.Caller = false })
	for _, c := range []struct {
		d       api.Drive
		s, said string
	}{
		{d, sync(9, 9, 0), ""},
		{d, closing(0), closing(0)},
		{run, sync(9, 9, 0), sync(64, 3, 0)},
		{run, nak(1, 0), data(1, 0, 0, "t0")},
		{run, data(1, 0, 0, "x"), ack(1)},
		{run, data(2, 0, 0, "x"), nak(1, 0)},
		{run, closing(0), closing(0)},
	} {
		got, said, _ := Feed(c.d, byCaller(c.s))
		if said != c.said || got.Wait < 2 {
			t.Errorf("%s: %s, %s", heard(c.s), show(got), heard(said))
		}
	}
	if _, said := Tick(d); said != sync(64, 3, 0) {
		t.Errorf("tick: %s", heard(said))
	}
	if _, said := Close(run); said != closing(0) {
		t.Errorf("close: %s", heard(said))
	}
	if _, said := Send(run, api.Piece{Channel: 4, Data: "s"}); said != data(2, 0, 4, "s") {
		t.Errorf("send: %s", heard(said))
	}
}

// P16.2: what waits goes behind all that is said to packets, and says of all that came.
func TestWaitingGoesLast(t *testing.T) {
	d := running(32, 2, 3, texts(2)...)
	d.Queue = []api.Piece{{Channel: 6, Data: strings.Repeat("c", 40)}, {Data: "d"}}
	s := data(1, 3, 0, "x") + ack(4) + data(2, 4, 0, "y")
	want := with(tookOne(d, len(s)), func(d *api.Drive) {
		d.Wants, d.Win.Base, d.Queue = 3, 5, []api.Piece{{Data: "d"}}
		d.Win.List = []string{piece(6, strings.Repeat("c", 32)), piece(6, strings.Repeat("c", 8))}
	})
	wantFeed(t, d, s, want, ack(1)+ack(2)+data(5, 2, 6, strings.Repeat("c", 32))+data(6, 2, 6, strings.Repeat("c", 8)), api.Piece{Data: "xy"})
	// Also where no packet came, and none of its own is said.
	d = running(32, 3, 3, texts(2)...)
	d.Queue = []api.Piece{{Data: "c"}}
	wantFeed(t, d, "", with(d, func(d *api.Drive) { d.Queue, d.Win.List = nil, append(texts(2), piece(0, "c")) }), data(5, 0, 0, "c"))
}

// P16.2: Took, At and Buf, wherever the bytes are cut.
func TestPlaces(t *testing.T) {
	s := "xx" + data(1, 0, 0, "one") + "\x07\x07" + ack(0) + "y" + byCaller(ack(0)) + data(2, 0, 0, "two") + "zzz"
	whole := []api.Span{{From: 1002, To: 1015}, {From: 1017, To: 1023}, {From: 1024, To: 1030}, {From: 1030, To: 1043}}
	for cut := range len(s) + 1 {
		d := with(running(64, 3, 1), func(d *api.Drive) { d.At = 1000 })
		d.Took = []api.Span{{From: 1, To: 2}}
		var took []api.Span
		came := ""
		for _, part := range []string{s[:cut], s[cut:]} {
			var l []api.Piece
			had := d.At + len(d.Buf)
			d, _, l = Feed(d, part)
			took = append(took, d.Took...)
			for _, p := range l {
				came += p.Data
			}
			if d.At+len(d.Buf) != had+len(part) {
				t.Errorf("cut at %d: At %d, Buf %q", cut, d.At, d.Buf)
			}
		}
		if !slices.Equal(took, whole) || came != "onetwo" || d.Buf != "" || d.At != 1000+len(s) || d.Wait != 2 {
			t.Errorf("cut at %d: %v, %q, %s", cut, took, came, show(d))
		}
	}
}

// P16.2: what may be the beginning of a packet stays in Buf, and nothing ahead of it.
func TestBuf(t *testing.T) {
	d := with(running(64, 3, 1), func(d *api.Drive) { d.At = 50 })
	p := data(1, 0, 0, "one")
	for n := range len(p) {
		got, said, l := Feed(d, "junk"+p[:n])
		if got.Took = nil; !same(got, with(d, func(d *api.Drive) { d.At, d.Buf = 54, p[:n] })) || said != "" || len(l) != 0 {
			t.Errorf("%d bytes: %s, %s, %+v", n, show(got), heard(said), l)
		}
		got, _, _ = Feed(d, ack(0)+"\x09\x08"+p[:n])
		if !same(got, with(d, func(d *api.Drive) { d.At, d.Buf, d.Wait, d.Took = 58, p[:n], 2, []api.Span{{From: 50, To: 56}} })) {
			t.Errorf("%d bytes behind a packet: %s", n, show(got))
		}
	}
	// What looked like a packet is passed by, when enough has come to tell.
	turned := []byte(p)
	turned[7] ^= 1
	s := string(turned) + ack(0)
	got, _, _ := Feed(d, s)
	if !slices.Equal(got.Took, []api.Span{{From: 50 + len(p), To: 50 + len(s)}}) || got.Buf != "" || got.At != 50+len(s) || got.Wants != 1 {
		t.Errorf("a damaged packet: %s", show(got))
	}
}

// P16.2: bytes that come in any phase are gone through for packets, also where nothing is done about them.
func TestPlacesInEveryPhase(t *testing.T) {
	for phase := 1; phase <= 5; phase++ {
		d := with(running(64, 3, 1), func(d *api.Drive) { d.Phase, d.Step, d.Buf = phase, 0, "\x07\x00" })
		got, _, _ := Feed(d, ack(0)[2:]+"ab"+ack(0)+"\x07")
		if !slices.Equal(got.Took, []api.Span{{From: 0, To: 6}, {From: 8, To: 14}}) || got.At != 14 || got.Buf != "\x07" || got.Wait != 2 {
			t.Errorf("phase %d: %s", phase, show(got))
		}
	}
}

// P16.2, P16.3: At is as many more as bytes are cut off, beyond MaxNumber too; P16.6: there a drive is not right any more, and answered as it is.
func TestLastPlace(t *testing.T) {
	for _, left := range []int{0, 1, 5, 6, 7, 12, 13, 14} {
		d := with(running(64, 3, 1), func(d *api.Drive) { d.At = api.MaxNumber - left })
		got, _, _ := Feed(d, ack(0)+"x"+ack(0))
		took := []api.Span{{From: d.At, To: d.At + 6}, {From: d.At + 7, To: d.At + 13}}
		if got.At != api.MaxNumber-left+13 || Right(got) != (left >= 13) || !slices.Equal(got.Took, took) {
			t.Errorf("%d places left: %s", left, show(got))
		}
		if got.Took = nil; left < 13 {
			wantFeed(t, got, data(1, 0, 0, "x"), got, "")
		}
		got, _, _ = Feed(d, "abc")
		if got.At != api.MaxNumber-left+3 || Right(got) != (left >= 3) || got.Buf != "" {
			t.Errorf("%d places left, no packet: %s", left, show(got))
		}
		d.Buf = "\x07\x01\x02"
		if got, _ := Tick(d); got.At != api.MaxNumber-left+3 || got.Buf != "" || Right(got) != (left >= 3) {
			t.Errorf("%d places left, a tick: %s", left, show(got))
		}
	}
}

// P16.3: Buf goes if nothing was taken since the last tick; Wait is 0, in every phase.
func TestTickBuf(t *testing.T) {
	for phase := 1; phase <= 5; phase++ {
		for wait := range 4 {
			d := with(running(64, 3, 1), func(d *api.Drive) { d.Phase, d.Step, d.Buf, d.At, d.Wait = phase, 0, "\x07\x01abc", 10, wait })
			d.Took = []api.Span{{From: 1, To: 2}}
			got, _ := Tick(d)
			buf, at := d.Buf, 10
			if wait < 2 {
				buf, at = "", 15
			}
			if got.Buf != buf || got.At != at || got.Wait != 0 || len(got.Took) != 0 {
				t.Errorf("phase %d, wait %d: %s", phase, wait, show(got))
			}
		}
	}
}

// P16.3: sync, or close, is said twelve times more; then it is Failed, or Closed.
func TestTickTries(t *testing.T) {
	for tries := range 14 {
		for _, step := range []int{math.MinInt, -1, 0, 1, 2, math.MaxInt} {
			d := with(begun(300, 5), func(d *api.Drive) { d.Step, d.Tries, d.Wait, d.Wants = step, tries, 3, 0 })
			want := with(d, func(d *api.Drive) { d.Tries, d.Wait = tries+1, 0 })
			said := sync(300, 5, 31)
			if tries >= 12 {
				want.Phase, said = api.Failed, ""
			}
			wantTick(t, d, want, said)
			d = with(running(64, 3, 6, texts(2)...), func(d *api.Drive) { d.Phase, d.Step, d.Tries, d.Wants = api.Closing, step, tries, 9 })
			want = with(d, func(d *api.Drive) { d.Tries = tries + 1 })
			said = closing(8)
			if tries >= 12 {
				want.Phase, want.Step, said = api.Closed, 0, ""
			}
			wantTick(t, d, want, said)
		}
	}
}

// P16.3: of an end that runs a window that stood a whole tick is said anew.
func TestTickRunning(t *testing.T) {
	l := []string{piece(0, "a"), piece(7, strings.Repeat("b", 64)), piece(1, strings.Repeat("c", 32))}
	all := data(30, 2, 0, "a") + data(31, 2, 7, strings.Repeat("b", 64)) + data(0, 2, 1, strings.Repeat("c", 32))
	for tries := range 14 {
		for step := -1; step <= 31; step++ {
			d := with(running(64, 3, 30, l...), func(d *api.Drive) {
				d.Step, d.Tries, d.Wants, d.Wait, d.Ahead = step, tries, 3, 2, []api.IFrame{early(5)}
			})
			want, said := with(d, func(d *api.Drive) { d.Wait = 0 }), ""
			if step != 30 {
				want.Step = 30
			} else if want.Tries++; tries < 12 {
				said = all
			} else {
				want.Phase = api.Failed
			}
			wantTick(t, d, want, said)
			d.Win.List = nil
			wantTick(t, d, with(d, func(d *api.Drive) { d.Wait, d.Step = 0, -1 }), "")
		}
	}
	for _, phase := range []int{api.Closed, api.Failed} {
		d := with(running(64, 3, 6, texts(1)...), func(d *api.Drive) { d.Phase, d.Step, d.Tries = phase, 6, 13 })
		wantTick(t, d, d, "")
	}
}

// P16.4: what is sent waits while it opens, and goes while it runs; in no other phase, no empty piece, and none of another channel.
func TestSend(t *testing.T) {
	p := api.Piece{Channel: 2, Data: "abc"}
	d := with(begun(64, 3), func(d *api.Drive) { d.Queue = []api.Piece{{Data: "x"}} })
	d.Took = []api.Span{{From: 1, To: 2}}
	bare := with(d, func(d *api.Drive) { d.Took = nil })
	run := running(64, 3, 31, texts(1)...)
	wantSend(t, d, p, with(bare, func(d *api.Drive) { d.Queue = []api.Piece{{Data: "x"}, p} }), "")
	wantSend(t, run, p, with(run, func(d *api.Drive) { d.Win.List = append(texts(1), "\x02abc") }), data(0, 0, 2, "abc"))
	for channel := range 8 {
		p := api.Piece{Channel: channel, Data: "\x00"}
		wantSend(t, run, p, with(run, func(d *api.Drive) { d.Win.List = append(texts(1), string(byte(channel))+"\x00") }), data(0, 0, channel, "\x00"))
		p.Data = ""
		wantSend(t, d, p, bare, "")
		wantSend(t, run, p, run, "")
	}
	for _, channel := range []int{math.MinInt, -256, -1, 8, 9, 256, 257, math.MaxInt} {
		wantSend(t, d, api.Piece{Channel: channel, Data: "abc"}, bare, "")
		wantSend(t, run, api.Piece{Channel: channel, Data: "abc"}, run, "")
	}
	full := running(64, 1, 7, texts(1)...)
	wantSend(t, full, p, with(full, func(d *api.Drive) { d.Queue = []api.Piece{p} }), "")
	for _, phase := range []int{api.Closing, api.Closed, api.Failed} {
		d := with(run, func(d *api.Drive) { d.Phase = phase })
		wantSend(t, d, p, d, "")
	}
	// What waits goes even if nothing else does: the room is there. But a piece that is nothing lets it wait.
	held := with(run, func(d *api.Drive) { d.Queue = []api.Piece{{Data: "w"}} })
	wantSend(t, held, p, with(run, func(d *api.Drive) { d.Win.List = append(texts(1), "\x00w", "\x02abc") }), data(0, 0, 0, "w")+data(1, 0, 2, "abc"))
	wantSend(t, held, api.Piece{Channel: 1}, held, "")
}

// P16.4: a piece is cut into texts of Size; two pieces share no packet; the rest keeps its channel.
func TestSendCut(t *testing.T) {
	s := strings.Repeat("0123456789abcdef", 9)
	d := with(running(32, 16, 30), func(d *api.Drive) { d.Wants = 0 })
	said := data(30, 31, 3, s[:32]) + data(31, 31, 3, s[32:64]) + data(0, 31, 3, s[64:96]) + data(1, 31, 3, s[96:128]) + data(2, 31, 3, s[128:])
	want := with(d, func(d *api.Drive) {
		d.Win.List = []string{"\x03" + s[:32], "\x03" + s[32:64], "\x03" + s[64:96], "\x03" + s[96:128], "\x03" + s[128:]}
	})
	wantSend(t, d, api.Piece{Channel: 3, Data: s}, want, said)
	small := running(32, 2, 6)
	two := []string{"\x05" + s[:32], "\x05" + s[32:64]}
	kept := with(small, func(d *api.Drive) { d.Win.List, d.Queue = two, []api.Piece{{Channel: 5, Data: s[64:]}} })
	saidTwo := data(6, 0, 5, s[:32]) + data(7, 0, 5, s[32:64])
	wantSend(t, small, api.Piece{Channel: 5, Data: s}, kept, saidTwo)
	wantSend(t, kept, api.Piece{Data: "more"}, with(kept, func(d *api.Drive) { d.Queue = []api.Piece{{Channel: 5, Data: s[64:]}, {Data: "more"}} }), "")
	wantSend(t, small, api.Piece{Channel: 5, Data: s[:64]}, with(small, func(d *api.Drive) { d.Win.List = two }), saidTwo)
	wide := running(4095, 2, 6)
	wantSend(t, wide, api.Piece{Data: zeros(4096)}, with(wide, func(d *api.Drive) { d.Win.List = []string{zeros(4096), zeros(2)} }), data(6, 0, 0, zeros(4095))+data(7, 0, 0, zeros(1)))
	thin := running(1, 2, 6)
	wantSend(t, thin, api.Piece{Channel: 7, Data: "abc"}, with(thin, func(d *api.Drive) {
		d.Win.List, d.Queue = []string{"\x07a", "\x07b"}, []api.Piece{{Channel: 7, Data: "c"}}
	}), data(6, 0, 7, "a")+data(7, 0, 7, "b"))
}

// P16.4: a window takes as many texts as Room says, sixteen at most, of numbers that begin anew.
func TestSendFull(t *testing.T) {
	for room := 1; room <= 16; room++ {
		for base := range 32 {
			d := running(1, room, base)
			got, said := Send(d, api.Piece{Channel: 1, Data: strings.Repeat("x", 20)})
			want := ""
			for i := range room {
				want += data((base+i)%32, 0, 1, "x")
			}
			if said != byCaller(want) || len(got.Win.List) != room || len(got.Queue) != 1 || len(got.Queue[0].Data) != 20-room || !Right(got) {
				t.Errorf("room %d, from %d: %s, %s", room, base, show(got), heard(said))
			}
		}
	}
}

// P16.5: what is open begins to close; what is not is as it was.
func TestClose(t *testing.T) {
	for _, step := range []int{math.MinInt, 0, 1, math.MaxInt} {
		d := with(begun(64, 3), func(d *api.Drive) { d.Step, d.Tries, d.Wait, d.Queue = step, 4, 3, []api.Piece{{Data: "w"}} })
		wantClose(t, d, with(d, func(d *api.Drive) { d.Phase, d.Step, d.Tries = 3, 0, 0 }), closing(0))
	}
	d := with(running(64, 3, 6, texts(2)...), func(d *api.Drive) { d.Step, d.Tries, d.Wants, d.Ahead = 6, 4, 21, []api.IFrame{early(25)} })
	d.Took = []api.Span{{From: 1, To: 2}}
	wantClose(t, d, with(d, func(d *api.Drive) { d.Phase, d.Step, d.Tries, d.Took = 3, 0, 0, nil }), closing(20))
	for _, phase := range []int{api.Closing, api.Closed, api.Failed} {
		d := with(d, func(d *api.Drive) { d.Phase = phase })
		wantClose(t, d, with(d, func(d *api.Drive) { d.Took = nil }), "")
	}
}
