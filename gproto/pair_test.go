package gproto

import (
	"fmt"
	"math/rand/v2"
	"slices"
	"strings"
	"testing"

	"postchaise/api"
	"postchaise/gframe"
	"postchaise/line"
)

// pair is two ends and a line between them: what was given to each end to be sent, and what came to it.
type pair struct {
	ends   [2]api.Drive
	line   api.Line
	gave   [2]string
	came   [2]string
	fooled bool
}

// harm says what becomes of packets and bytes under way: of so many in a thousand.
type harm struct {
	r                   *rand.Rand
	lost, doubled, hurt int
}

func (h harm) happens(of int) bool { return h.r != nil && h.r.IntN(1000) < of }

func newPair(t *testing.T, letter int, sizes, rooms [2]int, h harm) *pair {
	t.Helper()
	p := &pair{line: line.New()}
	for who := range 2 {
		d, said, e := Begin(letter, who == 0, sizes[who], rooms[who])
		if e != api.OK {
			t.Fatal(e)
		}
		p.ends[who] = d
		p.say(who, said, h)
	}
	return p
}

// say: what an end says goes to the other one; on its way packets are lost, or stand there twice. What the line has no room for is lost.
func (p *pair) say(who int, said string, h harm) {
	for said != "" {
		_, place, ok := gframe.Scan(said)
		if !ok || place.From != 0 {
			panic(fmt.Sprintf("no packet: %q", said))
		}
		times := 1
		if h.happens(h.lost) {
			times = 0
		} else if h.happens(h.doubled) {
			times = 2
		}
		for range times {
			p.line, _ = line.Send(p.line, 1-who, said[:place.To])
		}
		said = said[place.To:]
	}
}

// hurtBytes: bytes under way to an end are turned, are lost, and come from nowhere.
func (p *pair) hurtBytes(who int, h harm) {
	for range 4 {
		n := len(p.line.Ways[who].Data)
		if n == 0 || !h.happens(h.hurt) {
			continue
		}
		switch at := h.r.IntN(n); h.r.IntN(3) {
		case 0:
			p.line, _ = line.Flip(p.line, who, at, h.r.IntN(8))
		case 1:
			p.line, _ = line.Lose(p.line, who, at)
		default:
			p.line, _ = line.Add(p.line, who, at, byte(h.r.IntN(256)))
		}
	}
}

// move: up to most bytes come to an end.
func (p *pair) move(t *testing.T, who, most int, h harm) {
	t.Helper()
	var s, said string
	var l []api.Piece
	p.line, s = line.Take(p.line, who, most)
	p.ends[who], said, l = Feed(p.ends[who], s)
	for _, place := range p.ends[who].Took {
		p.fooled = p.fooled || !line.Clean(p.line, who, place)
	}
	for _, x := range l {
		p.came[who] += x.Data
	}
	p.say(who, said, h)
	if !p.fooled {
		p.check(t)
	}
}

// check: what came is a beginning of what was sent, and both ends are right.
func (p *pair) check(t *testing.T) {
	t.Helper()
	for who := range 2 {
		if !strings.HasPrefix(p.gave[1-who], p.came[who]) {
			t.Fatalf("to end %d came %q, sent was %q", who, p.came[who], p.gave[1-who])
		}
		if !Right(p.ends[who]) {
			t.Fatalf("end %d is not right: %s", who, show(p.ends[who]))
		}
	}
}

func (p *pair) send(who int, s string, h harm) {
	var said string
	p.ends[who], said = Send(p.ends[who], api.Piece{Data: s})
	p.gave[who] += s
	p.say(who, said, h)
}

func (p *pair) tick(who int, h harm) {
	var said string
	p.ends[who], said = Tick(p.ends[who])
	p.say(who, said, h)
}

func (p *pair) close(who int) {
	var said string
	p.ends[who], said = Close(p.ends[who])
	p.say(who, said, harm{})
}

// round: all bytes come, and both clocks go.
func (p *pair) round(t *testing.T) {
	t.Helper()
	for who := range 2 {
		p.move(t, who, api.MaxLine, harm{})
		p.tick(who, harm{})
	}
}

func (p *pair) phases() [2]int { return [2]int{p.ends[0].Phase, p.ends[1].Phase} }

// isDone: whether all that was sent came, and both ends know it.
func (p *pair) isDone() bool {
	for who, d := range p.ends {
		if p.came[1-who] != p.gave[who] || len(d.Queue) > 0 || len(d.Win.List) > 0 {
			return false
		}
	}
	return p.phases() == [2]int{api.Running, api.Running}
}

// texts: how many packets the data that is still to come makes at most.
func (p *pair) texts() int {
	n := 0
	for _, d := range p.ends {
		n += len(d.Win.List)
		for _, x := range d.Queue {
			n += 1 + len(x.Data)/32
		}
	}
	return n
}

// arrives: in rounds without loss all that was sent comes, and stays as it is; then they close.
func (p *pair) arrives(t *testing.T) {
	t.Helper()
	for rounds := 40 + 2*p.texts(); !p.isDone(); rounds-- {
		if rounds == 0 {
			t.Fatalf("not all came: %s\n%s", show(p.ends[0]), show(p.ends[1]))
		}
		p.round(t)
	}
	for range 20 {
		p.round(t)
	}
	if !p.isDone() {
		t.Fatalf("not as it was: %s\n%s", show(p.ends[0]), show(p.ends[1]))
	}
	p.close(0)
	for range 3 {
		p.round(t)
	}
	if p.phases() != [2]int{api.Closed, api.Closed} || p.ends[0].Step != 0 || p.ends[1].Step != 1 {
		t.Fatalf("not closed: %s\n%s", show(p.ends[0]), show(p.ends[1]))
	}
}

// The chapter's examples: two ends agree on the lesser size and the lesser room, and a text of 5 bytes by G of 4096 is a short packet of 32.
func TestExamples(t *testing.T) {
	for _, letter := range []int{'g', 'G'} {
		p := newPair(t, letter, [2]int{64, 32}, [2]int{3, 7}, harm{})
		for range 3 {
			p.move(t, 0, api.MaxLine, harm{})
			p.move(t, 1, api.MaxLine, harm{})
		}
		for _, d := range p.ends {
			if d.Phase != api.Running || d.Size != 32 || d.Room != 3 || d.Win.Size != 3 {
				t.Errorf("%c: %s", letter, show(d))
			}
		}
	}
	_, said := Send(running(4096, 7, 1), api.Piece{Data: "hello"})
	if said != short(1, 0, 32, "hello") {
		t.Errorf("%s", heard(said))
	}
}

// P15.8: every two sizes and rooms, with nothing lost: it opens with the lesser ones, and all comes.
func TestEveryPair(t *testing.T) {
	r := rand.New(rand.NewPCG(15, 8))
	for a := range 8 {
		for b := range 8 {
			for rooms := range 49 {
				letter := 'G'
				if a < 2 && b < 2 && rooms%2 == 0 {
					letter = 'g'
				}
				sizes, rooms := [2]int{32 << a, 32 << b}, [2]int{1 + rooms/7, 1 + rooms%7}
				p := newPair(t, int(letter), sizes, rooms, harm{})
				p.send(0, randomBytes(r, 1+r.IntN(300)), harm{})
				p.send(1, randomBytes(r, 1+r.IntN(300)), harm{})
				p.round(t)
				p.send(1, randomBytes(r, 1+r.IntN(5000)), harm{})
				p.arrives(t)
				if p.fooled || p.ends[0].Size != min(sizes[0], sizes[1]) || p.ends[1].Size != p.ends[0].Size || p.ends[0].Room != min(rooms[0], rooms[1]) || p.ends[1].Room != p.ends[0].Room {
					t.Fatalf("%v, %v: %v, %s, %s", sizes, rooms, p.fooled, show(p.ends[0]), show(p.ends[1]))
				}
			}
		}
	}
}

// hasTries: whether no end has failed, or is so near to it that it may be Failed while the other one still answers.
func (p *pair) hasTries() bool {
	for _, d := range p.ends {
		if d.Phase == api.Failed || d.Tries > 8 {
			return false
		}
	}
	return true
}

// step: one thing happens to a pair whose line does harm.
func (p *pair) step(t *testing.T, h harm) {
	t.Helper()
	who := h.r.IntN(2)
	switch h.r.IntN(12) {
	case 0, 1:
		if d := p.ends[who]; d.Phase == api.Opening || d.Phase == api.Running {
			p.send(who, randomBytes(h.r, 1+h.r.IntN(150)), h)
		}
	case 2:
		p.tick(who, h)
	case 3:
		p.hurtBytes(who, h)
		p.move(t, who, 1+h.r.IntN(60), h)
	default:
		p.hurtBytes(who, h)
		p.move(t, who, api.MaxLine, h)
	}
}

// P15.7, P15.8: packets are lost and doubled, bytes turned, lost and added, from the beginning on: what comes is a beginning of what was sent; when the harm ends, and no end has failed by then, all of it comes.
func TestHarm(t *testing.T) {
	r := rand.New(rand.NewPCG(15, 7))
	whole, fooled, failed := 0, 0, 0
	for range 1500 {
		letter, most := 'g', 2
		if r.IntN(3) > 0 {
			letter, most = 'G', 4
		}
		h := harm{r, r.IntN(400), r.IntN(400), r.IntN(500)}
		p := newPair(t, int(letter), [2]int{32 << r.IntN(most), 32 << r.IntN(most)}, [2]int{1 + r.IntN(7), 1 + r.IntN(7)}, h)
		for range r.IntN(500) {
			p.step(t, h)
		}
		switch {
		case p.fooled:
			fooled++
		case !p.hasTries():
			failed++
		default:
			p.arrives(t)
			whole++
		}
	}
	// The sum of g is weak, and halves of like packets make a whole one: some talks are fooled, and nothing is promised of them.
	if whole < 900 || fooled > 200 {
		t.Errorf("%d whole, %d fooled, %d failed", whole, fooled, failed)
	}
}

// P15.7, P15.8: each single packet of a talk is lost, or comes twice, or has one of its bytes turned: all comes.
func TestOneHarm(t *testing.T) {
	for room := 1; room <= 7; room++ {
		for _, letter := range []int{'g', 'G'} {
			for kind := range 3 {
				for n := 0; ; n++ {
					p, met := onceHurt(t, letter, room, n, kind)
					if !p.fooled {
						p.arrives(t)
					}
					if !met {
						break
					}
				}
			}
		}
	}
}

// onceHurt: a pair some rounds on its way, whose packet number n was harmed; false, if there were not so many.
func onceHurt(t *testing.T, letter, room, n, kind int) (*pair, bool) {
	t.Helper()
	p := newPair(t, letter, [2]int{64, 32}, [2]int{room, 7}, harm{})
	p.send(0, strings.Repeat("from the one that calls ", 30), harm{})
	p.send(1, strings.Repeat("from the other ", 30), harm{})
	seen := 0
	for range 25 {
		for who := range 2 {
			if hit := n - seen; hit >= 0 {
				seen += p.hurtPacket(who, hit, kind)
			}
			p.move(t, who, api.MaxLine, harm{})
			p.tick(who, harm{})
		}
	}
	return p, n < seen
}

// hurtPacket: the packet of that number under way to an end, if there is one, is harmed; how many there were.
func (p *pair) hurtPacket(who, hit, kind int) int {
	data, at, n := p.line.Ways[who].Data, 0, 0
	for ; at < len(data); n++ {
		_, place, ok := gframe.Scan(data[at:])
		if !ok {
			break
		}
		if n == hit {
			p.hurtAt(who, at+place.From, at+place.To, kind)
		}
		at += place.To
	}
	return n
}

func (p *pair) hurtAt(who, from, to, kind int) {
	data := p.line.Ways[who].Data
	switch kind {
	case 0:
		for range to - from {
			p.line, _ = line.Lose(p.line, who, from)
		}
	case 1:
		p.line.Ways[who].Data = data[:to] + data[from:]
	default:
		p.line, _ = line.Flip(p.line, who, (from+to)/2, from)
	}
}

// P15.9: an end that opens, or has something to be acknowledged, and hears nothing is Failed; what is no packet is nothing heard.
func TestHearsNothing(t *testing.T) {
	junk := []string{"", "x", "\x10", "\x10\x09\x08", strings.Repeat("\x10\x08abc", 50)}
	for i, noise := range junk {
		for _, letter := range []int{'g', 'G'} {
			fresh, _, _ := Begin(letter, i%2 == 0, 64, 3)
			queued, _ := Send(fresh, api.Piece{Data: "hello"})
			half, _, _ := Feed(queued, initA(3))
			nearly, _, _ := Feed(half, initB(1))
			open, _, _ := Feed(nearly, initC(3))
			if open.Phase != api.Running {
				t.Fatalf("%s", show(open))
			}
			for _, d := range []api.Drive{fresh, queued, half, nearly} {
				wantEnd(t, d, noise, 13, api.Failed)
			}
			wantEnd(t, open, noise, 14, api.Failed)
			left, _ := Close(open)
			wantEnd(t, left, noise, 13, api.Closed)
			left, _ = Close(half)
			wantEnd(t, left, noise, 13, api.Closed)
		}
	}
}

// wantEnd: d, ticked, with noise ahead of each tick, is of that phase behind just so many ticks, and right all the time; then nothing is said any more.
func wantEnd(t *testing.T, d api.Drive, noise string, ticks, phase int) {
	t.Helper()
	was := d.Phase
	for i := range ticks + 3 {
		var said string
		var l []api.Piece
		if d, said, l = Feed(d, noise); said != "" || len(l) > 0 {
			t.Fatalf("%q is answered by %s", noise, heard(said))
		}
		d, said = Tick(d)
		want := was
		if i+1 >= ticks {
			want = phase
		}
		if d.Phase != want || !Right(d) || i+1 >= ticks && said != "" {
			t.Fatalf("tick %d of %d: %s, %s", i+1, ticks, show(d), heard(said))
		}
	}
}

// P15.9: who hears again before it is Failed begins to count anew.
func TestHearsLate(t *testing.T) {
	d, _, _ := Begin('G', true, 64, 3)
	for _, s := range []string{initA(3), initB(1), initC(3)} {
		for range 12 {
			d, _ = Tick(d)
		}
		d, _, _ = Feed(d, s)
	}
	d, _ = Send(d, api.Piece{Data: strings.Repeat("a", 300)})
	for number := 1; number <= 5; number++ {
		for range 13 {
			d, _ = Tick(d)
		}
		d, _, _ = Feed(d, ready(number))
	}
	if d.Phase != api.Running || len(d.Win.List) != 0 || d.Tries != 0 {
		t.Errorf("%s", show(d))
	}
}

// anyRight: a right drive, whether any calls made it or not.
func anyRight(r *rand.Rand) api.Drive {
	d := api.Drive{Letter: 'G', Phase: 1 + r.IntN(5), Caller: r.IntN(2) == 0, Step: r.IntN(9) - 1, Size: 32 << r.IntN(8), Room: 1 + r.IntN(7), Wants: r.IntN(8), Wait: r.IntN(4), Tries: r.IntN(14)}
	if r.IntN(2) == 0 {
		d.Letter, d.Size = 'g', 32<<r.IntN(2)
	}
	switch r.IntN(3) {
	case 0:
		d.At = api.MaxNumber - r.IntN(60)
	case 1:
		d.At = r.IntN(api.MaxNumber)
	}
	for range r.IntN(3) {
		d.Queue = append(d.Queue, api.Piece{Channel: r.IntN(9) - 4, Data: randomBytes(r, 1+r.IntN(200))})
	}
	if r.IntN(2) == 0 {
		d.Buf = randomPacket(r)
	}
	if d.Phase == api.Opening {
		d.Step = r.IntN(3)
		return d
	}
	d.Win = api.Window{Mod: 8, Size: d.Room, Base: r.IntN(8)}
	for range r.IntN(d.Room + 1) {
		d.Win.List = append(d.Win.List, randomBytes(r, 1+r.IntN(d.Size)))
	}
	return d
}

// P15.10: any bytes leave any right drive right; all but its place, if that is led beyond MaxNumber.
func TestAnyBytes(t *testing.T) {
	r := rand.New(rand.NewPCG(15, 10))
	beyond := 0
	for range 30000 {
		d := anyRight(r)
		if !Right(d) {
			t.Fatalf("not right: %s", show(d))
		}
		for range 1 + r.IntN(4) {
			s := randomBytes(r, r.IntN(100))
			for range r.IntN(4) {
				s += randomPacket(r)
			}
			got, _, _ := Feed(d, s)
			if got.At > api.MaxNumber {
				beyond++
				got.At = 0
			}
			if !Right(got) {
				t.Fatalf("Feed(%s, %s): %s", show(d), heard(s), show(got))
			}
			d = got
		}
	}
	if beyond < 1000 {
		t.Errorf("only %d places beyond MaxNumber", beyond)
	}
}

// P15.2, P15.3: At is as many more as bytes are cut off, beyond MaxNumber too; P15.6: there a drive is not right any more, and answered as it is.
func TestLastPlace(t *testing.T) {
	for _, left := range []int{0, 1, 5, 6, 7, 12, 13, 14} {
		d := with(running(64, 3, 1), func(d *api.Drive) { d.At = api.MaxNumber - left })
		got, _, _ := Feed(d, ready(0)+"x"+ready(0))
		took := []api.Span{{From: d.At, To: d.At + 6}, {From: d.At + 7, To: d.At + 13}}
		if got.At != api.MaxNumber-left+13 || Right(got) != (left >= 13) || !slices.Equal(got.Took, took) {
			t.Errorf("%d places left: %s", left, show(got))
		}
		if got.Took = nil; left < 13 {
			wantFeed(t, got, ready(0), got, "", "")
		}
		got, _, _ = Feed(d, "abc")
		if got.At != api.MaxNumber-left+3 || Right(got) != (left >= 3) || got.Buf != "" {
			t.Errorf("%d places left, no packet: %s", left, show(got))
		}
		d.Buf = "\x10\x01\x02"
		if got, _ := Tick(d); got.At != api.MaxNumber-left+3 || got.Buf != "" || Right(got) != (left >= 3) {
			t.Errorf("%d places left, a tick: %s", left, show(got))
		}
	}
}

// P15.10: what these calls make of a drive that Begin made is right, all the way.
func TestCallsLeaveRight(t *testing.T) {
	r := rand.New(rand.NewPCG(15, 11))
	for range 1500 {
		d := begunAnyhow(t, r)
		for range 60 {
			was := d
			switch r.IntN(7) {
			case 0, 1:
				d, _ = Tick(d)
			case 2:
				d, _ = Send(d, api.Piece{Channel: r.IntN(3), Data: randomBytes(r, r.IntN(300))})
			case 3:
				if r.IntN(15) == 0 {
					d, _ = Close(d)
				}
			case 4:
				d, _, _ = Feed(d, randomPacket(r)+randomPacket(r))
			default:
				d, _, _ = Feed(d, likelyPackets(d, r))
			}
			if !Right(d) {
				t.Fatalf("%s\nbecame %s", show(was), show(d))
			}
		}
	}
}
