package iproto

import (
	"fmt"
	"math/rand/v2"
	"strings"
	"testing"

	"postchaise/api"
	"postchaise/iframe"
	"postchaise/line"
)

// pair is two ends and a line between them: what was given to each end to be sent, and what came to it, by channels.
type pair struct {
	ends   [2]api.Drive
	line   api.Line
	gave   [2][8]string
	came   [2][8]string
	fooled bool
}

// harm says what becomes of packets and bytes under way: of so many in a thousand.
type harm struct {
	r                   *rand.Rand
	lost, doubled, hurt int
}

func (h harm) happens(of int) bool { return h.r != nil && h.r.IntN(1000) < of }

func newPair(t *testing.T, sizes, rooms [2]int, h harm) *pair {
	t.Helper()
	p := &pair{line: line.New()}
	for who := range 2 {
		d, said, e := Begin(who == 0, sizes[who], rooms[who])
		if e != api.OK {
			t.Fatal(e)
		}
		p.ends[who] = d
		p.say(who, said, h)
	}
	return p
}

// say: what an end says goes to the other one; on its way packets are lost, or stand there twice. What the line has no room for is lost.
func (p *pair) say(who int, said string, h harm) {
	for said != "" {
		_, place, ok := iframe.Scan(said)
		if !ok || place.From != 0 {
			panic(fmt.Sprintf("no packet: %q", said))
		}
		times := 1
		if h.happens(h.lost) {
			times = 0
		} else if h.happens(h.doubled) {
			times = 2
		}
		for range times {
			p.line, _ = line.Send(p.line, 1-who, said[:place.To])
		}
		said = said[place.To:]
	}
}

// hurtBytes: bytes under way to an end are turned, are lost, and come from nowhere.
func (p *pair) hurtBytes(who int, h harm) {
	for range 4 {
		n := len(p.line.Ways[who].Data)
		if n == 0 || !h.happens(h.hurt) {
			continue
		}
		switch at := h.r.IntN(n); h.r.IntN(3) {
		case 0:
			p.line, _ = line.Flip(p.line, who, at, h.r.IntN(8))
		case 1:
			p.line, _ = line.Lose(p.line, who, at)
		default:
			p.line, _ = line.Add(p.line, who, at, byte(h.r.IntN(256)))
		}
	}
}

// move: up to most bytes come to an end.
func (p *pair) move(t *testing.T, who, most int, h harm) {
	t.Helper()
	var s, said string
	var l []api.Piece
	p.line, s = line.Take(p.line, who, most)
	p.ends[who], said, l = Feed(p.ends[who], s)
	for _, place := range p.ends[who].Took {
		p.fooled = p.fooled || !line.Clean(p.line, who, place)
	}
	for _, x := range l {
		p.came[who][x.Channel] += x.Data
	}
	p.say(who, said, h)
	if !p.fooled {
		p.check(t)
	}
}

// check: what came is a beginning of what was sent, of each channel, and both ends are right.
func (p *pair) check(t *testing.T) {
	t.Helper()
	for who := range 2 {
		for channel, came := range p.came[who] {
			if sent := p.gave[1-who][channel]; !strings.HasPrefix(sent, came) {
				t.Fatalf("to end %d, channel %d, came %q, sent was %q", who, channel, came, sent)
			}
		}
		if !Right(p.ends[who]) {
			t.Fatalf("end %d is not right: %s", who, show(p.ends[who]))
		}
	}
}

func (p *pair) send(who, channel int, s string, h harm) {
	var said string
	p.ends[who], said = Send(p.ends[who], api.Piece{Channel: channel, Data: s})
	p.gave[who][channel] += s
	p.say(who, said, h)
}

func (p *pair) tick(who int, h harm) {
	var said string
	p.ends[who], said = Tick(p.ends[who])
	p.say(who, said, h)
}

func (p *pair) close(who int) {
	var said string
	p.ends[who], said = Close(p.ends[who])
	p.say(who, said, harm{})
}

// round: all bytes come, and both clocks go.
func (p *pair) round(t *testing.T) {
	t.Helper()
	for who := range 2 {
		p.move(t, who, api.MaxLine, harm{})
		p.tick(who, harm{})
	}
}

func (p *pair) phases() [2]int { return [2]int{p.ends[0].Phase, p.ends[1].Phase} }

// isDone: whether all that was sent came, and both ends know it.
func (p *pair) isDone() bool {
	for who, d := range p.ends {
		if p.came[1-who] != p.gave[who] || len(d.Queue) > 0 || len(d.Win.List) > 0 || len(d.Ahead) > 0 {
			return false
		}
	}
	return p.phases() == [2]int{api.Running, api.Running}
}

// texts: how many packets the data that is still to come makes at most.
func (p *pair) texts() int {
	n := 0
	size := min(p.ends[0].Size, p.ends[1].Size)
	for _, d := range p.ends {
		n += len(d.Win.List)
		for _, x := range d.Queue {
			n += 1 + len(x.Data)/size
		}
	}
	return n
}

// arrives: in rounds without loss all that was sent comes, and stays as it is; then they close.
func (p *pair) arrives(t *testing.T) {
	t.Helper()
	for rounds := 40 + 2*p.texts(); !p.isDone(); rounds-- {
		if rounds == 0 {
			t.Fatalf("not all came: %s\n%s", show(p.ends[0]), show(p.ends[1]))
		}
		p.round(t)
	}
	for range 20 {
		p.round(t)
	}
	if !p.isDone() {
		t.Fatalf("not as it was: %s\n%s", show(p.ends[0]), show(p.ends[1]))
	}
	p.close(0)
	for range 3 {
		p.round(t)
	}
	if p.phases() != [2]int{api.Closed, api.Closed} || p.ends[0].Step != 0 || p.ends[1].Step != 1 {
		t.Fatalf("not closed: %s\n%s", show(p.ends[0]), show(p.ends[1]))
	}
}

// The chapter's example: two ends, 100 and 3, and 50 and 16: both run with 50 and 3.
func TestExample(t *testing.T) {
	p := newPair(t, [2]int{100, 50}, [2]int{3, 16}, harm{})
	p.move(t, 0, api.MaxLine, harm{})
	p.move(t, 1, api.MaxLine, harm{})
	for _, d := range p.ends {
		if d.Phase != api.Running || d.Size != 50 || d.Room != 3 || d.Win.Size != 3 {
			t.Errorf("%s", show(d))
		}
	}
}

// P16.8: every two rooms, and sizes from the least to the greatest, with nothing lost: it opens with the lesser ones, and all comes.
func TestEveryPair(t *testing.T) {
	r := rand.New(rand.NewPCG(16, 8))
	for _, a := range []int{1, 2, 30, 255, 256, 4095} {
		for _, b := range []int{1, 7, 257, 4094, 4095} {
			for rooms := range 256 {
				sizes, rooms := [2]int{a, b}, [2]int{1 + rooms/16, 1 + rooms%16}
				p := newPair(t, sizes, rooms, harm{})
				most := 60 * min(a, b, 30)
				p.send(0, r.IntN(8), randomBytes(r, 1+r.IntN(most)), harm{})
				p.send(0, r.IntN(8), randomBytes(r, 1+r.IntN(most)), harm{})
				p.send(1, r.IntN(8), randomBytes(r, 1+r.IntN(most)), harm{})
				p.round(t)
				p.send(1, r.IntN(8), randomBytes(r, 1+r.IntN(most)), harm{})
				p.arrives(t)
				if p.fooled || p.ends[0].Size != min(a, b) || p.ends[1].Size != p.ends[0].Size || p.ends[0].Room != min(rooms[0], rooms[1]) || p.ends[1].Room != p.ends[0].Room {
					t.Fatalf("%v, %v: %v, %s, %s", sizes, rooms, p.fooled, show(p.ends[0]), show(p.ends[1]))
				}
			}
		}
	}
}

// hasTries: whether no end has failed, or is so near to it that it may be Failed while the other one still answers.
func (p *pair) hasTries() bool {
	for _, d := range p.ends {
		if d.Phase == api.Failed || d.Tries > 8 {
			return false
		}
	}
	return true
}

// step: one thing happens to a pair whose line does harm.
func (p *pair) step(t *testing.T, h harm) {
	t.Helper()
	who := h.r.IntN(2)
	switch h.r.IntN(12) {
	case 0, 1:
		if d := p.ends[who]; d.Phase == api.Opening || d.Phase == api.Running {
			p.send(who, h.r.IntN(8), randomBytes(h.r, 1+h.r.IntN(150)), h)
		}
	case 2:
		p.tick(who, h)
	case 3:
		p.hurtBytes(who, h)
		p.move(t, who, 1+h.r.IntN(60), h)
	default:
		p.hurtBytes(who, h)
		p.move(t, who, api.MaxLine, h)
	}
}

// P16.7, P16.8: packets are lost and doubled, bytes turned, lost and added, from the beginning on: what comes of each channel is a beginning of what was sent; when the harm ends, and no end has failed by then, all of it comes.
func TestHarm(t *testing.T) {
	r := rand.New(rand.NewPCG(16, 7))
	whole, fooled, failed := 0, 0, 0
	for range 1500 {
		h := harm{r, r.IntN(400), r.IntN(400), r.IntN(500)}
		size := func() int { return 1 + r.IntN([]int{8, 40, 200}[r.IntN(3)]) }
		p := newPair(t, [2]int{size(), size()}, [2]int{1 + r.IntN(16), 1 + r.IntN(16)}, h)
		for range r.IntN(500) {
			p.step(t, h)
		}
		switch {
		case p.fooled:
			fooled++
		case !p.hasTries():
			failed++
		default:
			p.arrives(t)
			whole++
		}
	}
	// A head's sum is weak, and halves of like packets make a whole one: some talks are fooled, and nothing is promised of them.
	if whole < 900 || fooled > 200 {
		t.Errorf("%d whole, %d fooled, %d failed", whole, fooled, failed)
	}
}

// P16.7, P16.8: each single packet of a talk is lost, or comes twice, or has one of its bytes turned: all comes.
func TestOneHarm(t *testing.T) {
	for room := 1; room <= 16; room++ {
		for kind := range 3 {
			for n := 0; ; n++ {
				p, met := onceHurt(t, room, n, kind)
				if p.fooled {
					t.Fatalf("one turned bit fools: room %d, packet %d", room, n)
				}
				p.arrives(t)
				if !met {
					break
				}
			}
		}
	}
}

// onceHurt: a pair some rounds on its way, whose packet number n was harmed; false, if there were not so many.
func onceHurt(t *testing.T, room, n, kind int) (*pair, bool) {
	t.Helper()
	p := newPair(t, [2]int{64, 32}, [2]int{room, 16}, harm{})
	for i := range 6 {
		p.send(0, i%3, strings.Repeat("from the one that calls ", 5), harm{})
		p.send(1, 2+i%2, strings.Repeat("from the other ", 5), harm{})
	}
	seen := 0
	for range 25 {
		for who := range 2 {
			if hit := n - seen; hit >= 0 {
				seen += p.hurtPacket(who, hit, kind)
			}
			p.move(t, who, api.MaxLine, harm{})
			p.tick(who, harm{})
		}
	}
	return p, n < seen
}

// hurtPacket: the packet of that number under way to an end, if there is one, is harmed; how many there were.
func (p *pair) hurtPacket(who, hit, kind int) int {
	data, at, n := p.line.Ways[who].Data, 0, 0
	for ; at < len(data); n++ {
		_, place, ok := iframe.Scan(data[at:])
		if !ok {
			break
		}
		if n == hit {
			p.hurtAt(who, at+place.From, at+place.To, kind)
		}
		at += place.To
	}
	return n
}

func (p *pair) hurtAt(who, from, to, kind int) {
	data := p.line.Ways[who].Data
	switch kind {
	case 0:
		for range to - from {
			p.line, _ = line.Lose(p.line, who, from)
		}
	case 1:
		p.line.Ways[who].Data = data[:to] + data[from:]
	default:
		p.line, _ = line.Flip(p.line, who, (from+to)/2, from)
	}
}

// P16.7: packets that pass one another, each by some places, come in order all the same; P16.8: all of them.
func TestOutOfOrder(t *testing.T) {
	r := rand.New(rand.NewPCG(16, 9))
	for range 300 {
		room := 1 + r.IntN(16)
		p := newPair(t, [2]int{5, 9}, [2]int{room, 16}, harm{})
		p.round(t)
		p.round(t)
		for i := range 30 {
			p.send(0, i%3, randomBytes(r, 1+r.IntN(9)), harm{})
			if r.IntN(3) == 0 {
				p.turnOver(r)
				p.round(t)
			}
		}
		p.turnOver(r)
		p.arrives(t)
	}
}

// turnOver: the packets under way to the called end stand in another order.
func (p *pair) turnOver(r *rand.Rand) {
	s := p.line.Ways[1].Data
	var l []string
	for s != "" {
		_, place, ok := iframe.Scan(s)
		if !ok {
			break
		}
		l = append(l, s[:place.To])
		s = s[place.To:]
	}
	r.Shuffle(len(l), func(i, j int) { l[i], l[j] = l[j], l[i] })
	p.line.Ways[1].Data = strings.Join(l, "") + s
}

// P16.9: an end that opens, or has something to be acknowledged, and hears nothing is Failed; what is no packet, and what is its own, is nothing heard.
func TestHearsNothing(t *testing.T) {
	junk := []string{"", "x", "\x07", "\x07\x00\x00", strings.Repeat("\x07\x08abc", 50)}
	for i, noise := range junk {
		caller := i%2 == 0
		open := sync(64, 3, 0)
		if !caller {
			open = byCaller(open)
		}
		fresh, own, _ := Begin(caller, 64, 3)
		queued, _ := Send(fresh, api.Piece{Channel: 1, Data: "hello"})
		run, more, _ := Feed(queued, open)
		if run.Phase != api.Running || len(run.Win.List) != 1 {
			t.Fatalf("%s", show(run))
		}
		for _, noise := range []string{noise, noise + own + more, own + own} {
			wantEnd(t, fresh, noise, 13, api.Failed)
			wantEnd(t, queued, noise, 13, api.Failed)
			wantEnd(t, run, noise, 14, api.Failed)
			left, _ := Close(run)
			wantEnd(t, left, noise, 13, api.Closed)
			left, _ = Close(queued)
			wantEnd(t, left, noise, 13, api.Closed)
		}
	}
}

// wantEnd: d, ticked, with noise ahead of each tick, is of that phase behind just so many ticks, and right all the time; then nothing is said any more.
func wantEnd(t *testing.T, d api.Drive, noise string, ticks, phase int) {
	t.Helper()
	was := d.Phase
	for i := range ticks + 3 {
		var said string
		var l []api.Piece
		if d, said, l = Feed(d, noise); said != "" || len(l) > 0 {
			t.Fatalf("%q is answered by %s", noise, heard(said))
		}
		d, said = Tick(d)
		want := was
		if i+1 >= ticks {
			want = phase
		}
		if d.Phase != want || !Right(d) || i+1 >= ticks && said != "" {
			t.Fatalf("tick %d of %d: %s, %s", i+1, ticks, show(d), heard(said))
		}
	}
}

// P16.9: an end to which all comes back that it says does not open, and is Failed.
func TestHearsItself(t *testing.T) {
	for _, caller := range []bool{false, true} {
		d, said, _ := Begin(caller, 64, 3)
		for i := range 13 {
			var answer string
			var l []api.Piece
			d, answer, l = Feed(d, said)
			if d.Phase != api.Opening || answer != "" || len(l) > 0 || len(d.Took) != 1 {
				t.Fatalf("%d: %s, %s, %+v", i, show(d), heard(answer), l)
			}
			d, said = Tick(d)
		}
		if d.Phase != api.Failed || said != "" {
			t.Errorf("%s, %s", show(d), heard(said))
		}
	}
}

// P16.9: who hears again before it is Failed begins to count anew.
func TestHearsLate(t *testing.T) {
	d, _, _ := Begin(true, 64, 3)
	for range 12 {
		d, _ = Tick(d)
	}
	d, _, _ = Feed(d, sync(64, 3, 0))
	d, _ = Send(d, api.Piece{Data: strings.Repeat("a", 300)})
	for number := 1; number <= 5; number++ {
		for range 13 {
			d, _ = Tick(d)
		}
		d, _, _ = Feed(d, ack(number))
	}
	if d.Phase != api.Running || len(d.Win.List) != 0 || d.Tries != 0 {
		t.Errorf("%s", show(d))
	}
}

// anyRight: a right drive, whether any calls made it or not.
func anyRight(r *rand.Rand) api.Drive {
	d := api.Drive{Letter: 'i', Phase: 1 + r.IntN(5), Caller: r.IntN(2) == 0, Step: r.IntN(33) - 1, Size: 1 + r.IntN(80), Room: 1 + r.IntN(16), Wants: r.IntN(32), Wait: r.IntN(4), Tries: r.IntN(14)}
	if r.IntN(4) == 0 {
		d.Size = 1 + r.IntN(4095)
	}
	switch r.IntN(3) {
	case 0:
		d.At = api.MaxNumber - r.IntN(60)
	case 1:
		d.At = r.IntN(api.MaxNumber)
	}
	for range r.IntN(3) {
		d.Queue = append(d.Queue, api.Piece{Channel: r.IntN(8), Data: randomBytes(r, 1+r.IntN(200))})
	}
	if r.IntN(2) == 0 {
		d.Buf = randomPacket(r, d.Caller)
	}
	if d.Phase == api.Opening {
		return d
	}
	d.Win = api.Window{Mod: 32, Size: d.Room, Base: r.IntN(32)}
	for range r.IntN(d.Room + 1) {
		d.Win.List = append(d.Win.List, piece(r.IntN(8), randomBytes(r, 1+r.IntN(d.Size))))
	}
	for k := 1 + r.IntN(4); k <= 15; k += 1 + r.IntN(6) {
		d.Ahead = append(d.Ahead, early((d.Wants+k)%32))
	}
	return d
}

// P16.10: any bytes leave any right drive right; all but its place, if that is led beyond MaxNumber.
func TestAnyBytes(t *testing.T) {
	r := rand.New(rand.NewPCG(16, 10))
	beyond := 0
	for range 30000 {
		d := anyRight(r)
		if !Right(d) {
			t.Fatalf("not right: %s", show(d))
		}
		for range 1 + r.IntN(4) {
			s := randomBytes(r, r.IntN(100))
			for range r.IntN(4) {
				s += randomPacket(r, d.Caller)
			}
			if r.IntN(2) == 0 {
				s = likelyPackets(d, r) + s
			}
			got, _, _ := Feed(d, s)
			if got.At > api.MaxNumber {
				beyond++
				got.At = 0
			}
			if !Right(got) {
				t.Fatalf("Feed(%s, %s): %s", show(d), heard(s), show(got))
			}
			d = got
		}
	}
	if beyond < 1000 {
		t.Errorf("only %d places beyond MaxNumber", beyond)
	}
}

// P16.10: what these calls make of a drive that Begin made is right, all the way.
func TestCallsLeaveRight(t *testing.T) {
	r := rand.New(rand.NewPCG(16, 11))
	for range 1500 {
		d := begunAnyhow(t, r)
		for range 60 {
			was := d
			switch r.IntN(7) {
			case 0, 1:
				d, _ = Tick(d)
			case 2:
				d, _ = Send(d, api.Piece{Channel: r.IntN(10) - 1, Data: randomBytes(r, r.IntN(300))})
			case 3:
				if r.IntN(15) == 0 {
					d, _ = Close(d)
				}
			case 4:
				d, _, _ = Feed(d, randomPacket(r, d.Caller)+randomPacket(r, d.Caller))
			default:
				d, _, _ = Feed(d, likelyPackets(d, r))
			}
			if !Right(d) {
				t.Fatalf("%s\nbecame %s", show(was), show(d))
			}
		}
	}
}
