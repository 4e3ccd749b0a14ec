package driver

import (
	"math/rand/v2"
	"strings"
	"testing"

	"postchaise/api"
	"postchaise/gframe"
	"postchaise/iframe"
	"postchaise/line"
)

// pair is two ends and a line between them: what was given to each end to be sent, and what came to it, by channels.
type pair struct {
	ends   [2]api.Drive
	line   api.Line
	gave   [2][2]string
	came   [2][2]string
	fooled bool
}

// harm says what becomes of packets and bytes under way: of so many in a thousand.
type harm struct {
	r                   *rand.Rand
	lost, doubled, hurt int
}

func (h harm) happens(of int) bool { return h.r != nil && h.r.IntN(1000) < of }

func newPair(t *testing.T, letter int, sizes, rooms [2]int, h harm) *pair {
	t.Helper()
	p := &pair{line: line.New()}
	for who := range 2 {
		d, said, e := Begin(letter, who == 0, sizes[who], rooms[who])
		if e != api.OK {
			t.Fatal(string(rune(letter)), sizes, rooms, e)
		}
		p.ends[who] = d
		p.say(who, said, h)
	}
	return p
}

// firstPacket: how long the first packet of s is.
func firstPacket(letter int, s string) int {
	var place api.Span
	var ok bool
	switch letter {
	case 'e':
		return len(s)
	case 'i':
		_, place, ok = iframe.Scan(s)
	default:
		_, place, ok = gframe.Scan(s)
	}
	if !ok || place.From != 0 {
		panic("no packet: " + s)
	}
	return place.To
}

// say: what an end says goes to the other one; on its way packets are lost, or stand there twice.
func (p *pair) say(who int, said string, h harm) {
	for said != "" {
		n := firstPacket(p.ends[who].Letter, said)
		times := 1
		if h.happens(h.lost) {
			times = 0
		} else if h.happens(h.doubled) {
			times = 2
		}
		for range times {
			p.line, _ = line.Send(p.line, 1-who, said[:n])
		}
		said = said[n:]
	}
}

// hurtBytes: bytes under way to an end are turned, are lost, and come from nowhere.
func (p *pair) hurtBytes(who int, h harm) {
	for range 4 {
		n := len(p.line.Ways[who].Data)
		if n == 0 || !h.happens(h.hurt) {
			continue
		}
		switch at := h.r.IntN(n); h.r.IntN(3) {
		case 0:
			p.line, _ = line.Flip(p.line, who, at, h.r.IntN(8))
		case 1:
			p.line, _ = line.Lose(p.line, who, at)
		default:
			p.line, _ = line.Add(p.line, who, at, byte(h.r.IntN(256)))
		}
	}
}

// move: up to most bytes come to an end.
func (p *pair) move(t *testing.T, who, most int, h harm) {
	t.Helper()
	var s, said string
	var l []api.Piece
	p.line, s = line.Take(p.line, who, most)
	p.ends[who], said, l = Feed(p.ends[who], s)
	for _, place := range p.ends[who].Took {
		p.fooled = p.fooled || !line.Clean(p.line, who, place)
	}
	for _, x := range l {
		if x.Channel < 0 || x.Channel >= Channels(p.ends[who]) {
			if !p.fooled {
				t.Fatalf("%+v came to %s", x, show(p.ends[who]))
			}
			continue
		}
		p.came[who][x.Channel] += x.Data
	}
	p.say(who, said, h)
	if !p.fooled {
		p.check(t)
	}
}

// check: what came is a beginning of what was sent, of each channel, and both ends are right.
func (p *pair) check(t *testing.T) {
	t.Helper()
	for who := range 2 {
		for channel, came := range p.came[who] {
			if sent := p.gave[1-who][channel]; !strings.HasPrefix(sent, came) {
				t.Fatalf("to end %d, channel %d, came %q, sent was %q", who, channel, came, sent)
			}
		}
		if !Right(p.ends[who]) {
			t.Fatalf("end %d is not right: %s", who, show(p.ends[who]))
		}
	}
}

func (p *pair) send(who, channel int, s string, h harm) {
	var said string
	p.ends[who], said = Send(p.ends[who], api.Piece{Channel: channel, Data: s})
	p.gave[who][channel] += s
	p.say(who, said, h)
}

func (p *pair) tick(who int, h harm) {
	var said string
	p.ends[who], said = Tick(p.ends[who])
	p.say(who, said, h)
}

// round: all bytes come, and both clocks go.
func (p *pair) round(t *testing.T) {
	t.Helper()
	for who := range 2 {
		p.move(t, who, api.MaxLine, harm{})
		p.tick(who, harm{})
	}
}

// isDone: whether all that was sent came, and both ends know it.
func (p *pair) isDone() bool {
	for who, d := range p.ends {
		if p.came[1-who] != p.gave[who] || !Quiet(d) || d.Phase != api.Running {
			return false
		}
	}
	return true
}

// texts: how many packets the data that is still to come makes at most.
func (p *pair) texts() int {
	n := 0
	for _, d := range p.ends {
		n += len(d.Win.List)
		for _, x := range d.Queue {
			n += 1 + len(x.Data)/min(p.ends[0].Size, p.ends[1].Size)
		}
	}
	return n
}

// arrives: in rounds without loss all that was sent comes, and stays as it is; then both ends close, e each by itself.
func (p *pair) arrives(t *testing.T) {
	t.Helper()
	for rounds := 40 + 2*p.texts(); !p.isDone(); rounds-- {
		if rounds == 0 {
			t.Fatalf("not all came: %s\n%s", show(p.ends[0]), show(p.ends[1]))
		}
		p.round(t)
	}
	for range 15 {
		p.round(t)
	}
	if !p.isDone() {
		t.Fatalf("not as it was: %s\n%s", show(p.ends[0]), show(p.ends[1]))
	}
	for who := range 2 {
		var said string
		p.ends[who], said = Close(p.ends[who])
		p.say(who, said, harm{})
	}
	for range 3 {
		p.round(t)
	}
	if p.ends[0].Phase != api.Closed || p.ends[1].Phase != api.Closed {
		t.Fatalf("not closed: %s\n%s", show(p.ends[0]), show(p.ends[1]))
	}
}

// sizesOf: sizes, and how great a room may be, of a protocol.
func sizesOf(letter int) ([]int, int) {
	switch letter {
	case 'g':
		return []int{32, 64}, 7
	case 'G':
		return []int{32, 64, 256, 4096}, 7
	case 'i':
		return []int{1, 32, 100, 4095}, 16
	}
	return []int{0}, 1
}

// P17.5: every protocol, of every two rooms and many sizes, without loss: all that was sent comes, in order, of each channel, in whatever pieces the line hands it on.
func TestWithoutLoss(t *testing.T) {
	r := rand.New(rand.NewPCG(17, 5))
	for _, letter := range letters {
		sizes, most := sizesOf(int(letter))
		for _, a := range sizes {
			for _, b := range sizes {
				for n := range most * most {
					p := newPair(t, int(letter), [2]int{a, b}, [2]int{1 + n/most, 1 + n%most}, harm{})
					for range 12 {
						who := r.IntN(2)
						if r.IntN(2) == 0 {
							p.send(who, r.IntN(Channels(p.ends[who])), randomBytes(r, 1+r.IntN(40*min(a, b, 20)+40)), harm{})
						}
						p.move(t, r.IntN(2), 1+r.IntN(300), harm{})
					}
					p.arrives(t)
					if p.fooled {
						t.Fatalf("%q, %d and %d: fooled", letter, a, b)
					}
				}
			}
		}
	}
}

// P17.5: a channel of i does not wait for the other one's end: pieces of both go in the order in which they were sent, and both come whole, with every byte.
func TestEveryByte(t *testing.T) {
	every := ""
	for n := range 256 {
		every += string([]byte{byte(n), byte(255 - n)})
	}
	for _, letter := range letters {
		p := newPair(t, int(letter), [2]int{64, 64}, [2]int{3, 3}, harm{})
		for who := range 2 {
			for channel := range Channels(p.ends[who]) {
				p.send(who, channel, every[who+channel:], harm{})
			}
			for channel := range Channels(p.ends[who]) {
				p.send(who, channel, "and more", harm{})
			}
		}
		if letter == 'e' && p.line.Ways[1].Data != every+"and more" {
			t.Errorf("by e is said %q", p.line.Ways[1].Data)
		}
		p.arrives(t)
		if p.came[1][0] != every+"and more" || letter == 'i' && p.came[1][1] != every[1:]+"and more" {
			t.Errorf("%q: %q", letter, p.came[1])
		}
	}
}

// hasTries: whether no end has failed, or is so near to it that it may be Failed while the other one still answers.
func (p *pair) hasTries() bool {
	for _, d := range p.ends {
		if d.Phase == api.Failed || d.Tries > 8 {
			return false
		}
	}
	return true
}

// step: one thing happens to a pair whose line does harm.
func (p *pair) step(t *testing.T, h harm) {
	t.Helper()
	who := h.r.IntN(2)
	switch h.r.IntN(12) {
	case 0, 1:
		if d := p.ends[who]; d.Phase == api.Opening || d.Phase == api.Running {
			p.send(who, h.r.IntN(Channels(d)), randomBytes(h.r, 1+h.r.IntN(150)), h)
		}
	case 2:
		p.tick(who, h)
	case 3:
		p.hurtBytes(who, h)
		p.move(t, who, 1+h.r.IntN(60), h)
	default:
		p.hurtBytes(who, h)
		p.move(t, who, api.MaxLine, h)
	}
}

// P17.6: of g, G and i packets are lost and doubled, bytes turned, lost and added: what comes is a beginning of what was sent, of each channel; when the harm ends, and no end has failed by then, all of it comes.
func TestHarm(t *testing.T) {
	r := rand.New(rand.NewPCG(17, 6))
	for _, letter := range "gGi" {
		sizes, most := sizesOf(int(letter))
		whole, fooled, failed := 0, 0, 0
		for range 300 {
			h := harm{r, r.IntN(400), r.IntN(400), r.IntN(500)}
			p := newPair(t, int(letter), [2]int{sizes[r.IntN(2)], sizes[r.IntN(2)]}, [2]int{1 + r.IntN(most), 1 + r.IntN(most)}, h)
			for range r.IntN(400) {
				p.step(t, h)
			}
			switch {
			case p.fooled:
				fooled++
			case !p.hasTries():
				failed++
			default:
				p.arrives(t)
				whole++
			}
		}
		// Sums are weak: some talks are fooled, and nothing is promised of them.
		if whole < 150 || fooled > 60 {
			t.Errorf("%q: %d whole, %d fooled, %d failed", letter, whole, fooled, failed)
		}
	}
}

// likelyBytes: what another end of that letter says, and bytes that are no packets, in any order.
func likelyBytes(t *testing.T, r *rand.Rand, d api.Drive) string {
	t.Helper()
	other, s := begun(t, d.Letter, !d.Caller)
	for range r.IntN(4) {
		said := ""
		switch r.IntN(5) {
		case 0:
			other, said = Tick(other)
		case 1:
			other, said, _ = Feed(other, s)
		case 2:
			if r.IntN(4) == 0 {
				other, said = Close(other)
			}
		default:
			other.Phase, other.Step, other.Wants = api.Running, 0, 0
			if d.Letter != 'e' {
				other.Win, other.Wants = d.Win, r.IntN(max(d.Win.Mod, 1))
				other.Size, other.Room = d.Size, d.Room
				other.Win.List = nil
				other.Win.Base = d.Wants
			}
			other, said = Send(other, api.Piece{Channel: r.IntN(Channels(d)), Data: randomBytes(r, 1+r.IntN(90))})
		}
		s += said + randomBytes(r, r.IntN(6)*r.IntN(6))
	}
	return s
}

// P17.7: any bytes leave a drive of any protocol right, as do all other calls; of g, G and i all but its place, if that is led beyond MaxNumber.
func TestAnyBytes(t *testing.T) {
	r := rand.New(rand.NewPCG(17, 7))
	phases := map[int]int{}
	for n := range 2000 {
		letter := int(letters[n%4])
		d, _ := begun(t, letter, r.IntN(2) == 0)
		if r.IntN(3) == 0 {
			d.At = api.MaxNumber - r.IntN(3000)
		}
		for range 40 {
			was, s := d, ""
			switch r.IntN(8) {
			case 0:
				d, _ = Tick(d)
			case 1:
				d, _ = Send(d, api.Piece{Channel: r.IntN(10) - 1, Data: randomBytes(r, r.IntN(300))})
			case 2:
				if r.IntN(20) == 0 {
					d, _ = Close(d)
				}
			case 3:
				s = randomBytes(r, r.IntN(300))
				d, _, _ = Feed(d, s)
			default:
				s = likelyBytes(t, r, d)
				d, _, _ = Feed(d, s)
			}
			if letter != 'e' && d.At > api.MaxNumber {
				d.At = 0
			}
			if !Right(d) {
				t.Fatalf("%s\nbecame by %q\n%s", show(was), s, show(d))
			}
			phases[letter*10+d.Phase]++
		}
	}
	for _, letter := range letters {
		for _, phase := range []int{api.Running, api.Closed} {
			if phases[int(letter)*10+phase] < 1000 {
				t.Errorf("%q in phase %d: only %d times", letter, phase, phases[int(letter)*10+phase])
			}
		}
	}
}

// P17.7: whatever one byte comes to a drive that is open, alone or behind others, it is right.
func TestEachByte(t *testing.T) {
	for _, letter := range letters {
		for _, d := range runs(t, int(letter)) {
			for a := range 256 {
				one, _, _ := Feed(d, string([]byte{byte(a)}))
				for b := range 256 {
					two, _, _ := Feed(one, string([]byte{byte(b)}))
					if !Right(one) || !Right(two) {
						t.Fatalf("%q: %d, %d: %s, %s", letter, a, b, show(one), show(two))
					}
				}
			}
		}
	}
}
