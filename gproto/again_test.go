package gproto

import (
	"math/rand/v2"
	"slices"
	"strings"
	"testing"

	"postchaise/api"
	"postchaise/gframe"
)

// model is a drive, written once more: by what holds in each phase, with a window of its own.
type model struct {
	d          api.Drive
	said, came string
}

func rightAgain(d api.Drive) bool {
	sizes := map[int]int{32: 'g', 64: 'g', 128: 'G', 256: 'G', 512: 'G', 1024: 'G', 2048: 'G', 4096: 'G'}
	if d.Letter != 'g' && d.Letter != 'G' || sizes[d.Size] == 0 || d.Letter == 'g' && sizes[d.Size] == 'G' {
		return false
	}
	for _, c := range [][3]int{{d.Room, 1, 7}, {d.Wants, 0, 7}, {d.At, 0, 1099511627776}, {d.Wait, 0, 3}, {d.Tries, 0, 13}, {len(d.Ahead), 0, 0}, {d.Phase, 1, 5}} {
		if c[0] < c[1] || c[0] > c[2] {
			return false
		}
	}
	for _, p := range d.Queue {
		if len(p.Data) == 0 {
			return false
		}
	}
	switch d.Phase {
	case 1:
		return (d.Step == 0 || d.Step == 1 || d.Step == 2) && len(d.Win.List) == 0
	case 2:
		for _, s := range d.Win.List {
			if s == "" || len(s) > d.Size {
				return false
			}
		}
		return d.Step >= -1 && d.Step < 8 && d.Win.Mod == 8 && d.Win.Size == d.Room && d.Win.Base >= 0 && d.Win.Base < 8 && len(d.Win.List) <= d.Room
	}
	return true
}

func (m *model) control(high, low int) { m.said += control(high, low) }

// answer: ready or reject, with the number ahead of Wants.
func (m *model) answer(high int) { m.control(high, (m.d.Wants+7)&7) }

// sizeCode: how often the size is the double of 32.
func (m *model) sizeCode() int {
	n := 0
	for s := m.d.Size; s > 32; s /= 2 {
		n++
	}
	return n
}

// opening: the opening packet of that step.
func (m *model) opening(step int) {
	if step == 1 {
		m.control(6, m.sizeCode())
	} else {
		m.control(7-step, m.d.Room)
	}
}

func (m *model) text(i int) {
	s, size := m.d.Win.List[i], m.d.Size
	f := api.GFrame{Type: 2, High: (m.d.Win.Base + i) & 7, Low: (m.d.Wants + 7) & 7, Size: size, Data: s}
	if len(s) != size {
		f.Type = 3
		if m.d.Letter == 'G' {
			for f.Size = 32; f.Size <= len(s); f.Size *= 2 {
			}
		}
	}
	out, e := gframe.Write(f)
	if e != api.OK {
		panic(e)
	}
	m.said += out
}

func (m *model) texts() {
	for i := range m.d.Win.List {
		m.text(i)
	}
}

func (m *model) flow() {
	for m.d.Phase == 2 && len(m.d.Queue) > 0 && len(m.d.Win.List) < m.d.Room {
		p := m.d.Queue[0]
		rest := m.d.Queue[1:]
		head := p.Data
		if len(head) > m.d.Size {
			head = head[:m.d.Size]
			rest = append([]api.Piece{{Channel: p.Channel, Data: p.Data[m.d.Size:]}}, rest...)
		}
		m.d.Queue = rest
		m.d.Win.List = append(slices.Clone(m.d.Win.List), head)
		m.text(len(m.d.Win.List) - 1)
	}
}

func (m *model) opens() {
	m.d.Phase, m.d.Step, m.d.Tries = 2, -1, 0
	m.d.Win = api.Window{Mod: 8, Size: m.d.Room, Base: 1}
}

// mark: whether something may be said again; then it is marked so.
func (m *model) mark() bool {
	if m.d.Wait%2 == 1 {
		return false
	}
	m.d.Wait++
	return true
}

func (m *model) hear(f api.GFrame) {
	isControl := f.Type == 0
	isInit := isControl && f.High >= 5
	isClose := isControl && f.High == 1
	switch m.d.Phase {
	case 1:
		m.hearOpening(f, isInit, isClose)
	case 2:
		switch {
		case isInit && f.High == 5:
			m.answer(4)
		case isInit:
		case isClose:
			m.d.Phase, m.d.Step = 4, 1
			m.control(1, 0)
		default:
			m.hearRunning(f, isControl)
		}
	case 3:
		if isClose {
			m.d.Phase, m.d.Step = 4, 0
		} else if !isInit {
			m.control(1, 0)
		}
	case 4:
		if isClose && m.d.Step == 1 {
			m.control(1, 0)
		}
	}
}

func (m *model) hearOpening(f api.GFrame, isInit, isClose bool) {
	q := 7 - f.High
	switch {
	case isClose:
		m.d.Phase, m.d.Step = 4, 1
		m.control(1, 0)
	case !isInit && m.d.Step == 2:
		m.opens()
		m.hear(f)
	case !isInit:
	case q == m.d.Step-1:
		if m.mark() {
			m.opening(q)
		}
	case q == m.d.Step && (q == 1 || f.Low > 0):
		if q == 1 {
			for m.sizeCode() > f.Low {
				m.d.Size /= 2
			}
		} else if m.d.Room > f.Low {
			m.d.Room = f.Low
		}
		m.d.Step, m.d.Tries = q+1, 0
		if q == 2 {
			m.opens()
		} else {
			m.opening(q + 1)
		}
	}
}

func (m *model) hearRunning(f api.GFrame, isControl bool) {
	for i := range m.d.Win.List {
		if (m.d.Win.Base+i)&7 == f.Low {
			m.d.Win.List = slices.Clone(m.d.Win.List[i+1:])
			m.d.Win.Base = (f.Low + 1) & 7
			m.d.Tries = 0
			break
		}
	}
	k := (f.High - m.d.Wants) & 7
	switch {
	case isControl && f.High == 2:
		if m.mark() {
			m.texts()
		}
	case isControl:
	case k == 0:
		m.came += f.Data
		m.d.Wants = (m.d.Wants + 1) & 7
		m.answer(4)
	case k < m.d.Room:
		m.answer(2)
	default:
		m.answer(4)
	}
}

// modelOf: what the calls work on; nil, if d is not right.
func modelOf(d api.Drive) (api.Drive, *model) {
	d.Took = nil
	if !rightAgain(d) {
		return d, nil
	}
	return d, &model{d: d}
}

func feedAgain(d api.Drive, s string) (api.Drive, string, []api.Piece) {
	d, m := modelOf(d)
	if m == nil {
		return d, "", nil
	}
	all, at := d.Buf+s, 0
	for {
		f, x, ok := gframe.Scan(all[at:])
		if !ok {
			at += x.From
			break
		}
		m.d.Took = append(m.d.Took, api.Span{From: d.At + at + x.From, To: d.At + at + x.To})
		at += x.To
		m.d.Wait = m.d.Wait%2 + 2
		m.hear(f)
	}
	m.d.Buf, m.d.At = all[at:], d.At+at
	m.flow()
	if m.came == "" {
		return m.d, m.said, nil
	}
	return m.d, m.said, []api.Piece{{Data: m.came}}
}

func tickAgain(d api.Drive) (api.Drive, string) {
	d, m := modelOf(d)
	if m == nil {
		return d, ""
	}
	if m.d.Wait < 2 {
		m.d.At, m.d.Buf = m.d.At+len(m.d.Buf), ""
	}
	m.d.Wait = 0
	if m.d.Phase >= 4 {
		return m.d, ""
	}
	if m.d.Phase == 2 {
		base := m.d.Win.Base
		if len(m.d.Win.List) == 0 {
			base = -1
		}
		if m.d.Step != base || base == -1 {
			m.d.Step = base
			return m.d, ""
		}
	}
	m.d.Tries++
	switch {
	case m.d.Tries <= 12 && m.d.Phase == 1:
		m.opening(m.d.Step)
	case m.d.Tries <= 12 && m.d.Phase == 2:
		m.texts()
	case m.d.Tries <= 12:
		m.control(1, 0)
	case m.d.Phase == 3:
		m.d.Phase, m.d.Step = 4, 0
	default:
		m.d.Phase = 5
	}
	return m.d, m.said
}

func sendAgain(d api.Drive, p api.Piece) (api.Drive, string) {
	d, m := modelOf(d)
	if m == nil || len(p.Data) == 0 || d.Phase > 2 {
		return d, ""
	}
	m.d.Queue = append(slices.Clone(d.Queue), p)
	m.flow()
	return m.d, m.said
}

func closeAgain(d api.Drive) (api.Drive, string) {
	d, m := modelOf(d)
	if m == nil || d.Phase > 2 {
		return d, ""
	}
	m.d.Phase, m.d.Step, m.d.Tries = 3, 0, 0
	m.control(1, 0)
	return m.d, m.said
}

func wantFeedAgain(t *testing.T, d api.Drive, s string) {
	t.Helper()
	got, said, came := Feed(d, s)
	want, wantSaid, wantCame := feedAgain(d, s)
	if !same(got, want) || said != wantSaid || !slices.Equal(came, wantCame) {
		t.Fatalf("Feed(%s, %s):\n%s, %s, %+v, want\n%s, %s, %+v", show(d), heard(s), show(got), heard(said), came, show(want), heard(wantSaid), wantCame)
	}
}

func wantTickAgain(t *testing.T, d api.Drive) {
	t.Helper()
	got, said := Tick(d)
	want, wantSaid := tickAgain(d)
	if !same(got, want) || said != wantSaid {
		t.Fatalf("Tick(%s):\n%s, %s, want\n%s, %s", show(d), show(got), heard(said), show(want), heard(wantSaid))
	}
}

func wantSendAgain(t *testing.T, d api.Drive, p api.Piece) {
	t.Helper()
	got, said := Send(d, p)
	want, wantSaid := sendAgain(d, p)
	if !same(got, want) || said != wantSaid {
		t.Fatalf("Send(%s, %+v):\n%s, %s, want\n%s, %s", show(d), p, show(got), heard(said), show(want), heard(wantSaid))
	}
}

func wantCloseAgain(t *testing.T, d api.Drive) {
	t.Helper()
	got, said := Close(d)
	want, wantSaid := closeAgain(d)
	if !same(got, want) || said != wantSaid {
		t.Fatalf("Close(%s):\n%s, %s, want\n%s, %s", show(d), show(got), heard(said), show(want), heard(wantSaid))
	}
}

// everyPacket: every control packet, and data packets of every number, with and without bytes.
func everyPacket() []string {
	var l []string
	for high := range 8 {
		for low := range 8 {
			l = append(l, control(high, low), short(high, low, 32, "ab"))
		}
		l = append(l, short(high, 0, 64, ""), long(high, 5, zeros(32)))
	}
	return l
}

// everyState: right drives of every phase, step, mark and window, as far as they tell packets apart.
func everyState() []api.Drive {
	var l []api.Drive
	for phase := 1; phase <= 5; phase++ {
		for step := -1; step <= 7; step++ {
			for wait := range 4 {
				for i, room := range []int{1, 3, 7} {
					d := api.Drive{Letter: 'G', Phase: phase, Step: step, Size: 64, Room: room, Wants: []int{1, 0, 6}[i], Wait: wait, Tries: 5, At: 100}
					if phase != 1 {
						d.Win = api.Window{Mod: 8, Size: room, Base: []int{2, 7, 5}[i], List: texts(min(room, 5))}
					}
					if i > 0 {
						d.Queue = []api.Piece{{Data: "queue"}, {Channel: 3, Data: strings.Repeat("q", 70)}}
					}
					if Right(d) {
						l = append(l, d)
					}
				}
			}
		}
	}
	return l
}

// P15.2 to P15.5: every packet in every state, held against the second writing.
func TestEveryPacketAgain(t *testing.T) {
	packets := everyPacket()
	states := everyState()
	if len(states) < 300 {
		t.Fatalf("%d states", len(states))
	}
	for _, d := range states {
		for _, s := range packets {
			wantFeedAgain(t, d, s)
		}
		for tries := range 14 {
			d.Tries = tries
			d.Buf = []string{"", "\x10\x01"}[tries%2]
			wantTickAgain(t, d)
			wantCloseAgain(t, d)
			wantSendAgain(t, d, api.Piece{Channel: tries, Data: strings.Repeat("s", tries*20)})
		}
	}
}

// randomPacket: a packet that may come, or a piece of one, or bytes that are none.
func randomPacket(r *rand.Rand) string {
	s := ""
	switch r.IntN(4) {
	case 0, 1:
		s = control(r.IntN(8), r.IntN(8))
	case 2:
		size := 32 << r.IntN(3)
		s = short(r.IntN(8), r.IntN(8), size, randomBytes(r, r.IntN(size)))
	default:
		s = long(r.IntN(8), r.IntN(8), randomBytes(r, 32<<r.IntN(3)))
	}
	switch r.IntN(12) {
	case 0:
		return s[:r.IntN(len(s))]
	case 1:
		return s[r.IntN(len(s)):]
	case 2:
		return randomBytes(r, r.IntN(20)) + s
	}
	return s
}

// P15.2 to P15.5: walks of all calls through all phases, held against the second writing.
func TestWalksAgain(t *testing.T) {
	r := rand.New(rand.NewPCG(15, 1))
	phases := map[int]int{}
	for range 600 {
		d := begunAnyhow(t, r)
		for range 60 {
			phases[d.Phase]++
			switch r.IntN(8) {
			case 0:
				wantTickAgain(t, d)
				d, _ = Tick(d)
			case 1, 2:
				p := api.Piece{Channel: r.IntN(3), Data: randomBytes(r, r.IntN(200))}
				wantSendAgain(t, d, p)
				d, _ = Send(d, p)
			case 3:
				if r.IntN(10) == 0 {
					wantCloseAgain(t, d)
					d, _ = Close(d)
				}
			default:
				s := ""
				for range r.IntN(4) {
					s += randomPacket(r)
				}
				if r.IntN(3) == 0 {
					s = likelyPackets(d, r)
				}
				wantFeedAgain(t, d, s)
				d, _, _ = Feed(d, s)
			}
		}
	}
	for phase := 1; phase <= 4; phase++ {
		if phases[phase] < 500 {
			t.Errorf("phase %d: only %d times", phase, phases[phase])
		}
	}
}

// likelyPackets: what an end that answers as it should would say to d.
func likelyPackets(d api.Drive, r *rand.Rand) string {
	ack := (d.Win.Base + r.IntN(1+len(d.Win.List)) + 7) & 7
	switch {
	case d.Phase == api.Opening:
		return control(7-d.Step, 1+r.IntN(7))
	case r.IntN(2) == 0:
		return control(4, ack)
	}
	s := ""
	for i := range 1 + r.IntN(3) {
		s += short((d.Wants+i)&7, ack, 32, randomBytes(r, r.IntN(32)))
	}
	return s
}

// begunAnyhow: a drive that Begin made.
func begunAnyhow(t *testing.T, r *rand.Rand) api.Drive {
	t.Helper()
	letter, sizes := 'g', 2
	if r.IntN(2) == 0 {
		letter, sizes = 'G', 8
	}
	d, _, e := Begin(int(letter), r.IntN(2) == 0, 32<<r.IntN(sizes), 1+r.IntN(7))
	if e != api.OK {
		t.Fatal(e)
	}
	return d
}
