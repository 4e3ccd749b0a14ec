package iproto

import (
	"math/rand/v2"
	"slices"
	"strings"
	"testing"

	"postchaise/api"
	"postchaise/iframe"
)

// model is a drive, written once more: by what holds in each phase, with a window and an order of what is early of its own.
type model struct {
	d    api.Drive
	said string
	came []api.Piece
}

func rightAgain(d api.Drive) bool {
	for _, c := range [][3]int{{d.Letter, 105, 105}, {d.Size, 1, 4095}, {d.Room, 1, 16}, {d.Wants, 0, 31}, {d.At, 0, 1099511627776}, {d.Wait, 0, 3}, {d.Tries, 0, 13}, {d.Phase, 1, 5}} {
		if c[0] < c[1] || c[0] > c[2] {
			return false
		}
	}
	for _, p := range d.Queue {
		if len(p.Data) == 0 || p.Channel < 0 || p.Channel > 7 {
			return false
		}
	}
	for _, s := range d.Win.List {
		if len(s) < 2 || len(s)-1 > d.Size || s[0] >= 8 {
			return false
		}
	}
	at := 0
	for _, f := range d.Ahead {
		// On from the last one's place to this one's number, which must not be behind it.
		for at++; at <= 15 && (d.Wants+at)%32 != f.Number; at++ {
		}
		if at > 15 || len(f.Data) == 0 {
			return false
		}
	}
	switch d.Phase {
	case 1:
		return len(d.Win.List)+len(d.Ahead) == 0
	case 2:
		return d.Step >= -1 && d.Step < 32 && d.Win.Mod == 32 && d.Win.Size == d.Room && d.Win.Base >= 0 && d.Win.Base < 32 && len(d.Win.List) <= d.Room
	}
	return true
}

func (m *model) say(kind, number, channel int, s string) {
	out, e := iframe.Write(api.IFrame{Kind: kind, Number: number, Ack: (m.d.Wants - 1) & 31, Channel: channel, Caller: m.d.Caller, Data: s})
	if e != api.OK {
		panic(e)
	}
	m.said += out
}

func (m *model) sync() {
	m.say(1, 0, 0, string([]byte{byte(m.d.Size >> 8), byte(m.d.Size), byte(m.d.Room)}))
}

func (m *model) close() { m.say(5, 0, 0, "") }

func (m *model) text(i int) {
	s := m.d.Win.List[i]
	m.say(0, (m.d.Win.Base+i)&31, int(s[0]), s[1:])
}

func (m *model) flow() {
	for m.d.Phase == 2 && len(m.d.Queue) > 0 && len(m.d.Win.List) < m.d.Room {
		p := m.d.Queue[0]
		rest := m.d.Queue[1:]
		head := p.Data
		if len(head) > m.d.Size {
			head = head[:m.d.Size]
			rest = append([]api.Piece{{Channel: p.Channel, Data: p.Data[m.d.Size:]}}, rest...)
		}
		m.d.Queue = rest
		m.d.Win.List = append(slices.Clone(m.d.Win.List), string([]byte{byte(p.Channel)})+head)
		m.text(len(m.d.Win.List) - 1)
	}
}

// mark: whether something may be said again; then it is marked so.
func (m *model) mark() bool {
	if m.d.Wait%2 == 1 {
		return false
	}
	m.d.Wait++
	return true
}

func (m *model) hear(f api.IFrame) {
	isSync := f.Kind == 1
	isClose := f.Kind == 5
	switch m.d.Phase {
	case 1:
		if isClose {
			m.d.Phase, m.d.Step = 4, 1
			m.close()
		} else if isSync {
			m.opens(f.Data)
		}
	case 2:
		switch {
		case isClose:
			m.d.Phase, m.d.Step = 4, 1
			m.close()
		case !isSync:
			m.hearRunning(f)
		case len(f.Data) == 3 && m.mark():
			m.sync()
		}
	case 3:
		if isClose {
			m.d.Phase, m.d.Step = 4, 0
		} else if !isSync {
			m.close()
		}
	case 4:
		if isClose && m.d.Step == 1 {
			m.close()
		}
	}
}

func (m *model) opens(s string) {
	if len(s) != 3 || s[2] == 0 || s[:2] == "\x00\x00" {
		return
	}
	if size := int(s[0])<<8 + int(s[1]); size < m.d.Size {
		m.d.Size = size
	}
	if room := int(s[2]); room < m.d.Room {
		m.d.Room = room
	}
	m.d.Phase, m.d.Step, m.d.Tries = 2, -1, 0
	m.d.Win = api.Window{Mod: 32, Size: m.d.Room, Base: 1}
}

func (m *model) hearRunning(f api.IFrame) {
	for i := range m.d.Win.List {
		if (m.d.Win.Base+i)&31 == f.Ack {
			m.d.Win.List = slices.Clone(m.d.Win.List[i+1:])
			m.d.Win.Base = (f.Ack + 1) & 31
			m.d.Tries = 0
			break
		}
	}
	if f.Kind == 3 {
		for i := range m.d.Win.List {
			if (m.d.Win.Base+i)&31 == f.Number {
				m.text(i)
			}
		}
	}
	if f.Kind != 0 || f.Data == "" {
		return
	}
	k := (f.Number - m.d.Wants) & 31
	if k >= 1 && k <= 15 {
		m.keep(f)
		if m.mark() {
			m.say(3, m.d.Wants, 0, "")
		}
		return
	}
	if k == 0 {
		m.comes(f)
	}
	m.say(2, 0, 0, "")
}

// keep: all that is early, sorted anew; of two of one number the one that was there.
func (m *model) keep(f api.IFrame) {
	for _, x := range m.d.Ahead {
		if x.Number == f.Number {
			return
		}
	}
	l := append(slices.Clone(m.d.Ahead), f)
	slices.SortFunc(l, func(a, b api.IFrame) int { return (a.Number-m.d.Wants)&31 - (b.Number-m.d.Wants)&31 })
	m.d.Ahead = l
}

// comes: f, and behind it whatever of the early ones is the next one.
func (m *model) comes(f api.IFrame) {
	if n := len(m.came); n > 0 && m.came[n-1].Channel == f.Channel {
		m.came[n-1].Data += f.Data
	} else {
		m.came = append(m.came, api.Piece{Channel: f.Channel, Data: f.Data})
	}
	m.d.Wants = (m.d.Wants + 1) & 31
	for i, x := range m.d.Ahead {
		if x.Number == m.d.Wants {
			m.d.Ahead = slices.Concat(m.d.Ahead[:i], m.d.Ahead[i+1:])
			m.comes(x)
			return
		}
	}
}

// modelOf: what the calls work on; nil, if d is not right.
func modelOf(d api.Drive) (api.Drive, *model) {
	d.Took = nil
	if !rightAgain(d) {
		return d, nil
	}
	return d, &model{d: d}
}

func feedAgain(d api.Drive, s string) (api.Drive, string, []api.Piece) {
	d, m := modelOf(d)
	if m == nil {
		return d, "", nil
	}
	all, at := d.Buf+s, 0
	for {
		f, x, ok := iframe.Scan(all[at:])
		if !ok {
			at += x.From
			break
		}
		m.d.Took = append(m.d.Took, api.Span{From: d.At + at + x.From, To: d.At + at + x.To})
		at += x.To
		if f.Caller == d.Caller {
			continue
		}
		m.d.Wait = m.d.Wait%2 + 2
		m.hear(f)
	}
	m.d.Buf, m.d.At = all[at:], d.At+at
	m.flow()
	return m.d, m.said, m.came
}

func tickAgain(d api.Drive) (api.Drive, string) {
	d, m := modelOf(d)
	if m == nil {
		return d, ""
	}
	if m.d.Wait < 2 {
		m.d.At, m.d.Buf = m.d.At+len(m.d.Buf), ""
	}
	m.d.Wait = 0
	if m.d.Phase >= 4 {
		return m.d, ""
	}
	if m.d.Phase == 2 {
		base := m.d.Win.Base
		if len(m.d.Win.List) == 0 {
			base = -1
		}
		if m.d.Step != base || base == -1 {
			m.d.Step = base
			return m.d, ""
		}
	}
	m.d.Tries++
	switch {
	case m.d.Tries <= 12 && m.d.Phase == 1:
		m.sync()
	case m.d.Tries <= 12 && m.d.Phase == 2:
		for i := range m.d.Win.List {
			m.text(i)
		}
	case m.d.Tries <= 12:
		m.close()
	case m.d.Phase == 3:
		m.d.Phase, m.d.Step = 4, 0
	default:
		m.d.Phase = 5
	}
	return m.d, m.said
}

func sendAgain(d api.Drive, p api.Piece) (api.Drive, string) {
	d, m := modelOf(d)
	if m == nil || len(p.Data) == 0 || p.Channel < 0 || p.Channel > 7 || d.Phase > 2 {
		return d, ""
	}
	m.d.Queue = append(slices.Clone(d.Queue), p)
	m.flow()
	return m.d, m.said
}

func closeAgain(d api.Drive) (api.Drive, string) {
	d, m := modelOf(d)
	if m == nil || d.Phase > 2 {
		return d, ""
	}
	m.d.Phase, m.d.Step, m.d.Tries = 3, 0, 0
	m.close()
	return m.d, m.said
}

func wantFeedAgain(t *testing.T, d api.Drive, s string) {
	t.Helper()
	got, said, came := Feed(d, s)
	want, wantSaid, wantCame := feedAgain(d, s)
	if !same(got, want) || said != wantSaid || !slices.Equal(came, wantCame) {
		t.Fatalf("Feed(%s, %s):\n%s, %s, %+v, want\n%s, %s, %+v", show(d), heard(s), show(got), heard(said), came, show(want), heard(wantSaid), wantCame)
	}
}

func wantTickAgain(t *testing.T, d api.Drive) {
	t.Helper()
	got, said := Tick(d)
	want, wantSaid := tickAgain(d)
	if !same(got, want) || said != wantSaid {
		t.Fatalf("Tick(%s):\n%s, %s, want\n%s, %s", show(d), show(got), heard(said), show(want), heard(wantSaid))
	}
}

func wantSendAgain(t *testing.T, d api.Drive, p api.Piece) {
	t.Helper()
	got, said := Send(d, p)
	want, wantSaid := sendAgain(d, p)
	if !same(got, want) || said != wantSaid {
		t.Fatalf("Send(%s, %+v):\n%s, %s, want\n%s, %s", show(d), p, show(got), heard(said), show(want), heard(wantSaid))
	}
}

func wantCloseAgain(t *testing.T, d api.Drive) {
	t.Helper()
	got, said := Close(d)
	want, wantSaid := closeAgain(d)
	if !same(got, want) || said != wantSaid {
		t.Fatalf("Close(%s):\n%s, %s, want\n%s, %s", show(d), show(got), heard(said), show(want), heard(wantSaid))
	}
}

// everyPacket: packets of every kind, number and ack, with and without bytes, to an end that calls or not, some of them its own.
func everyPacket(caller bool) []string {
	var l []string
	for _, kind := range []int{0, 1, 2, 3, 5} {
		for number := range 32 {
			for _, s := range []string{"", "ab", "\x00\x30\x02"} {
				f := api.IFrame{Kind: kind, Number: number, Ack: number, Channel: number % 8, Caller: caller == (number%9 == 4), Data: s}
				l = append(l, packet(f))
				f.Ack = (number*7 + 3) % 32
				l = append(l, packet(f))
			}
		}
	}
	for _, s := range []string{sync(0, 5, 0), sync(5, 0, 0), sync(256, 255, 0), sync(65535, 1, 0)} {
		l = append(l, s, byCaller(s))
	}
	return l
}

// everyState: right drives of every phase, mark and window, as far as they tell packets apart.
func everyState() []api.Drive {
	var l []api.Drive
	for phase := 1; phase <= 5; phase++ {
		for _, step := range []int{-1, 0, 1, 29, 31} {
			for wait := range 4 {
				for i, room := range []int{1, 3, 16} {
					d := api.Drive{Letter: 'i', Phase: phase, Caller: i != 1, Step: step, Size: 64, Room: room, Wants: []int{1, 0, 26}[i], Wait: wait, Tries: 5, At: 100}
					if phase != 1 {
						d.Win = api.Window{Mod: 32, Size: room, Base: []int{29, 31, 25}[i], List: texts(min(room, 11))}
						d.Ahead = [][]api.IFrame{nil, ahead(1, 2, 5, 15), ahead(28, 31, 0, 1, 9)}[i]
					}
					if i > 0 {
						d.Queue = []api.Piece{{Data: "queue"}, {Channel: 3, Data: strings.Repeat("q", 70)}}
					}
					if Right(d) {
						l = append(l, d)
					}
				}
			}
		}
	}
	return l
}

// P16.2 to P16.5: every packet in every state, held against the second writing.
func TestEveryPacketAgain(t *testing.T) {
	packets := map[bool][]string{false: everyPacket(false), true: everyPacket(true)}
	states := everyState()
	if len(states) != 300 {
		t.Fatalf("%d states", len(states))
	}
	for _, d := range states {
		for _, s := range packets[d.Caller] {
			wantFeedAgain(t, d, s)
		}
		for tries := range 14 {
			d.Tries = tries
			d.Buf = []string{"", "\x07\x01"}[tries%2]
			wantTickAgain(t, d)
			wantCloseAgain(t, d)
			wantSendAgain(t, d, api.Piece{Channel: tries - 2, Data: strings.Repeat("s", tries*20)})
		}
	}
}

// randomPacket: a packet that may come, mostly from the other end, or a piece of one, or bytes that are none.
func randomPacket(r *rand.Rand, caller bool) string {
	f := api.IFrame{Kind: []int{0, 0, 0, 1, 2, 3, 5}[r.IntN(7)], Number: r.IntN(32), Ack: r.IntN(32), Channel: r.IntN(8), Caller: caller == (r.IntN(8) == 0)}
	switch {
	case f.Kind == 1 && r.IntN(4) > 0:
		f.Data = string([]byte{byte(r.IntN(3)), byte(r.IntN(256)), byte(r.IntN(20))})
	case f.Kind == 0 || r.IntN(3) == 0:
		f.Data = randomBytes(r, r.IntN(40))
	}
	s := packet(f)
	switch r.IntN(12) {
	case 0:
		return s[:r.IntN(len(s))]
	case 1:
		return s[r.IntN(len(s)):]
	case 2:
		return randomBytes(r, r.IntN(20)) + s
	}
	return s
}

// likelyPackets: what an end that answers as it should would say to d, some of it early, lost, and twice.
func likelyPackets(d api.Drive, r *rand.Rand) string {
	f := api.IFrame{Ack: (d.Win.Base + r.IntN(1+len(d.Win.List)) + 31) % 32, Caller: !d.Caller}
	switch {
	case d.Phase == api.Opening:
		f.Kind, f.Data = api.ISync, string([]byte{0, byte(1 + r.IntN(255)), byte(1 + r.IntN(16))})
		return packet(f)
	case r.IntN(3) == 0:
		f.Kind = api.IAck
		return packet(f)
	case r.IntN(3) == 0:
		f.Kind, f.Number = api.INak, (f.Ack+1)%32
		return packet(f)
	}
	s := ""
	for range 1 + r.IntN(6) {
		f.Number, f.Channel, f.Data = (d.Wants+r.IntN(6))%32, r.IntN(3), randomBytes(r, 1+r.IntN(30))
		s += packet(f)
	}
	return s
}

// P16.2 to P16.5: walks of all calls through all phases, held against the second writing.
func TestWalksAgain(t *testing.T) {
	r := rand.New(rand.NewPCG(16, 1))
	phases := map[int]int{}
	early := 0
	for range 800 {
		d := begunAnyhow(t, r)
		for range 60 {
			phases[d.Phase]++
			early += len(d.Ahead)
			switch r.IntN(8) {
			case 0:
				wantTickAgain(t, d)
				d, _ = Tick(d)
			case 1, 2:
				p := api.Piece{Channel: r.IntN(10) - 1, Data: randomBytes(r, r.IntN(200))}
				wantSendAgain(t, d, p)
				d, _ = Send(d, p)
			case 3:
				if r.IntN(10) == 0 {
					wantCloseAgain(t, d)
					d, _ = Close(d)
				}
			default:
				s := likelyPackets(d, r)
				for r.IntN(3) == 0 {
					s += randomPacket(r, d.Caller)
				}
				wantFeedAgain(t, d, s)
				d, _, _ = Feed(d, s)
			}
		}
	}
	for phase := 1; phase <= 4; phase++ {
		if phases[phase] < 500 {
			t.Errorf("phase %d: only %d times", phase, phases[phase])
		}
	}
	if early < 5000 {
		t.Errorf("only %d early", early)
	}
}

// begunAnyhow: a drive that Begin made.
func begunAnyhow(t *testing.T, r *rand.Rand) api.Drive {
	t.Helper()
	size := 1 + r.IntN(100)
	if r.IntN(3) == 0 {
		size = 1 + r.IntN(4095)
	}
	d, _, e := Begin(r.IntN(2) == 0, size, 1+r.IntN(16))
	if e != api.OK {
		t.Fatal(e)
	}
	return d
}
