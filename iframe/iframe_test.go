package iframe

import (
	"fmt"
	"hash/crc32"
	"math"
	"math/rand/v2"
	"strings"
	"testing"

	"postchaise/api"
)

func allKinds() []int { return []int{api.IData, api.ISync, api.IAck, api.INak, api.IClose} }

func bytesOf(numbers ...int) string {
	b := make([]byte, len(numbers))
	for i, n := range numbers {
		b[i] = byte(n)
	}
	return string(b)
}

// headOf: a head whose last byte is right, whatever its four bytes ahead say.
func headOf(number, ack, kind, size int) string {
	return bytesOf(7, number, ack, kind, size, number^ack^kind^size)
}

// bodyOf: data with its sum by the library's CRC-32, nothing of none.
func bodyOf(data string) string {
	if data == "" {
		return ""
	}
	sum := int(crc32.ChecksumIEEE([]byte(data)))
	return data + bytesOf(sum>>24, sum>>16, sum>>8, sum)
}

// packetOf: P12.1, written once more.
func packetOf(f api.IFrame) string {
	kind := f.Kind*32 + len(f.Data)/256
	if f.Caller {
		kind += 16
	}
	return headOf(f.Number*8+f.Channel, f.Ack*8+f.Channel, kind, len(f.Data)%256) + bodyOf(f.Data)
}

// randomBytes: n bytes that are the same in every run; many of them are 7, 0 or small.
func randomBytes(r *rand.Rand, n int) string {
	b := make([]byte, n)
	for i := range b {
		switch r.IntN(4) {
		case 0:
			b[i] = 7
		case 1:
			b[i] = byte(r.IntN(12))
		default:
			b[i] = byte(r.IntN(256))
		}
	}
	return string(b)
}

// randomFrame: a frame that may be written, with fewer than limit bytes, often with few or none.
func randomFrame(r *rand.Rand, limit int) api.IFrame {
	return api.IFrame{
		Kind:    allKinds()[r.IntN(5)],
		Number:  r.IntN(32),
		Ack:     r.IntN(32),
		Channel: r.IntN(8),
		Caller:  r.IntN(2) == 0,
		Data:    randomBytes(r, r.IntN(1+r.IntN(limit))),
	}
}

// turned: s with other bytes in the place of as many of its own from at on.
func turned(s string, at int, others string) string {
	return s[:at] + others + s[at+len(others):]
}

// show: f as a failing test tells it, its bytes quoted.
func show(f api.IFrame) string {
	return fmt.Sprintf("{%d, %d %d %d, %v %q}", f.Kind, f.Number, f.Ack, f.Channel, f.Caller, f.Data)
}

func written(t *testing.T, f api.IFrame) string {
	t.Helper()
	s, e := Write(f)
	if e != api.OK {
		t.Fatalf("Write(%s): %d", show(f), e)
	}
	return s
}

func wantWrite(t *testing.T, f api.IFrame, want string) {
	t.Helper()
	if s, e := Write(f); s != want || e != api.OK {
		t.Errorf("Write(%s): %q, %d, want %q", show(f), s, e, want)
	}
}

func wantNoWrite(t *testing.T, f api.IFrame, want api.Errno) {
	t.Helper()
	if s, e := Write(f); s != "" || e != want {
		t.Errorf("Write(%s): %q, %d, want %d", show(f), s, e, want)
	}
}

func wantRead(t *testing.T, s string, want api.IFrame, size int) {
	t.Helper()
	if f, n, e := Read(s); f != want || n != size || e != api.OK {
		t.Errorf("Read(%q): %s, %d, %d, want %s, %d", s, show(f), n, e, show(want), size)
	}
}

func wantNoRead(t *testing.T, s string, want api.Errno) {
	t.Helper()
	if f, n, e := Read(s); f != (api.IFrame{}) || n != 0 || e != want {
		t.Errorf("Read(%q): %s, %d, %d, want %d", s, show(f), n, e, want)
	}
}

func wantScan(t *testing.T, s string, want api.IFrame, from, to int) {
	t.Helper()
	if f, x, ok := Scan(s); f != want || x != (api.Span{From: from, To: to}) || !ok {
		t.Errorf("Scan(%q): %s, %v, %v, want %s, %d to %d", s, show(f), x, ok, show(want), from, to)
	}
}

func wantNoScan(t *testing.T, s string, at int) {
	t.Helper()
	if f, x, ok := Scan(s); f != (api.IFrame{}) || x != (api.Span{From: at, To: at}) || ok {
		t.Errorf("Scan(%q): %s, %v, %v, want none, %d", s, show(f), x, ok, at)
	}
}

// P12.1, P12.2: worked out beside the program.
func TestByHand(t *testing.T) {
	for _, c := range []struct {
		f api.IFrame
		s string
	}{
		{api.IFrame{Kind: api.IAck, Number: 1, Ack: 2}, "\x07\x08\x10\x40\x00\x58"},
		{api.IFrame{}, "\x07\x00\x00\x00\x00\x00"},
		{api.IFrame{Kind: api.INak, Number: 31, Ack: 31, Channel: 7, Caller: true}, "\x07\xff\xff\x70\x00\x70"},
		{api.IFrame{Kind: api.IClose}, "\x07\x00\x00\xa0\x00\xa0"},
		{api.IFrame{Kind: api.ISync, Ack: 31, Caller: true, Data: "\x10\x00\x10"}, "\x07\x00\xf8\x30\x03\xcb" + "\x10\x00\x10" + "\xfe\xd0\x6a\x06"},
		{api.IFrame{Number: 3, Channel: 1, Caller: true, Data: "hello"}, "\x07\x19\x01\x10\x05\x0d" + "hello" + "\x36\x10\xa6\x86"},
		{api.IFrame{Number: 1, Channel: 5, Data: "123456789"}, "\x07\x0d\x05\x00\x09\x01" + "123456789" + "\xcb\xf4\x39\x26"},
		{api.IFrame{Data: "\x00"}, "\x07\x00\x00\x00\x01\x01" + "\x00" + "\xd2\x02\xef\x8d"},
		{api.IFrame{Number: 2, Ack: 1, Data: strings.Repeat("a", 255)}, "\x07\x10\x08\x00\xff\xe7" + strings.Repeat("a", 255) + "\xa2\xc4\x0b\x3d"},
		{api.IFrame{Number: 2, Ack: 1, Data: strings.Repeat("a", 256)}, "\x07\x10\x08\x01\x00\x19" + strings.Repeat("a", 256) + "\xb0\x7d\x36\x59"},
		{api.IFrame{Number: 1, Data: strings.Repeat("x", 300)}, "\x07\x08\x00\x01\x2c\x25" + strings.Repeat("x", 300) + "\x1b\x43\x2d\x13"},
		{api.IFrame{Number: 31, Ack: 30, Channel: 6, Caller: true, Data: strings.Repeat("\x07", 4095)}, "\x07\xfe\xf6\x1f\xff\xe8" + strings.Repeat("\x07", 4095) + "\x07\x72\x3a\x9e"},
	} {
		wantWrite(t, c.f, c.s)
		wantRead(t, c.s, c.f, len(c.s))
	}
}

// P12.1, P12.2: every kind with every number, acknowledgement and channel, of both ends.
func TestEveryHead(t *testing.T) {
	for i := range 5 * 32 * 32 * 8 * 2 {
		f := api.IFrame{Kind: allKinds()[i%5], Number: i / 5 % 32, Ack: i / 160 % 32, Channel: i / 5120 % 8, Caller: i/40960 == 1}
		want := packetOf(f)
		wantWrite(t, f, want)
		wantRead(t, want, f, 6)
	}
}

// P12.1, P12.2: data of every length, of every kind.
func TestEveryLength(t *testing.T) {
	r := rand.New(rand.NewPCG(12, 1))
	for n := range 4096 {
		f := randomFrame(r, 1)
		f.Data = randomBytes(r, n)
		want := packetOf(f)
		wantWrite(t, f, want)
		wantRead(t, want, f, len(want))
		if n > 0 && len(want) != 10+n || n == 0 && len(want) != 6 {
			t.Errorf("%d bytes are written as %d", n, len(want))
		}
	}
}

// P12.1: kinds, numbers and channels that are none; that counts ahead of the data's length.
func TestWriteNone(t *testing.T) {
	far := []int{256, 257, 1 << 32, 1<<32 + 1, 1<<61 + 1, -1, -8, -32, -256, -1 << 32, math.MaxInt, math.MinInt}
	for _, data := range []string{"", "x", strings.Repeat("x", 4095), strings.Repeat("x", 4096), strings.Repeat("x", 9000)} {
		good := api.IFrame{Number: 1, Ack: 1, Channel: 1, Data: data}
		for _, kind := range append([]int{4, 6, 7, 8, 9, 13, 32}, far...) {
			f := good
			f.Kind = kind
			wantNoWrite(t, f, api.ErrArg)
		}
		for _, n := range append([]int{32, 33, 63, 64}, far...) {
			f := good
			f.Number = n
			wantNoWrite(t, f, api.ErrArg)
			f.Ack = n
			wantNoWrite(t, f, api.ErrArg)
			f.Number = 1
			wantNoWrite(t, f, api.ErrArg)
		}
		for _, n := range append([]int{8, 9, 15, 16, 31}, far...) {
			f := good
			f.Channel = n
			wantNoWrite(t, f, api.ErrArg)
		}
	}
}

// P12.1: MaxLoad bytes are too many, of every kind; one fewer is not.
func TestWriteLong(t *testing.T) {
	for _, kind := range allKinds() {
		f := api.IFrame{Kind: kind, Number: 31, Ack: 31, Channel: 7, Caller: true}
		for _, n := range []int{4096, 4097, 5000, 8192, 65536, 1 << 20} {
			f.Data = strings.Repeat("l", n)
			wantNoWrite(t, f, api.ErrLong)
		}
		f.Data = strings.Repeat("l", 4095)
		wantWrite(t, f, packetOf(f))
	}
}

// P12.2: what is no beginning of a packet, one thing wrong ahead of others.
func TestReadInOrder(t *testing.T) {
	wantNoRead(t, "", api.ErrShort)
	for i := range 256 {
		want := api.ErrForm
		if i == 7 {
			want = api.ErrShort
		}
		wantNoRead(t, bytesOf(i), want)
		wantNoRead(t, bytesOf(i, 8, 16, 64, 0), want)
	}
	wantNoRead(t, "\x06\x08\x10\x40\x00\x58", api.ErrForm)
	wantNoRead(t, "x\x07\x08\x10\x40\x00\x58", api.ErrForm)
	// Five bytes that can be no head's beginning are short all the same.
	wantNoRead(t, "\x07\x01\x02\xff\xff", api.ErrShort)
	wantNoRead(t, "\x07\x01\x02\xff\xff\x00", api.ErrForm)
	wantNoRead(t, headOf(1, 2, 255, 255), api.ErrForm)
	// Heads that are wrong in one thing each, with data that is not there, and with data whose sum is wrong.
	for _, head := range []string{"\x07\x08\x10\x00\x05\x00", headOf(8, 16, 4*32, 5), headOf(8, 16, 6*32, 5), headOf(8, 16, 7*32, 5), headOf(8, 17, 0, 5), headOf(9, 16, 0, 5)} {
		for _, tail := range []string{"", "hello", "hello\x00\x00\x00\x00", bodyOf("hello")} {
			wantNoRead(t, head+tail, api.ErrForm)
		}
	}
	head, body := headOf(8, 16, 0, 5), bodyOf("hello")
	wantNoRead(t, head, api.ErrShort)
	wantNoRead(t, head+"hello", api.ErrShort)
	wantNoRead(t, head+"hellp"+body[5:8], api.ErrShort)
	wantNoRead(t, head+"hellp"+body[5:], api.ErrSum)
	wantNoRead(t, head+"hellp"+body[5:]+"more", api.ErrSum)
	wantNoRead(t, head+"hello\x00\x00\x00\x00", api.ErrSum)
	wantRead(t, head+body, api.IFrame{Number: 1, Ack: 2, Data: "hello"}, 15)
}

// P12.2: every two bytes of numbers: the channels are alike, or there is no head.
func TestReadChannels(t *testing.T) {
	for number := range 256 {
		for ack := range 256 {
			s := headOf(number, ack, 64, 0)
			if number%8 != ack%8 {
				wantNoRead(t, s, api.ErrForm)
				continue
			}
			wantRead(t, s, api.IFrame{Kind: api.IAck, Number: number / 8, Ack: ack / 8, Channel: number % 8}, 6)
		}
	}
}

// P12.2: every two bytes of a kind and a size, with nothing behind them, and with all that they ask for but a byte.
func TestReadKinds(t *testing.T) {
	zeros := strings.Repeat("\x00", 5000)
	for kind := range 256 {
		for low := range 256 {
			s := headOf(8, 8, kind, low)
			size := kind%16*256 + low
			switch kind / 32 {
			case 4, 6, 7:
				wantNoRead(t, s, api.ErrForm)
				wantNoRead(t, s+zeros, api.ErrForm)
			default:
				if size == 0 {
					wantRead(t, s, api.IFrame{Kind: kind / 32, Number: 1, Ack: 1, Caller: kind/16%2 == 1}, 6)
					continue
				}
				wantNoRead(t, s, api.ErrShort)
				wantNoRead(t, s+zeros[:size+3], api.ErrShort)
			}
		}
	}
}

// P12.2: the last byte of a head is told by all four ahead of it.
func TestReadLastByte(t *testing.T) {
	for _, f := range []api.IFrame{{}, {Kind: api.IClose, Number: 31, Ack: 30, Channel: 7, Caller: true}, {Number: 9, Ack: 5, Channel: 2, Data: strings.Repeat("y", 700)}} {
		s := packetOf(f)
		for i := range 256 {
			if byte(i) != s[5] {
				wantNoRead(t, turned(s, 5, bytesOf(i)), api.ErrForm)
			}
		}
	}
}

// P12.2: sums that are another one, in one byte and in all.
func TestReadSums(t *testing.T) {
	r := rand.New(rand.NewPCG(12, 2))
	for _, data := range []string{"\x00", "hello", strings.Repeat("s", 300), strings.Repeat("\x00", 4095)} {
		s := packetOf(api.IFrame{Data: data})
		for at := len(s) - 4; at < len(s); at++ {
			for i := range 256 {
				if byte(i) != s[at] {
					wantNoRead(t, turned(s, at, bytesOf(i)), api.ErrSum)
				}
			}
		}
		for range 100 {
			if other := randomBytes(r, 4); other != s[len(s)-4:] {
				wantNoRead(t, turned(s, len(s)-4, other), api.ErrSum)
			}
		}
		sum := s[len(s)-4:]
		wantNoRead(t, turned(s, len(s)-4, bytesOf(int(sum[3]), int(sum[2]), int(sum[1]), int(sum[0]))), api.ErrSum)
	}
}

// P12.2: no data, no sum: what stands behind such a head is not its own.
func TestReadNoData(t *testing.T) {
	for _, kind := range allKinds() {
		f := api.IFrame{Kind: kind, Number: 4, Ack: 5, Channel: 6}
		for _, tail := range []string{"", "\x00", "\x00\x00\x00\x00", "\xff\xff\xff\xff", "hello", packetOf(f)} {
			wantRead(t, packetOf(f)+tail, f, 6)
		}
	}
}

// readAgain: P12.2, written once more.
func readAgain(s string) (api.IFrame, int, api.Errno) {
	none := api.IFrame{}
	switch {
	case len(s) == 0:
		return none, 0, api.ErrShort
	case s[0] != 7:
		return none, 0, api.ErrForm
	case len(s) < 6:
		return none, 0, api.ErrShort
	case s[1]^s[2]^s[3]^s[4] != s[5], s[3]/32 == 4, s[3]/32 > 5, s[1]%8 != s[2]%8:
		return none, 0, api.ErrForm
	}
	f := api.IFrame{Kind: int(s[3] / 32), Number: int(s[1] / 8), Ack: int(s[2] / 8), Channel: int(s[1] % 8), Caller: s[3]/16%2 == 1}
	size := int(s[3]%16)*256 + int(s[4])
	if size == 0 {
		return f, 6, api.OK
	}
	if len(s) < 10+size {
		return none, 0, api.ErrShort
	}
	f.Data = s[6 : 6+size]
	if s[6:10+size] != bodyOf(f.Data) {
		return none, 0, api.ErrSum
	}
	return f, 10 + size, api.OK
}

// scanAgain: P12.3, written once more.
func scanAgain(s string) (api.IFrame, api.Span, bool) {
	short, good := len(s), -1
	for at := len(s) - 1; at >= 0; at-- {
		switch _, _, e := readAgain(s[at:]); e {
		case api.ErrShort:
			short = at
		case api.OK:
			good = at
		}
	}
	if good < 0 || short < good {
		return api.IFrame{}, api.Span{From: short, To: short}, false
	}
	f, n, _ := readAgain(s[good:])
	return f, api.Span{From: good, To: good + n}, true
}

// wantAgain: Read and Scan of s are those of their second writings; whether a packet was found, and what Read said.
func wantAgain(t *testing.T, s string) (api.Errno, bool) {
	t.Helper()
	f, n, e := Read(s)
	if g, m, want := readAgain(s); f != g || n != m || e != want {
		t.Fatalf("Read(%q): %s, %d, %d, want %s, %d, %d", s, show(f), n, e, show(g), m, want)
	}
	if e == api.OK {
		wantWrite(t, f, s[:n])
	}
	f, x, ok := Scan(s)
	if g, y, want := scanAgain(s); f != g || x != y || ok != want {
		t.Fatalf("Scan(%q): %s, %v, %v, want %s, %v, %v", s, show(f), x, ok, show(g), y, want)
	}
	if ok {
		wantWrite(t, f, s[x.From:x.To])
	}
	return e, ok
}

// randomStream: packets, whole, cut and damaged, with other bytes between.
func randomStream(r *rand.Rand) string {
	var b strings.Builder
	for range r.IntN(6) {
		s := packetOf(randomFrame(r, 40))
		switch r.IntN(6) {
		case 0:
			s = s[:r.IntN(len(s)+1)]
		case 1:
			s = randomBytes(r, r.IntN(12)) + s
		case 2:
			s = turned(s, r.IntN(len(s)), bytesOf(r.IntN(256)))
		case 3:
			s = headOf(r.IntN(256), r.IntN(256), r.IntN(8)*32, r.IntN(20)) + randomBytes(r, r.IntN(30))
		}
		b.WriteString(s)
	}
	return b.String()
}

// P12.2, P12.3: Read and Scan of many texts, held against second writings; what is read is written so (P12.4).
func TestManyStreams(t *testing.T) {
	r := rand.New(rand.NewPCG(12, 3))
	errors, found := map[api.Errno]int{}, 0
	for range 20000 {
		e, ok := wantAgain(t, randomStream(r))
		errors[e]++
		if ok {
			found++
		}
	}
	for _, e := range []api.Errno{api.OK, api.ErrShort, api.ErrForm, api.ErrSum} {
		if errors[e] < 100 {
			t.Errorf("only %d texts were read with %d", errors[e], e)
		}
	}
	if found < 1000 || found > 19000 {
		t.Errorf("%d of the texts had a packet", found)
	}
}

// R1: bytes without order, and heads that ask for the most.
func TestManyBytes(t *testing.T) {
	r := rand.New(rand.NewPCG(12, 4))
	for range 20000 {
		wantAgain(t, randomBytes(r, r.IntN(80)))
	}
	most := strings.Repeat(headOf(0, 0, 15, 255), 2000)
	wantAgain(t, most)
}

// P12.3: the places of what is found, and of what may become a packet.
func TestScan(t *testing.T) {
	ack := api.IFrame{Kind: api.IAck, Number: 1, Ack: 2}
	small := packetOf(ack)
	data := api.IFrame{Number: 3, Ack: 4, Channel: 5, Data: "12" + small + "34"}
	packet := packetOf(data)
	wantNoScan(t, "", 0)
	wantNoScan(t, "x", 1)
	wantNoScan(t, "\x07", 0)
	wantNoScan(t, "xyz", 3)
	wantNoScan(t, "xyz\x07", 3)
	wantNoScan(t, "xyz"+small[:5], 3)
	wantNoScan(t, turned(small, 5, "\x59"), 6)
	wantScan(t, small, ack, 0, 6)
	wantScan(t, "ab"+small, ack, 2, 8)
	wantScan(t, small+small, ack, 0, 6)
	wantScan(t, "\x07"+small, ack, 1, 7)
	wantScan(t, turned(small, 5, "\x59")+small, ack, 6, 12)
	wantScan(t, packet+small, data, 0, 20)
	wantScan(t, "xx"+packet, data, 2, 22)
	// A packet inside one whose bytes are not all there is not told before they are, or are found to be damaged.
	wantNoScan(t, "x"+packet[:14], 1)
	wantNoScan(t, "x"+packet[:19], 1)
	wantScan(t, "x"+packet[:19]+"\xff", ack, 9, 15)
	wantScan(t, "x"+packet, data, 1, 21)
}

// P12.3: a place ahead of which nothing is short counts, even if others behind it are short too.
func TestScanFirstShort(t *testing.T) {
	long := packetOf(api.IFrame{Data: strings.Repeat("l", 64)})
	wantNoScan(t, "ab"+long[:20]+"\x07", 2)
	wantNoScan(t, "ab"+long[:20]+long[:6], 2)
	wantNoScan(t, "\x07\x07\x07", 0)
	wantNoScan(t, "\x07\x07\x07\x07\x07\x07\x07", 2)
	wantNoScan(t, strings.Repeat("\x07", 1000), 995)
	wantNoScan(t, strings.Repeat("x", 1000), 1000)
}

// P12.4: what is written is read as it was, whatever stands behind it.
func TestReadBack(t *testing.T) {
	r := rand.New(rand.NewPCG(12, 5))
	for range 1000 {
		f := randomFrame(r, 4096)
		s := written(t, f)
		for _, tail := range []string{"", "\x00", "\x07", randomBytes(r, r.IntN(50)), s, s[:len(s)-1]} {
			wantRead(t, s+tail, f, len(s))
			wantScan(t, s+tail, f, 0, len(s))
		}
	}
}

// P12.5: a packet that is not whole, at each cut.
func TestCuts(t *testing.T) {
	r := rand.New(rand.NewPCG(12, 6))
	for i := range 200 {
		f := randomFrame(r, 200)
		if i < 3 {
			f.Data = strings.Repeat("c", []int{255, 256, 4095}[i])
		}
		s := written(t, f)
		for n := range len(s) {
			wantNoRead(t, s[:n], api.ErrShort)
			wantNoScan(t, s[:n], 0)
		}
	}
}

// P12.6: one byte of the head turned, in each way: its first byte or its last one tells it.
func TestHeadTurned(t *testing.T) {
	r := rand.New(rand.NewPCG(12, 7))
	for range 60 {
		s := written(t, randomFrame(r, 500))
		for at := range 6 {
			for i := range 256 {
				if byte(i) != s[at] {
					wantNoRead(t, turned(s, at, bytesOf(i)), api.ErrForm)
				}
			}
		}
	}
}

// P12.6: every one byte of data turned, in each way.
func TestDataTurned(t *testing.T) {
	r := rand.New(rand.NewPCG(12, 8))
	for range 10 {
		f := randomFrame(r, 60)
		s := written(t, f)
		for at := 6; at < 6+len(f.Data); at++ {
			for i := range 256 {
				if byte(i) != s[at] {
					wantNoRead(t, turned(s, at, bytesOf(i)), api.ErrSum)
				}
			}
		}
	}
}

// P12.6: bits turned within up to four neighbouring bytes of data, its first and its last ones too.
func TestNeighboursTurned(t *testing.T) {
	r := rand.New(rand.NewPCG(12, 9))
	for range 1000 {
		f := randomFrame(r, 300)
		s := written(t, f)
		width := min(len(f.Data), 1+r.IntN(4))
		last := 6 + len(f.Data) - width
		for _, at := range []int{6, 6 + r.IntN(len(f.Data)-width+1), last} {
			other := randomBytes(r, width)
			if other != s[at:at+width] {
				wantNoRead(t, turned(s, at, other), api.ErrSum)
			}
		}
	}
	// Each pair of bits among 32 neighbouring ones.
	s := packetOf(api.IFrame{Number: 1, Data: "neighbours"})
	for first := range 32 {
		for second := range first {
			b := []byte(s)
			b[9+first/8] ^= 1 << (first % 8)
			b[9+second/8] ^= 1 << (second % 8)
			wantNoRead(t, string(b), api.ErrSum)
		}
	}
}

// P12.3, P12.6: a packet that was damaged is passed over, and the next one found.
func TestFoundBehindDamage(t *testing.T) {
	r := rand.New(rand.NewPCG(12, 10))
	next := api.IFrame{Kind: api.INak, Number: 2, Ack: 9, Caller: true}
	for range 1000 {
		f := randomFrame(r, 50)
		f.Data = strings.ReplaceAll(f.Data+"d", "\x07", "\x08")
		s := packetOf(f)
		at := 6 + r.IntN(len(f.Data))
		s = turned(s, at, bytesOf(int(s[at]^0x40)))
		if strings.Contains(s[1:], "\x07") { // there may be a head's beginning, which is not what is asked here
			continue
		}
		wantScan(t, s+packetOf(next), next, len(s), len(s)+6)
	}
}
