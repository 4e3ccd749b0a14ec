package gframe

import (
	"fmt"
	"math"
	"math/rand/v2"
	"slices"
	"strings"
	"testing"

	"postchaise/api"
	"postchaise/check"
)

func allSizes() []int { return []int{32, 64, 128, 256, 512, 1024, 2048, 4096} }

// headOf: a head whose last byte is right, whatever it says.
func headOf(code, sum, control int) string {
	b := []byte{16, byte(code), byte(sum % 256), byte(sum / 256), byte(control), 0}
	b[5] = b[1] ^ b[2] ^ b[3] ^ b[4]
	return string(b)
}

// packetOf: a packet with a body whose head and sum are right, whatever the body says.
func packetOf(code, control int, body string) string {
	return headOf(code, check.Packet(body, control), control) + body
}

func controlOf(high, low int) string {
	return headOf(9, check.Control(high*8+low), high*8+low)
}

func zeros(n int) string { return strings.Repeat("\x00", n) }

// randomBytes: n bytes that are the same in every run; many of them are 16, 0 or small.
func randomBytes(r *rand.Rand, n int) string {
	b := make([]byte, n)
	for i := range b {
		switch r.IntN(4) {
		case 0:
			b[i] = 16
		case 1:
			b[i] = byte(r.IntN(12))
		default:
			b[i] = byte(r.IntN(256))
		}
	}
	return string(b)
}

// randomFrame: a frame that may be written, of one of the least sizes or, seldom, any.
func randomFrame(r *rand.Rand) api.GFrame {
	f := api.GFrame{High: r.IntN(8), Low: r.IntN(8)}
	f.Type = []int{api.GControl, api.GLong, api.GShort}[r.IntN(3)]
	if f.Type == api.GControl {
		return f
	}
	f.Size = allSizes()[r.IntN(1+r.IntN(8))]
	n := f.Size
	if f.Type == api.GShort {
		n = r.IntN(f.Size)
	}
	f.Data = randomBytes(r, n)
	return f
}

// show: f as a failing test tells it, its bytes quoted.
func show(f api.GFrame) string {
	return fmt.Sprintf("{%d %d %d, %d %q}", f.Type, f.High, f.Low, f.Size, f.Data)
}

func written(t *testing.T, f api.GFrame) string {
	t.Helper()
	s, e := Write(f)
	if e != api.OK {
		t.Fatalf("Write(%s): %d", show(f), e)
	}
	return s
}

func wantWrite(t *testing.T, f api.GFrame, want string) {
	t.Helper()
	if s, e := Write(f); s != want || e != api.OK {
		t.Errorf("Write(%s): %q, %d, want %q", show(f), s, e, want)
	}
}

func wantNoWrite(t *testing.T, f api.GFrame) {
	t.Helper()
	if s, e := Write(f); s != "" || e != api.ErrArg {
		t.Errorf("Write(%s): %q, %d, want ErrArg", show(f), s, e)
	}
}

func wantRead(t *testing.T, s string, want api.GFrame, size int) {
	t.Helper()
	if f, n, e := Read(s); f != want || n != size || e != api.OK {
		t.Errorf("Read(%q): %s, %d, %d, want %s, %d", s, show(f), n, e, show(want), size)
	}
}

func wantNoRead(t *testing.T, s string, want api.Errno) {
	t.Helper()
	if f, n, e := Read(s); f != (api.GFrame{}) || n != 0 || e != want {
		t.Errorf("Read(%q): %s, %d, %d, want %d", s, show(f), n, e, want)
	}
}

func wantScan(t *testing.T, s string, want api.GFrame, from, to int) {
	t.Helper()
	if f, x, ok := Scan(s); f != want || x != (api.Span{From: from, To: to}) || !ok {
		t.Errorf("Scan(%q): %s, %v, %v, want %s, %d to %d", s, show(f), x, ok, show(want), from, to)
	}
}

func wantNoScan(t *testing.T, s string, at int) {
	t.Helper()
	if f, x, ok := Scan(s); f != (api.GFrame{}) || x != (api.Span{From: at, To: at}) || ok {
		t.Errorf("Scan(%q): %s, %v, %v, want none, %d", s, show(f), x, ok, at)
	}
}

// P11.1
func TestCode(t *testing.T) {
	for i, size := range allSizes() {
		if got := Code(size); got != i+1 {
			t.Errorf("Code(%d): %d, want %d", size, got, i+1)
		}
	}
}

// P11.1: all that is no size.
func TestCodeOfNoSize(t *testing.T) {
	others := []int{8192, 16384, 1 << 16, 1 << 32, 32 + 1<<32, 4096 + 1<<32, -32 - 1<<32, 1 << 62, math.MaxInt, math.MinInt, math.MinInt + 32}
	for i := -5000; i < 10000; i++ {
		if !slices.Contains(allSizes(), i) {
			others = append(others, i)
		}
	}
	for _, size := range others {
		if got := Code(size); got != 0 {
			t.Errorf("Code(%d): %d, want 0", size, got)
		}
	}
}

// P11.2, P11.3: worked out beside the program.
func TestByHand(t *testing.T) {
	const letters = "abcdefghijklmnopqrstuvwxyzABCDEF"
	for _, c := range []struct {
		f api.GFrame
		s string
	}{
		{api.GFrame{High: 7, Low: 7}, "\x10\x09\x6b\xaa\x3f\xf7"},
		{api.GFrame{}, "\x10\x09\xaa\xaa\x00\x09"},
		{api.GFrame{High: api.GReady, Low: 3}, "\x10\x09\x87\xaa\x23\x07"},
		{api.GFrame{Type: api.GLong, High: 1, Size: 32, Data: letters}, "\x10\x01\xed\x3b\x88\x5f" + letters},
		{api.GFrame{Type: api.GLong, High: 7, Low: 7, Size: 64, Data: strings.Repeat("a", 64)}, "\x10\x02\xbc\x2d\xbf\x2c" + strings.Repeat("a", 64)},
		{api.GFrame{Type: api.GShort, High: 3, Low: 5, Size: 32, Data: "abc"}, "\x10\x01\x12\xbd\xdd\x73" + "\x1dabc" + zeros(28)},
		{api.GFrame{Type: api.GShort, Size: 32}, "\x10\x01\xa9\x0e\xc0\x66" + "\x20" + zeros(31)},
		{api.GFrame{Type: api.GShort, Size: 256, Data: "abc"}, "\x10\x04\x7f\xc4\xc0\x7f" + "\xfd\x01abc" + zeros(251)},
		{api.GFrame{Type: api.GShort, Size: 256, Data: strings.Repeat("q", 128)}, "\x10\x04\xcc\x13\xc0\x1b" + "\x80\x01" + strings.Repeat("q", 128) + zeros(126)},
		{api.GFrame{Type: api.GShort, Low: 7, Size: 4096}, "\x10\x08\x61\xb9\xc7\x17" + "\x80\x20" + zeros(4094)},
	} {
		wantWrite(t, c.f, c.s)
		wantRead(t, c.s, c.f, len(c.s))
	}
}

// P11.2: every control packet.
func TestWriteControl(t *testing.T) {
	for high := range 8 {
		for low := range 8 {
			f := api.GFrame{Type: api.GControl, High: high, Low: low}
			wantWrite(t, f, controlOf(high, low))
			wantRead(t, controlOf(high, low), f, 6)
		}
	}
}

// P11.2: long packets of every size, with every control byte.
func TestWriteLong(t *testing.T) {
	r := rand.New(rand.NewPCG(11, 2))
	for i, size := range allSizes() {
		for part := range 64 {
			f := api.GFrame{Type: api.GLong, High: part / 8, Low: part % 8, Size: size, Data: randomBytes(r, size)}
			want := packetOf(i+1, 128+part, f.Data)
			wantWrite(t, f, want)
			wantRead(t, want, f, 6+size)
		}
	}
}

// shortBody: the field of P11.2, written once more.
func shortBody(data string, size int) string {
	b := make([]byte, size)
	n := size - len(data)
	if n < 128 {
		b[0] = byte(n)
		copy(b[1:], data)
	} else {
		b[0], b[1] = byte(n%128)|128, byte(n/128)
		copy(b[2:], data)
	}
	return string(b)
}

// P11.2, P11.5: short packets of every size, of every length.
func TestWriteShort(t *testing.T) {
	r := rand.New(rand.NewPCG(11, 3))
	for i, size := range allSizes() {
		for n := range size {
			part := r.IntN(64)
			f := api.GFrame{Type: api.GShort, High: part / 8, Low: part % 8, Size: size, Data: randomBytes(r, n)}
			want := packetOf(i+1, 192+part, shortBody(f.Data, size))
			wantWrite(t, f, want)
			wantRead(t, want, f, 6+size)
		}
	}
}

// P11.2: High and Low outside 0 to 7, of each type.
func TestWriteParts(t *testing.T) {
	for _, f := range []api.GFrame{{}, {Type: api.GLong, Size: 32, Data: zeros(32)}, {Type: api.GShort, Size: 32, Data: "x"}} {
		for _, n := range []int{-1, -8, 8, 9, 64, 256, 1 << 32, math.MaxInt, math.MinInt} {
			g := f
			g.High = n
			wantNoWrite(t, g)
			g.Low = n
			wantNoWrite(t, g)
			g.High = 0
			wantNoWrite(t, g)
			g.High = 7
			wantNoWrite(t, g)
		}
	}
}

// P11.2: types that are none, and types with what others have.
func TestWriteNone(t *testing.T) {
	for _, kind := range []int{1, -1, -2, 4, 6, 7, 256, 258, 1<<32 + 2, 1<<58 + 2, math.MaxInt, math.MinInt} {
		for _, f := range []api.GFrame{{}, {Size: 32}, {Size: 32, Data: zeros(32)}, {Size: 32, Data: "x"}, {Data: "x"}} {
			f.Type = kind
			wantNoWrite(t, f)
		}
	}
	for _, f := range []api.GFrame{
		{Size: 32}, {Size: 4096}, {Size: -1}, {Size: 1}, {Data: "x"}, {Data: "\x00"}, {Size: 32, Data: "x"}, {Size: 32, Data: zeros(32)}, {Size: 1, Data: "x"},
		{Type: api.GLong}, {Type: api.GShort}, {Type: api.GLong, Data: "x"}, {Type: api.GShort, Data: "x"},
	} {
		wantNoWrite(t, f)
	}
}

// P11.2: sizes that are none, with as many bytes, fewer and more.
func TestWriteNoSize(t *testing.T) {
	for _, size := range []int{-4096, -32, -1, 0, 1, 2, 16, 31, 33, 63, 65, 96, 100, 4095, 4097, 8192} {
		for _, n := range []int{0, 1, max(size-1, 0), max(size, 0), max(size+1, 0)} {
			wantNoWrite(t, api.GFrame{Type: api.GLong, Size: size, Data: zeros(n)})
			wantNoWrite(t, api.GFrame{Type: api.GShort, Size: size, Data: zeros(n)})
		}
	}
	for _, size := range []int{math.MaxInt, math.MinInt, 1 << 32, 1<<32 + 32, -32 - 1<<32} {
		wantNoWrite(t, api.GFrame{Type: api.GLong, Size: size})
		wantNoWrite(t, api.GFrame{Type: api.GShort, Size: size})
		wantNoWrite(t, api.GFrame{Type: api.GShort, Size: size, Data: "x"})
	}
}

// P11.2: a long packet has just Size bytes, a short one fewer.
func TestWriteLengths(t *testing.T) {
	for _, size := range allSizes() {
		for _, n := range []int{0, 1, size / 2, size - 1, size, size + 1, 2 * size, 5000} {
			if n != size {
				wantNoWrite(t, api.GFrame{Type: api.GLong, Size: size, Data: zeros(n)})
			}
			if n >= size {
				wantNoWrite(t, api.GFrame{Type: api.GShort, Size: size, Data: zeros(n)})
			}
		}
	}
}

// P11.3: what is no beginning of a packet, one thing wrong ahead of others.
func TestReadInOrder(t *testing.T) {
	control, body := controlOf(5, 1), strings.Repeat("b", 32)
	long := packetOf(1, 128, body)
	wrongSum := headOf(1, check.Packet(body, 128)^1, 128)
	noField := "\x00" + body[1:]
	wantNoRead(t, "", api.ErrShort)
	for i := range 256 {
		b := string([]byte{byte(i)})
		want := api.ErrForm
		if i == 16 {
			want = api.ErrShort
		}
		wantNoRead(t, b, want)
		wantNoRead(t, b+"\x09\xaa\xaa", want)
	}
	wantNoRead(t, "\x0f"+control[1:], api.ErrForm)
	wantNoRead(t, "x"+control, api.ErrForm)
	// Five bytes that can be no head's beginning are short all the same.
	wantNoRead(t, "\x10\xff\xff\xff\xff", api.ErrShort)
	wantNoRead(t, "\x10\xff\xff\xff\xff\x01", api.ErrForm)
	wantNoRead(t, control[:5]+"\xff", api.ErrForm)
	wantNoRead(t, headOf(9, 0, 5*8+1), api.ErrSum)
	// A head that is wrong, with a wrong sum, and nothing behind it.
	wantNoRead(t, headOf(9, 0, 128), api.ErrForm)
	wantNoRead(t, headOf(1, 0, 0), api.ErrForm)
	wantNoRead(t, headOf(1, 0, 64), api.ErrForm)
	wantNoRead(t, headOf(9, check.Control(64), 64), api.ErrForm)
	wantNoRead(t, packetOf(1, 64, body), api.ErrForm)
	wantNoRead(t, long[:37], api.ErrShort)
	wantNoRead(t, wrongSum+body[:31], api.ErrShort)
	wantNoRead(t, wrongSum+body, api.ErrSum)
	wantNoRead(t, packetOf(1, 192, noField)[:37], api.ErrShort)
	wantNoRead(t, headOf(1, check.Packet(noField, 192)^256, 192)+noField, api.ErrSum)
	wantNoRead(t, packetOf(1, 192, noField), api.ErrForm)
}

// P11.3: every code with every control byte, the last byte right: alone, with a wrong sum, and with bytes behind it.
func TestReadHeads(t *testing.T) {
	for code := range 256 {
		for control := range 256 {
			kind := control / 64
			sum := check.Control(control)
			switch {
			case code == 9 && kind == api.GControl:
				wantRead(t, headOf(code, sum, control), api.GFrame{High: control / 8, Low: control % 8}, 6)
				wantNoRead(t, headOf(code, sum^1, control), api.ErrSum)
				wantNoRead(t, headOf(code, sum^0x8000, control), api.ErrSum)
				wantNoRead(t, headOf(code, check.Packet("", control), control), api.ErrSum)
			case code >= 1 && code <= 8 && kind >= api.GLong:
				wantNoRead(t, headOf(code, sum, control), api.ErrShort)
				wantNoRead(t, headOf(code, sum, control)+zeros(16<<code-1), api.ErrShort)
			default:
				wantNoRead(t, headOf(code, sum, control), api.ErrForm)
				wantNoRead(t, headOf(code, sum, control)+"more", api.ErrForm)
			}
		}
	}
}

// P11.3: the last byte of a head is told by all four ahead of it.
func TestReadLastByte(t *testing.T) {
	for _, s := range []string{controlOf(0, 0), controlOf(7, 7), packetOf(1, 130, strings.Repeat("y", 32)), packetOf(2, 200, shortBody("z", 64))} {
		for i := range 256 {
			if byte(i) != s[5] {
				wantNoRead(t, s[:5]+string([]byte{byte(i)})+s[6:], api.ErrForm)
			}
		}
	}
}

// P11.3: every sum but the right one is told, of each type.
func TestReadSums(t *testing.T) {
	long, short := strings.Repeat("s", 32), shortBody("abc", 32)
	for sum := range 65536 {
		if sum != check.Control(0) {
			wantNoRead(t, headOf(9, sum, 0), api.ErrSum)
		}
		if sum != check.Packet(long, 128) {
			wantNoRead(t, headOf(1, sum, 128)+long, api.ErrSum)
		}
		if sum != check.Packet(short, 255) {
			wantNoRead(t, headOf(1, sum, 255)+short, api.ErrSum)
		}
	}
}

// P11.3: a sum is that of the packet's own bytes, not of those behind them.
func TestReadBodies(t *testing.T) {
	for i, size := range allSizes() {
		body := strings.Repeat("k", size)
		s := packetOf(i+1, 128, body)
		wantNoRead(t, s[:6]+body[1:]+"j", api.ErrSum)
		wantNoRead(t, s[:6]+body[1:]+"jk", api.ErrSum)
		wantRead(t, s+"j", api.GFrame{Type: api.GLong, Size: size, Data: body}, 6+size)
	}
}

// P11.3, P11.5: fields that begin with any two bytes are the field of what they say, or none.
func TestReadFields(t *testing.T) {
	for _, size := range allSizes() {
		fields := map[string]string{}
		for n := range size {
			fields[shortBody(zeros(n), size)] = zeros(n)
		}
		for first := range 256 {
			for second := range 34 {
				body := string([]byte{byte(first), byte(second)}) + zeros(size-2)
				data, ok := fields[body]
				if second > 0 && first < 128 && first >= 1 && first <= size-1 {
					data, ok = body[1:1+size-first], true
				}
				s := packetOf(Code(size), 192, body)
				if !ok {
					wantNoRead(t, s, api.ErrForm)
					continue
				}
				wantRead(t, s, api.GFrame{Type: api.GShort, Size: size, Data: data}, 6+size)
			}
		}
	}
}

// P11.3: counts that are not as they are written.
func TestReadCounts(t *testing.T) {
	for _, c := range []struct {
		size  int
		begin string
	}{
		{32, "\x00"}, {32, "\x21"}, {32, "\x7f"}, {32, "\x80\x00"}, {32, "\x81\x00"}, {32, "\x82\x00"}, {32, "\x9d\x00"}, {32, "\xa0\x00"}, {32, "\x80\x01"}, {32, "\xff\xff"},
		{64, "\x41"}, {64, "\xc0\x00"}, {128, "\x00"}, {128, "\xff\x00"}, {128, "\x81\x01"}, {256, "\x00"}, {256, "\x81\x02"}, {256, "\xff\x00"}, {256, "\x80\x03"},
		{4096, "\x80\x00"}, {4096, "\x81\x00"}, {4096, "\x81\x20"}, {4096, "\x80\x21"}, {4096, "\xff\xff"},
	} {
		wantNoRead(t, packetOf(Code(c.size), 192, c.begin+zeros(c.size-len(c.begin))), api.ErrForm)
	}
	wantRead(t, packetOf(3, 192, "\x80\x01"+zeros(126)), api.GFrame{Type: api.GShort, Size: 128}, 134)
	wantRead(t, packetOf(8, 192, "\x80\x20"+zeros(4094)), api.GFrame{Type: api.GShort, Size: 4096}, 4102)
	wantRead(t, packetOf(8, 192, "\x01"+zeros(4095)), api.GFrame{Type: api.GShort, Size: 4096, Data: zeros(4095)}, 4102)
}

// P11.3, P11.5: behind the data of a field stand bytes 0 alone.
func TestReadFill(t *testing.T) {
	for _, size := range []int{32, 64, 128, 256, 512} {
		for _, n := range []int{0, 1, 3, size / 2, size - 2, size - 1} {
			body := shortBody(strings.Repeat("f", n), size)
			fill := n + 1
			if size-n >= 128 {
				fill = n + 2
			}
			for at := fill; at < size; at++ {
				for _, b := range []string{"\x01", "\xff"} {
					wantNoRead(t, packetOf(Code(size), 192, body[:at]+b+body[at+1:]), api.ErrForm)
				}
			}
		}
	}
}

// readAgain: P11.3, written once more.
func readAgain(s string) (api.GFrame, int, api.Errno) {
	none := api.GFrame{}
	switch {
	case len(s) == 0:
		return none, 0, api.ErrShort
	case s[0] != 16:
		return none, 0, api.ErrForm
	case len(s) < 6:
		return none, 0, api.ErrShort
	}
	code, control, sum := int(s[1]), int(s[4]), int(s[2])+256*int(s[3])
	f := api.GFrame{Type: control / 64, High: control / 8 % 8, Low: control % 8}
	if check.Xor(s[1:6]) != 0 || code < 1 || code > 9 || (code == 9) != (f.Type == 0) || f.Type == 1 {
		return none, 0, api.ErrForm
	}
	if code == 9 && sum != check.Control(control) {
		return none, 0, api.ErrSum
	}
	if code == 9 {
		return f, 6, api.OK
	}
	f.Size = allSizes()[code-1]
	if len(s)-6 < f.Size {
		return none, 0, api.ErrShort
	}
	f.Data = s[6 : 6+f.Size]
	if sum != check.Packet(f.Data, control) {
		return none, 0, api.ErrSum
	}
	if f.Type == api.GLong {
		return f, 6 + f.Size, api.OK
	}
	for n := range f.Size {
		for _, from := range []int{1, 2} {
			if from+n <= f.Size && shortBody(f.Data[from:from+n], f.Size) == f.Data {
				f.Data = f.Data[from : from+n]
				return f, 6 + f.Size, api.OK
			}
		}
	}
	return none, 0, api.ErrForm
}

// scanAgain: P11.4, written once more.
func scanAgain(s string) (api.GFrame, api.Span, bool) {
	short, good := len(s), -1
	for at := len(s) - 1; at >= 0; at-- {
		switch _, _, e := readAgain(s[at:]); e {
		case api.ErrShort:
			short = at
		case api.OK:
			good = at
		}
	}
	if good < 0 || short < good {
		return api.GFrame{}, api.Span{From: short, To: short}, false
	}
	f, n, _ := readAgain(s[good:])
	return f, api.Span{From: good, To: good + n}, true
}

// randomStream: packets, whole, cut and damaged, with other bytes between.
func randomStream(r *rand.Rand) string {
	var b strings.Builder
	for range r.IntN(6) {
		f := randomFrame(r)
		f.Size = min(f.Size, 64)
		f.Data = f.Data[:min(len(f.Data), f.Size)]
		s, e := Write(f)
		if e != api.OK {
			s = randomBytes(r, r.IntN(40))
		}
		switch r.IntN(6) {
		case 0:
			s = s[:r.IntN(len(s)+1)]
		case 1:
			s = randomBytes(r, r.IntN(12)) + s
		case 2:
			if s != "" {
				at := r.IntN(len(s))
				s = s[:at] + string([]byte{byte(r.IntN(256))}) + s[at+1:]
			}
		case 3:
			s = packetOf(1+r.IntN(2), 192+r.IntN(64), randomBytes(r, 64))
		}
		b.WriteString(s)
	}
	return b.String()
}

// P11.3, P11.4: Read and Scan of many texts, held against a second writing; what is read is written so (P11.5).
func TestManyStreams(t *testing.T) {
	r := rand.New(rand.NewPCG(11, 4))
	errors, found := map[api.Errno]int{}, 0
	for range 20000 {
		s := randomStream(r)
		f, n, e := Read(s)
		if g, m, want := readAgain(s); f != g || n != m || e != want {
			t.Fatalf("Read(%q): %s, %d, %d, want %s, %d, %d", s, show(f), n, e, show(g), m, want)
		}
		errors[e]++
		if e == api.OK {
			wantWrite(t, f, s[:n])
		}
		f, x, ok := Scan(s)
		if g, y, want := scanAgain(s); f != g || x != y || ok != want {
			t.Fatalf("Scan(%q): %s, %v, %v, want %s, %v, %v", s, show(f), x, ok, show(g), y, want)
		}
		if ok {
			found++
			wantWrite(t, f, s[x.From:x.To])
		}
	}
	for _, e := range []api.Errno{api.OK, api.ErrShort, api.ErrForm, api.ErrSum} {
		if errors[e] < 100 {
			t.Errorf("only %d texts were read with %d", errors[e], e)
		}
	}
	if found < 1000 || found > 19000 {
		t.Errorf("%d of the texts had a packet", found)
	}
}

// R1: bytes without order.
func TestManyBytes(t *testing.T) {
	r := rand.New(rand.NewPCG(11, 5))
	for range 20000 {
		s := randomBytes(r, r.IntN(80))
		f, n, e := Read(s)
		if g, m, want := readAgain(s); f != g || n != m || e != want {
			t.Fatalf("Read(%q): %s, %d, %d, want %s, %d, %d", s, show(f), n, e, show(g), m, want)
		}
		f, x, ok := Scan(s)
		if g, y, want := scanAgain(s); f != g || x != y || ok != want {
			t.Fatalf("Scan(%q): %s, %v, %v, want %s, %v, %v", s, show(f), x, ok, show(g), y, want)
		}
	}
}

// P11.4: the places of what is found, and of what may become a packet.
func TestScan(t *testing.T) {
	ready := api.GFrame{High: api.GReady, Low: 2}
	control := controlOf(api.GReady, 2)
	body := strings.Repeat("\x10", 32)
	long := api.GFrame{Type: api.GLong, High: 1, Size: 32, Data: body}
	packet := packetOf(1, 136, body)
	wantNoScan(t, "", 0)
	wantNoScan(t, "x", 1)
	wantNoScan(t, "\x10", 0)
	wantNoScan(t, "xyz", 3)
	wantNoScan(t, "xyz\x10", 3)
	wantNoScan(t, "xyz"+control[:5], 3)
	wantNoScan(t, headOf(9, 0, 0), 6)
	wantScan(t, control, ready, 0, 6)
	wantScan(t, "xx"+control, ready, 2, 8)
	wantScan(t, control+control, ready, 0, 6)
	wantScan(t, "\x10"+control, ready, 1, 7)
	wantScan(t, headOf(9, 0, 0)+control, ready, 6, 12)
	wantScan(t, packet+control, long, 0, 38)
	wantScan(t, "xx"+packet, long, 2, 40)
	// A packet inside one whose bytes are not all there is not told before they are, or are found to be damaged.
	wantNoScan(t, packet[:6]+control, 0)
	wantNoScan(t, "x"+packet[:6]+control+zeros(25), 1)
	wantScan(t, "x"+packet[:6]+control+zeros(26), ready, 7, 13)
	// The head of an inner packet is no packet while the outer one is whole.
	wantScan(t, packetOf(1, 128, control+zeros(26)), api.GFrame{Type: api.GLong, Size: 32, Data: control + zeros(26)}, 0, 38)
}

// P11.4: a place ahead of which nothing is short counts, even if others behind it are short too.
func TestScanFirstShort(t *testing.T) {
	long := packetOf(2, 128, strings.Repeat("l", 64))
	wantNoScan(t, "ab"+long[:20]+"\x10", 2)
	wantNoScan(t, "ab"+long[:20]+long[:6], 2)
	wantNoScan(t, "\x10\x10\x10", 0)
	wantNoScan(t, "\x10\x10\x10\x10\x10\x10\x10", 2)
	wantNoScan(t, strings.Repeat("\x10", 1000), 995)
	wantNoScan(t, strings.Repeat("x", 1000), 1000)
}

// P11.5: what is written is read as it was, whatever stands behind it.
func TestReadBack(t *testing.T) {
	r := rand.New(rand.NewPCG(11, 6))
	for range 2000 {
		f := randomFrame(r)
		s := written(t, f)
		for _, tail := range []string{"", "\x00", "\x10", randomBytes(r, r.IntN(50)), s, s[:len(s)-1]} {
			wantRead(t, s+tail, f, len(s))
			wantScan(t, s+tail, f, 0, len(s))
		}
	}
}

// P11.6: a packet that is not whole, at each cut.
func TestCuts(t *testing.T) {
	r := rand.New(rand.NewPCG(11, 7))
	for range 60 {
		s := written(t, randomFrame(r))
		for n := range len(s) {
			wantNoRead(t, s[:n], api.ErrShort)
			wantNoScan(t, s[:n], 0)
		}
	}
}

// P11.6: one byte of the head turned, in each way: its last byte tells it.
func TestHeadTurned(t *testing.T) {
	r := rand.New(rand.NewPCG(11, 8))
	for range 60 {
		s := written(t, randomFrame(r))
		for at := range 6 {
			for i := range 256 {
				if byte(i) != s[at] {
					wantNoRead(t, s[:at]+string([]byte{byte(i)})+s[at+1:], api.ErrForm)
				}
			}
		}
	}
}

// P11.7: behind bytes that are not 16 the packet is found.
func TestFoundBehindNoise(t *testing.T) {
	r := rand.New(rand.NewPCG(11, 9))
	for range 2000 {
		f := randomFrame(r)
		s := written(t, f)
		noise := strings.ReplaceAll(randomBytes(r, r.IntN(100)), "\x10", "\x11")
		wantScan(t, noise+s, f, len(noise), len(noise)+len(s))
		wantScan(t, noise+s+randomBytes(r, 20), f, len(noise), len(noise)+len(s))
		wantNoScan(t, noise+s[:len(s)-1], len(noise))
	}
	for i := range 256 {
		if i != 16 {
			wantScan(t, string([]byte{byte(i)})+controlOf(1, 0), api.GFrame{High: 1}, 1, 7)
		}
	}
}
