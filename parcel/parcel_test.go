package parcel

import (
	"fmt"
	"hash/crc32"
	"math"
	"math/rand/v2"
	"slices"
	"strings"
	"testing"

	"postchaise/api"
)

func allTags() []int { return []int{'c', 'd', 'z'} }

func byteOf(n int) string { return string([]byte{byte(n)}) }

func command(data string) api.Parcel { return api.Parcel{Tag: api.TagCommand, Data: data} }
func piece(data string) api.Parcel   { return api.Parcel{Tag: api.TagData, Data: data} }
func end(data string) api.Parcel     { return api.Parcel{Tag: api.TagEnd, Data: data} }

// endOf: the end of a file with these bytes, by the library's CRC-32.
func endOf(s string) api.Parcel {
	return end(fmt.Sprint(crc32.ChecksumIEEE([]byte(s))))
}

// textOf: P13.1, written once more.
func textOf(p api.Parcel) string {
	return fmt.Sprintf("%c%04d%s", p.Tag, len(p.Data), p.Data)
}

// randomBytes: n bytes that are the same in every run; many of them are tags and digits.
func randomBytes(r *rand.Rand, n int) string {
	const likely = "cdz0123456789"
	b := make([]byte, n)
	for i := range b {
		b[i] = byte(r.IntN(256))
		if r.IntN(3) > 0 {
			b[i] = likely[r.IntN(len(likely))]
		}
	}
	return string(b)
}

// randomParcel: a parcel that may be, with at most that many bytes, often with few or none.
func randomParcel(r *rand.Rand, most int) api.Parcel {
	return api.Parcel{Tag: allTags()[r.IntN(3)], Data: randomBytes(r, r.IntN(1+r.IntN(most+1)))}
}

// short: s as a failing test tells it.
func short(s string) string {
	if len(s) > 60 {
		return fmt.Sprintf("%q.. (%d bytes)", s[:60], len(s))
	}
	return fmt.Sprintf("%q", s)
}

func show(p api.Parcel) string { return fmt.Sprintf("{%d %s}", p.Tag, short(p.Data)) }

func showAll(l []api.Parcel) string {
	var b strings.Builder
	for i, p := range l {
		if i == 8 {
			fmt.Fprintf(&b, ".. (%d parcels)", len(l))
			break
		}
		b.WriteString(show(p))
	}
	return b.String()
}

func wantWrite(t *testing.T, p api.Parcel, want string) {
	t.Helper()
	if s, e := Write(p); s != want || e != api.OK {
		t.Errorf("Write(%s): %s, %d, want %s", show(p), short(s), e, short(want))
	}
}

func wantNoWrite(t *testing.T, p api.Parcel, want api.Errno) {
	t.Helper()
	if s, e := Write(p); s != "" || e != want {
		t.Errorf("Write(%s): %s, %d, want %d", show(p), short(s), e, want)
	}
}

func wantRead(t *testing.T, s string, want api.Parcel, size int) {
	t.Helper()
	if p, n, e := Read(s); p != want || n != size || e != api.OK {
		t.Errorf("Read(%s): %s, %d, %d, want %s, %d", short(s), show(p), n, e, show(want), size)
	}
}

func wantNoRead(t *testing.T, s string, want api.Errno) {
	t.Helper()
	if p, n, e := Read(s); p != (api.Parcel{}) || n != 0 || e != want {
		t.Errorf("Read(%s): %s, %d, %d, want %d", short(s), show(p), n, e, want)
	}
}

func wantCut(t *testing.T, s string, size int, want []api.Parcel) {
	t.Helper()
	if l, e := Cut(s, size); !slices.Equal(l, want) || e != api.OK {
		t.Errorf("Cut(%s, %d): %s, %d, want %s", short(s), size, showAll(l), e, showAll(want))
	}
}

func wantNoCut(t *testing.T, s string, size int, want api.Errno) {
	t.Helper()
	if l, e := Cut(s, size); len(l) != 0 || e != want {
		t.Errorf("Cut(%s, %d): %s, %d, want %d", short(s), size, showAll(l), e, want)
	}
}

func wantJoin(t *testing.T, l []api.Parcel, want string) {
	t.Helper()
	if s, e := Join(l); s != want || e != api.OK {
		t.Errorf("Join(%s): %s, %d, want %s", showAll(l), short(s), e, short(want))
	}
}

func wantNoJoin(t *testing.T, l []api.Parcel, want api.Errno) {
	t.Helper()
	if s, e := Join(l); s != "" || e != want {
		t.Errorf("Join(%s): %s, %d, want %d", showAll(l), short(s), e, want)
	}
}

func cut(t *testing.T, s string, size int) []api.Parcel {
	t.Helper()
	l, e := Cut(s, size)
	if e != api.OK {
		t.Fatalf("Cut(%s, %d): %d", short(s), size, e)
	}
	return l
}

// P13.1, P13.2: worked out beside the program.
func TestByHand(t *testing.T) {
	for _, c := range []struct {
		p api.Parcel
		s string
	}{
		{command("H"), "c0001H"},
		{command(""), "c0000"},
		{piece("ab"), "d0002ab"},
		{piece(""), "d0000"},
		{end("891568578"), "z0009891568578"},
		{end(""), "z0000"},
		{piece("c0001H"), "d0006c0001H"},
		{piece("\x00\xff\n"), "d0003\x00\xff\n"},
		{piece("é"), "d0002é"},
		{command(strings.Repeat("x", 10)), "c0010" + strings.Repeat("x", 10)},
		{command(strings.Repeat("x", 999)), "c0999" + strings.Repeat("x", 999)},
		{end(strings.Repeat("9", 1000)), "z1000" + strings.Repeat("9", 1000)},
		{piece(strings.Repeat("\x00", 4096)), "d4096" + strings.Repeat("\x00", 4096)},
	} {
		wantWrite(t, c.p, c.s)
		wantRead(t, c.s, c.p, len(c.s))
	}
}

// P13.1, P13.2: bytes of every length, of every tag.
func TestEveryLength(t *testing.T) {
	data := randomBytes(rand.New(rand.NewPCG(13, 1)), 4096)
	for n := range 4097 {
		for _, tag := range allTags() {
			p := api.Parcel{Tag: tag, Data: data[:n]}
			want := textOf(p)
			wantWrite(t, p, want)
			wantRead(t, want, p, 5+n)
		}
	}
}

// P13.1: tags that are none, which counts ahead of the length.
func TestWriteNoTag(t *testing.T) {
	for _, data := range []string{"", "H", strings.Repeat("x", 4096), strings.Repeat("x", 4097), strings.Repeat("x", 10000)} {
		for tag := range 256 {
			if !slices.Contains(allTags(), tag) {
				wantNoWrite(t, api.Parcel{Tag: tag, Data: data}, api.ErrArg)
			}
		}
		for _, tag := range []int{'c' + 256, 'd' + 256, 'z' - 256, -'c', 'd' + 1<<32, 'z' + 1<<56, -1, math.MaxInt, math.MinInt} {
			wantNoWrite(t, api.Parcel{Tag: tag, Data: data}, api.ErrArg)
		}
	}
}

// P13.1: more than MaxLoad bytes.
func TestWriteLong(t *testing.T) {
	for _, tag := range allTags() {
		for _, n := range []int{4097, 4098, 6000, 9999, 10000, 10001, 65536, 1 << 20} {
			wantNoWrite(t, api.Parcel{Tag: tag, Data: strings.Repeat("l", n)}, api.ErrLong)
		}
	}
}

// P13.2: byte by byte: what is wrong in a byte that is there counts ahead of the end.
func TestReadInOrder(t *testing.T) {
	for _, s := range []string{"", "c", "d", "z", "c0", "c00", "c000", "d9", "d99", "d999", "z41", "z409", "c0001", "c0002x", "d4096", "d4096" + strings.Repeat("x", 4095)} {
		wantNoRead(t, s, api.ErrShort)
	}
	for _, s := range []string{
		"x", "x0001H", "C", "C0001H", "0", "0001", " c0001H", "\x00", "\xff", "xc0001H",
		"cx", "c ", "c-", "c0x", "c00x", "c000x", "cx001H", "c0x01H", "c00x1H", "c000xH", "c 001H", "c+001H", "c-001H", "c0 01H", "c1.00H", "c0x1fH", "c1e02H", "c000\x00", "c000\xb1", "c000/", "c000:",
		"c٠٠٠٠", "cabcd", "cdcdz", "c999x", "c9x99", "x9999",
		"c4097", "d4100", "z5000", "c9999", "c99990", "d4097" + strings.Repeat("x", 4097), "z9999" + strings.Repeat("x", 9999),
	} {
		wantNoRead(t, s, api.ErrForm)
	}
}

// P13.2: every byte at each place of a head, with a parcel's other bytes behind it, and with none.
func TestReadEveryByte(t *testing.T) {
	good := "d0012" + strings.Repeat("x", 12)
	for at := range 5 {
		for i := range 256 {
			c := byteOf(i)
			cut, whole := good[:at]+c, good[:at]+c+good[at+1:]
			tag := at == 0 && strings.Contains("cdz", c)
			digit := at > 0 && "0" <= c && c <= "9"
			if !tag && !digit {
				wantNoRead(t, cut, api.ErrForm)
				wantNoRead(t, whole, api.ErrForm)
				continue
			}
			wantNoRead(t, cut, api.ErrShort)
			if tag {
				wantRead(t, whole, api.Parcel{Tag: i, Data: good[5:]}, 17)
			}
		}
	}
}

// P13.2: every number that four digits say, of every tag: with nothing behind it, all but a byte, all, and more.
func TestReadEverySize(t *testing.T) {
	data := strings.Repeat("0123456789", 1001)
	for n := range 10000 {
		for _, tag := range allTags() {
			head := fmt.Sprintf("%c%04d", tag, n)
			if n > 4096 {
				wantNoRead(t, head, api.ErrForm)
				wantNoRead(t, head+data[:n], api.ErrForm)
				continue
			}
			want := api.Parcel{Tag: tag, Data: data[:n]}
			wantRead(t, head+data[:n], want, 5+n)
			wantRead(t, head+data[:n+1], want, 5+n)
			if n > 0 {
				wantNoRead(t, head, api.ErrShort)
				wantNoRead(t, head+data[:n-1], api.ErrShort)
			}
		}
	}
}

// readAgain: P13.2, written once more.
func readAgain(s string) (api.Parcel, int, api.Errno) {
	n := 0
	for at, may := range []string{"cdz", "0123456789", "0123456789", "0123456789", "0123456789"} {
		if at >= len(s) {
			return api.Parcel{}, 0, api.ErrShort
		}
		digit := strings.IndexByte(may, s[at])
		if digit < 0 {
			return api.Parcel{}, 0, api.ErrForm
		}
		if at > 0 {
			n = 10*n + digit
		}
	}
	if n > 4096 {
		return api.Parcel{}, 0, api.ErrForm
	}
	if len(s[5:]) < n {
		return api.Parcel{}, 0, api.ErrShort
	}
	return api.Parcel{Tag: int(s[0]), Data: s[5:][:n]}, 5 + n, api.OK
}

// wantAgain: Read of s is that of its second writing, and what is read is written so; what Read said.
func wantAgain(t *testing.T, s string) api.Errno {
	t.Helper()
	p, n, e := Read(s)
	if q, m, want := readAgain(s); p != q || n != m || e != want {
		t.Fatalf("Read(%s): %s, %d, %d, want %s, %d, %d", short(s), show(p), n, e, show(q), m, want)
	}
	if e == api.OK {
		wantWrite(t, p, s[:n])
	}
	return e
}

// P13.2, P13.5: every short text of tags, digits and what stands beside them; what is read is written so.
func TestReadAllShort(t *testing.T) {
	texts := []string{""}
	for from, n := 0, 0; n < 6; n++ {
		last := len(texts)
		for _, s := range texts[from:last] {
			for _, c := range "cz0149/x" {
				texts = append(texts, s+string(c))
			}
		}
		from = last
	}
	for _, s := range texts {
		wantAgain(t, s)
	}
}

// P13.2, P13.5: parcels whole, cut and damaged, and bytes without order; what is read is written so.
func TestReadMany(t *testing.T) {
	r := rand.New(rand.NewPCG(13, 2))
	said := map[api.Errno]int{}
	for range 40000 {
		s := textOf(randomParcel(r, 60))
		switch r.IntN(5) {
		case 0:
			s = s[:r.IntN(len(s)+1)]
		case 1:
			at := r.IntN(len(s))
			s = s[:at] + byteOf(r.IntN(256)) + s[at+1:]
		case 2:
			s = randomBytes(r, r.IntN(30))
		case 3:
			s += randomBytes(r, r.IntN(30))
		}
		said[wantAgain(t, s)]++
	}
	for _, e := range []api.Errno{api.OK, api.ErrShort, api.ErrForm} {
		if said[e] < 1000 {
			t.Errorf("only %d texts were read with %d", said[e], e)
		}
	}
}

// P13.5: a parcel is read as it was, whatever stands behind it.
func TestReadBack(t *testing.T) {
	r := rand.New(rand.NewPCG(13, 3))
	for range 2000 {
		p := randomParcel(r, 4096)
		s, e := Write(p)
		if e != api.OK {
			t.Fatalf("Write(%s): %d", show(p), e)
		}
		for _, tail := range []string{"", "\x00", "0", "9999", "x", s, s[:len(s)-1], randomBytes(r, r.IntN(50))} {
			wantRead(t, s+tail, p, len(s))
		}
	}
}

// P13.2, P13.5: a parcel that is not whole, at each cut.
func TestReadCuts(t *testing.T) {
	r := rand.New(rand.NewPCG(13, 4))
	for i := range 100 {
		p := randomParcel(r, 300)
		if i == 0 {
			p.Data = randomBytes(r, 4096)
		}
		s := textOf(p)
		for n := range len(s) {
			wantNoRead(t, s[:n], api.ErrShort)
		}
	}
}

// P13.5: parcels one behind the other are read one by one, and nothing is left.
func TestReadOneByOne(t *testing.T) {
	r := rand.New(rand.NewPCG(13, 5))
	for range 200 {
		var sent, got []api.Parcel
		rest := ""
		for range r.IntN(20) {
			p := randomParcel(r, 700)
			s, _ := Write(p)
			sent, rest = append(sent, p), rest+s
		}
		for rest != "" {
			p, n, e := Read(rest)
			if e != api.OK || n < 5 {
				t.Fatalf("Read(%s): %d, %d", short(rest), n, e)
			}
			got, rest = append(got, p), rest[n:]
		}
		if !slices.Equal(got, sent) {
			t.Errorf("sent %s, read %s", showAll(sent), showAll(got))
		}
	}
}

// P13.3, P13.4: worked out beside the program; the digits of a sum have no noughts ahead.
func TestCutByHand(t *testing.T) {
	xs := strings.Repeat("x", 6000)
	for _, c := range []struct {
		s    string
		size int
		l    []api.Parcel
	}{
		{"abc", 2, []api.Parcel{piece("ab"), piece("c"), end("891568578")}},
		{"abc", 1, []api.Parcel{piece("a"), piece("b"), piece("c"), end("891568578")}},
		{"abc", 3, []api.Parcel{piece("abc"), end("891568578")}},
		{"abc", 4, []api.Parcel{piece("abc"), end("891568578")}},
		{"abc", 4096, []api.Parcel{piece("abc"), end("891568578")}},
		{"", 1, []api.Parcel{end("0")}},
		{"", 4096, []api.Parcel{end("0")}},
		{"123456789", 3, []api.Parcel{piece("123"), piece("456"), piece("789"), end("3421780262")}},
		{"1084923", 5, []api.Parcel{piece("10849"), piece("23"), end("508")}},
		{"\x9d\x0a\xd9\x6d", 2, []api.Parcel{piece("\x9d\x0a"), piece("\xd9\x6d"), end("0")}},
		{"\xff\xff\xff\xff", 4, []api.Parcel{piece("\xff\xff\xff\xff"), end("4294967295")}},
		{xs, 4096, []api.Parcel{piece(xs[:4096]), piece(xs[4096:]), end("4288565695")}},
		{xs, 3000, []api.Parcel{piece(xs[:3000]), piece(xs[3000:]), end("4288565695")}},
		{xs, 2999, []api.Parcel{piece(xs[:2999]), piece(xs[:2999]), piece("xx"), end("4288565695")}},
	} {
		wantCut(t, c.s, c.size, c.l)
		wantJoin(t, c.l, c.s)
	}
}

// P13.3: sizes that are none, ahead of texts that are too long.
func TestCutNone(t *testing.T) {
	for _, s := range []string{"", "abc", strings.Repeat("x", 6000), strings.Repeat("x", 6001), strings.Repeat("x", 1<<20)} {
		for _, size := range []int{0, -1, -4096, 4097, 4098, 6000, 6001, 1 << 32, 1<<32 + 1, math.MaxInt, math.MinInt} {
			wantNoCut(t, s, size, api.ErrArg)
		}
	}
	for _, n := range []int{6001, 6002, 8192, 65536, 1 << 20} {
		for _, size := range []int{1, 2, 512, 4095, 4096} {
			wantNoCut(t, strings.Repeat("x", n), size, api.ErrLong)
		}
	}
}

// cutAgain: P13.3, written once more, from the end on.
func cutAgain(s string, size int) []api.Parcel {
	l := []api.Parcel{endOf(s)}
	for whole := s; s != ""; s = whole[:len(s)-1-(len(s)-1)%size] {
		from := len(s) - 1 - (len(s)-1)%size
		l = append(l, piece(s[from:]))
	}
	slices.Reverse(l)
	return l
}

// P13.3, P13.6: of every size; what is cut is joined.
func TestCutEverySize(t *testing.T) {
	r := rand.New(rand.NewPCG(13, 6))
	for size := 1; size <= 4096; size++ {
		s := randomBytes(r, []int{0, 1, size - 1, size, size + 1, 6000, r.IntN(6001)}[size%7])
		l := cutAgain(s, size)
		wantCut(t, s, size, l)
		wantJoin(t, l, s)
	}
}

// P13.3, P13.6: of every length up to some, and beside the greatest one, by some sizes; what is cut is joined.
func TestCutEveryLength(t *testing.T) {
	s := randomBytes(rand.New(rand.NewPCG(13, 7)), 6000)
	for n := range 6001 {
		if n > 300 && n < 5990 && n%512 > 1 && n%4096 > 1 {
			continue
		}
		for _, size := range []int{1, 2, 3, 7, 100, 512, 4095, 4096} {
			l := cutAgain(s[:n], size)
			wantCut(t, s[:n], size, l)
			wantJoin(t, cut(t, s[:n], size), s[:n])
		}
	}
}

// P13.3: each parcel that is cut can be written, and is read as it was.
func TestCutIsWritten(t *testing.T) {
	r := rand.New(rand.NewPCG(13, 8))
	for _, size := range []int{1, 10, 512, 4095, 4096} {
		for _, p := range cut(t, randomBytes(r, 6000), size) {
			s, e := Write(p)
			if e != api.OK {
				t.Fatalf("Write(%s): %d", show(p), e)
			}
			wantRead(t, s, p, len(s))
		}
	}
}

// P13.4: an end that says another sum, or the right one in other bytes.
func TestJoinSums(t *testing.T) {
	for _, sum := range []string{"", "0", "891568577", "891568579", "0891568578", "+891568578", " 891568578", "891568578 ", "891568578\n", "89156857", "352441c2", "352441C2", "0x352441c2", "\x35\x24\x41\xc2", "-3403398718", "5186535874"} {
		wantNoJoin(t, []api.Parcel{piece("abc"), end(sum)}, api.ErrSum)
	}
	for _, sum := range []string{"", "00", "-0", "1", "\x00"} {
		wantNoJoin(t, []api.Parcel{end(sum)}, api.ErrSum)
	}
	for _, l := range [][]api.Parcel{
		{piece("c"), end("891568578")},
		{piece("c"), piece("ab"), end("891568578")},
		{piece("abd"), end("891568578")},
		{piece("abc"), piece("\x00"), end("891568578")},
		{end("891568578")},
		{piece("a"), end("0")},
		{end(strings.Repeat("8", 5000))},
		{piece(strings.Repeat("x", 6000)), end(strings.Repeat("8", 5000))},
	} {
		wantNoJoin(t, l, api.ErrSum)
	}
}

// P13.4: what is neither bytes of a file nor its last end, wherever it stands.
func TestJoinForm(t *testing.T) {
	good := []api.Parcel{piece("a"), piece("b"), piece("c"), end("891568578")}
	for at := range good {
		for _, tag := range []int{'c', 0, 'D', 'Z', 'y', '{', -1, 'd' + 256, 'z' + 256, 'z' - 256, 'd' + 1<<32, math.MaxInt, math.MinInt} {
			l := slices.Clone(good)
			l[at].Tag = tag
			wantNoJoin(t, l, api.ErrForm)
			wantNoJoin(t, l[:at+1], api.ErrForm)
			wantNoJoin(t, slices.Insert(slices.Clone(good), at, api.Parcel{Tag: tag}), api.ErrForm)
		}
	}
	for _, l := range [][]api.Parcel{
		{{}},
		{{Data: "abc"}},
		{command("")},
		{command("H"), end("0")},
		{end("0"), end("0")},
		{end("0"), piece("")},
		{end("0"), command("H")},
		{end("1"), end("0")},
		{piece("abc"), end("891568578"), end("891568578")},
		{piece("abc"), end("891568578"), piece("")},
		{piece("ab"), end("2659403885"), piece("c"), end("891568578")},
		append(slices.Clone(good), command("H")),
	} {
		wantNoJoin(t, l, api.ErrForm)
	}
}

// P13.4: more than 6000 bytes, in one parcel and in many; 6000 are not too many.
func TestJoinLong(t *testing.T) {
	s := randomBytes(rand.New(rand.NewPCG(13, 9)), 6001)
	for _, size := range []int{1, 2, 999, 3000, 4096, 5999, 6000, 6001} {
		for _, n := range []int{5999, 6000, 6001} {
			l := cutAgain(s[:n], size)
			if n > 6000 {
				wantNoJoin(t, l, api.ErrLong)
				wantNoJoin(t, l[:len(l)-1], api.ErrLong)
				continue
			}
			wantJoin(t, l, s[:n])
			wantNoJoin(t, l[:len(l)-1], api.ErrShort)
		}
	}
	wantNoJoin(t, []api.Parcel{piece(strings.Repeat("x", 1<<20))}, api.ErrLong)
}

// P13.4, R2: the first parcel that is wrong counts, whatever is wrong behind it.
func TestJoinInOrder(t *testing.T) {
	long := piece(strings.Repeat("x", 6001))
	most := piece(strings.Repeat("x", 6000))
	for _, c := range []struct {
		l    []api.Parcel
		want api.Errno
	}{
		{[]api.Parcel{long, command("H")}, api.ErrLong},
		{[]api.Parcel{command("H"), long}, api.ErrForm},
		{[]api.Parcel{command(long.Data)}, api.ErrForm},
		{[]api.Parcel{most, command("x")}, api.ErrForm},
		{[]api.Parcel{most, end("1"), end("1")}, api.ErrForm},
		{[]api.Parcel{most, piece("x"), end("1")}, api.ErrLong},
		{[]api.Parcel{most, piece("x"), command("H")}, api.ErrLong},
		{[]api.Parcel{long, end("1")}, api.ErrLong},
		{[]api.Parcel{piece("a"), command("H"), end("1")}, api.ErrForm},
		{[]api.Parcel{most, end("1")}, api.ErrSum},
		{[]api.Parcel{most, piece("")}, api.ErrShort},
		{[]api.Parcel{most, piece(""), endOf(most.Data)}, api.OK},
	} {
		if s, e := Join(c.l); e != c.want || (e != api.OK) != (s == "") {
			t.Errorf("Join(%s): %s, %d, want %d", showAll(c.l), short(s), e, c.want)
		}
	}
}

// P13.4: pieces of unlike sizes, empty ones too, and greater ones than a parcel may have, are joined.
func TestJoinAnyPieces(t *testing.T) {
	r := rand.New(rand.NewPCG(13, 10))
	for range 500 {
		s := randomBytes(r, r.IntN(6001))
		var l []api.Parcel
		for rest := s; rest != ""; {
			n := r.IntN(min(len(rest), 2000) + 1)
			l = append(l, piece(rest[:n]))
			rest = rest[n:]
		}
		wantJoin(t, append(l, endOf(s)), s)
	}
	big := strings.Repeat("b", 5000)
	wantJoin(t, []api.Parcel{piece(big), endOf(big)}, big)
	wantJoin(t, []api.Parcel{piece(""), end("0")}, "")
	wantJoin(t, append(slices.Repeat([]api.Parcel{piece("")}, 100000), end("0")), "")
}

// P13.6: without its end, or with fewer parcels, it is too short.
func TestJoinShort(t *testing.T) {
	wantNoJoin(t, nil, api.ErrShort)
	wantNoJoin(t, []api.Parcel{}, api.ErrShort)
	r := rand.New(rand.NewPCG(13, 11))
	for _, size := range []int{1, 2, 100, 512, 4096} {
		l := cut(t, randomBytes(r, 1+r.IntN(3000)), size)
		for n := range l {
			wantNoJoin(t, l[:n], api.ErrShort)
		}
	}
}

// P13.6: what is joined has the CRC that its end says: parcels lost, twice there or changed within four neighbouring bytes are told.
func TestJoinDamage(t *testing.T) {
	r := rand.New(rand.NewPCG(13, 12))
	joined := 0
	for range 3000 {
		l := cut(t, randomBytes(r, 1+r.IntN(300)), 1+r.IntN(40))
		at := r.IntN(len(l) - 1)
		switch r.IntN(4) {
		case 0:
			l = slices.Delete(l, at, at+1)
		case 1:
			l = slices.Insert(l, at, l[at])
		case 2:
			other := r.IntN(len(l) - 1)
			l[at], l[other] = l[other], l[at]
		case 3:
			b := []byte(l[at].Data)
			b[r.IntN(len(b))] ^= byte(1 + r.IntN(255))
			l[at].Data = string(b)
			wantNoJoin(t, l, api.ErrSum)
		}
		s, e := Join(l)
		if e == api.OK {
			joined++
			if l[len(l)-1] != endOf(s) {
				t.Errorf("%s is joined, its end says %s", short(s), l[len(l)-1].Data)
			}
		} else if e != api.ErrSum || s != "" {
			t.Errorf("Join(%s): %s, %d", showAll(l), short(s), e)
		}
	}
	if joined < 10 {
		t.Errorf("only %d were joined", joined)
	}
}

// R3: what is handed in is as it was, the room behind the list's end too; what is answered is new.
func TestMemory(t *testing.T) {
	room := []api.Parcel{piece("ab"), piece("c"), end("891568578"), command("behind"), end("behind")}
	before := slices.Clone(room)
	for n := range room {
		Join(room[:n])
		if !slices.Equal(room, before) {
			t.Fatalf("Join of %d changed what it was given: %s", n, showAll(room))
		}
	}
	first := cut(t, "abcdef", 2)
	again := cut(t, "abcdef", 2)
	for i := range first {
		first[i] = command("changed")
	}
	first = append(first, command("more"))
	if !slices.Equal(again, cutAgain("abcdef", 2)) {
		t.Errorf("an answer changed by another one: %s, %s", showAll(again), showAll(first))
	}
}
