package check

import (
	"hash/crc32"
	"math"
	"strings"
	"testing"
)

// someTexts: texts of many lengths and bytes, the same in every run.
func someTexts() []string {
	m := mixer(2)
	texts := []string{"", "\x00", "\xff", "a", "ab", "123456789", strings.Repeat("\x00", 300), strings.Repeat("\xff", 300)}
	for i := range 300 {
		texts = append(texts, m.text(i))
	}
	return append(texts, m.text(4096))
}

// mixer makes bytes without order that are the same in every run.
type mixer uint64

func (m *mixer) next() uint32 {
	*m = *m*6364136223846793005 + 1442695040888963407
	return uint32(*m >> 32)
}

func (m *mixer) text(size int) string {
	b := make([]byte, size)
	for i := range b {
		b[i] = byte(m.next() >> 24)
	}
	return string(b)
}

// sumInSteps: P2.1 word by word, in numbers that are not cut till they are told to.
func sumInSteps(s string) int {
	sum, x, n := 65535, 0, len(s)
	for _, c := range []byte(s) {
		highest := sum / 32768
		sum = sum*2%65536 + highest
		t := sum
		sum = (sum + int(c)) % 65536
		x = (x + (sum ^ n%65536)) % 65536
		if sum <= t {
			sum = sum ^ x
		}
		n--
	}
	return sum
}

// P2.1: worked out by hand.
func TestSumByHand(t *testing.T) {
	for _, c := range []struct {
		s    string
		want int
	}{
		{"", 65535}, {"\x00", 1}, {"a", 1}, {"ab", 102}, {"\xff\xff", 259},
		// The second byte leaves the sum as it was: at most is not below.
		{"\x00\x00", 6},
	} {
		if got := Sum(c.s); got != c.want {
			t.Errorf("Sum(%q): %d, want %d", c.s, got, c.want)
		}
	}
}

// P2.1
func TestSum(t *testing.T) {
	for _, s := range someTexts() {
		if got, want := Sum(s), sumInSteps(s); got != want {
			t.Errorf("Sum(%q): %d, want %d", s, got, want)
		}
	}
}

// P2.1: of the count of the bytes the lowest 16 bits alone are taken.
func TestSumOfLongTexts(t *testing.T) {
	for _, size := range []int{65535, 65536, 65537, 200000} {
		m := mixer(size)
		s := m.text(size)
		if got, want := Sum(s), sumInSteps(s); got != want {
			t.Errorf("Sum of %d bytes: %d, want %d", size, got, want)
		}
	}
}

// P2.2
func TestPacket(t *testing.T) {
	for _, c := range []struct {
		data    string
		control int
		want    int
	}{
		{"", 0, 43691}, {"", 255, 43946}, {"", 1, 43692},
		{"\x00", 0, 43689}, {"\x00", 1, 43690}, {"\x00", 255, 43436},
		{"ab", 0, 43588}, {"ab", 102, 43690}, {"ab", 0x88, 43452},
		{"ab", 256, 43588}, {"ab", 256 + 102, 43690}, {"ab", -1, 43537},
		{"ab", math.MaxInt, 43537}, {"ab", math.MinInt, 43588},
	} {
		if got := Packet(c.data, c.control); got != c.want {
			t.Errorf("Packet(%q, %d): %d, want %d", c.data, c.control, got, c.want)
		}
	}
}

// P2.2: the difference is reckoned modulo 65536, of whatever data.
func TestPacketOfManyTexts(t *testing.T) {
	for _, s := range someTexts() {
		for _, control := range []int{0, 7, 0x88, 255, 511, -200} {
			want := (43690 - (sumInSteps(s) ^ control&255) + 65536) % 65536
			if got := Packet(s, control); got != want {
				t.Errorf("Packet(%q, %d): %d, want %d", s, control, got, want)
			}
		}
	}
}

// P2.2
func TestControl(t *testing.T) {
	for _, c := range []struct{ control, want int }{
		{0, 43690}, {1, 43689}, {8, 43682}, {128, 43562}, {255, 43435},
		{256, 43690}, {257, 43689}, {65535, 43435}, {65536, 43690},
		{-1, 43435}, {-256, 43690}, {math.MaxInt, 43435}, {math.MinInt, 43690},
	} {
		if got := Control(c.control); got != c.want {
			t.Errorf("Control(%d): %d, want %d", c.control, got, c.want)
		}
	}
}

// P2.3
func TestXor(t *testing.T) {
	for _, c := range []struct {
		s    string
		want int
	}{
		{"", 0}, {"\x00", 0}, {"a", 97}, {"ab", 3}, {"aa", 0}, {"\xff", 255}, {"\xff\x01", 254}, {"\x80\x81\x01", 0}, {"\u00e9", 0xc3 ^ 0xa9},
	} {
		if got := Xor(c.s); got != c.want {
			t.Errorf("Xor(%q): %d, want %d", c.s, got, c.want)
		}
	}
}

// P2.4
func TestCrc(t *testing.T) {
	for _, c := range []struct {
		s    string
		want int
	}{
		{"", 0}, {"123456789", 0xcbf43926}, {"a", 0xe8b7be43}, {"\x00", 0xd202ef8d}, {"\xff\xff\xff\xff", 0xffffffff},
	} {
		if got := Crc(c.s); got != c.want {
			t.Errorf("Crc(%q): %x, want %x", c.s, got, c.want)
		}
	}
	for _, s := range someTexts() {
		if got, want := Crc(s), int(crc32.ChecksumIEEE([]byte(s))); got != want {
			t.Errorf("Crc(%q): %x, want %x", s, got, want)
		}
	}
}

// P2.4: of the sum the lowest 32 bits alone are taken.
func TestMore(t *testing.T) {
	for _, c := range []struct {
		sum  int
		s    string
		want int
	}{
		{0, "", 0}, {5, "", 5}, {0xffffffff, "", 0xffffffff}, {0x80000000, "", 0x80000000},
		{1 << 32, "", 0}, {-1, "", 0xffffffff}, {math.MaxInt, "", 0xffffffff}, {math.MinInt, "", 0},
		{0, "123456789", 0xcbf43926}, {1 << 32, "123456789", 0xcbf43926}, {math.MinInt, "123456789", 0xcbf43926},
	} {
		if got := More(c.sum, c.s); got != c.want {
			t.Errorf("More(%x, %q): %x, want %x", c.sum, c.s, got, c.want)
		}
	}
	for _, sum := range []int{1, 0xcbf43926, 0xffffffff, -1, -77, math.MaxInt, math.MinInt + 9} {
		for _, s := range someTexts() {
			want := int(crc32.Update(uint32(sum&0xffffffff), crc32.IEEETable, []byte(s)))
			if got := More(sum, s); got != want {
				t.Errorf("More(%x, %q): %x, want %x", sum, s, got, want)
			}
		}
	}
}

// P2.5
func TestCrcOfTwoTexts(t *testing.T) {
	for _, s := range []string{"", "1", "123456789", strings.Repeat("\x00\xff", 40)} {
		for cut := range len(s) + 1 {
			if got, want := More(Crc(s[:cut]), s[cut:]), Crc(s); got != want {
				t.Errorf("More(Crc(%q), %q): %x, want %x", s[:cut], s[cut:], got, want)
			}
		}
	}
}

// P2.6: what four neighbouring bytes are turned by is not 0; wherever they stand the Crc tells.
func TestCrcTellsFourBytes(t *testing.T) {
	m := mixer(6)
	turns := []uint32{0xffffffff, 0x80000001, 0xedb88320, 0xdb710641}
	for i := range 32 {
		turns = append(turns, 1<<i)
	}
	for range 2000 {
		turns = append(turns, m.next()|1)
	}
	for _, size := range []int{4, 5, 64} {
		s := m.text(size)
		for at := range size - 3 {
			for _, turn := range turns {
				other := turnFour(s, at, turn)
				if Crc(s) == Crc(other) {
					t.Fatalf("Crc(%q) and Crc(%q) are alike", s, other)
				}
			}
		}
	}
}

func turnFour(s string, at int, turn uint32) string {
	b := []byte(s)
	for i := range 4 {
		b[at+i] ^= byte(turn >> (8 * i))
	}
	return string(b)
}

// P2.6: texts shorter than four bytes.
func TestCrcTellsShortTexts(t *testing.T) {
	seen := map[int]int{}
	for n := range 65536 {
		crc := Crc(string([]byte{byte(n >> 8), byte(n)}))
		if other, there := seen[crc]; there {
			t.Fatalf("the Crc of %04x and %04x is alike", n, other)
		}
		seen[crc] = n
	}
}

// P2.7
func TestXorOfTwoTexts(t *testing.T) {
	texts := someTexts()
	for i, s := range texts {
		other := texts[len(texts)-1-i]
		if got, want := Xor(s+other), Xor(s)^Xor(other); got != want {
			t.Errorf("Xor(%q + %q): %d, want %d", s, other, got, want)
		}
		if got := Xor(s + string([]byte{byte(Xor(s))})); got != 0 {
			t.Errorf("Xor(%q with its Xor): %d, want 0", s, got)
		}
	}
}
