package sum

import (
	"hash/crc32"
	"math/bits"
	"strings"
	"sync"
	"testing"
)

// draw gives numbers for long scripts, the same ones each time.
type draw uint64

func (d *draw) next() uint32 {
	*d = *d*6364136223846793005 + 1442695040888963407
	x := uint64(*d)
	return uint32(bits.RotateLeft64(x^x>>29, 23) * 0x9E3779B97F4A7C15 >> 32)
}

func (d *draw) text(n int) string {
	s := make([]byte, n)
	for i := range s {
		s[i] = byte(d.next())
	}
	return string(s)
}

// feed lets one bit come to a register, as the words of the document say it.
func feed(register uint32, bit uint32) uint32 {
	alike := register&1 == bit
	register >>= 1
	if !alike {
		register ^= 0x82F63B78
	}
	return register
}

// model reckons bit by bit, as the words of the document say it.
func model(c uint32, s string) uint32 {
	register := ^c
	for i := range len(s) {
		for bit := range 8 {
			register = feed(register, uint32(s[i]>>bit&1))
		}
	}
	return ^register
}

func texts() []string {
	ts := []string{
		"", "a", "\x00", "\xff", "123456789", "wren", "rook", "\x00\x00\x00\x00", "\xff\xff\xff\xff",
		"The wren, the wren, the king of all birds",
	}
	d := draw(1)
	for i := range 300 {
		ts = append(ts, d.text(i))
	}
	return ts
}

func registers() []uint32 {
	cs := []uint32{0, 1, 12345, 0x82F63B78, 1<<32 - 1}
	for i := range 32 {
		cs = append(cs, 1<<i, ^uint32(1<<i))
	}
	d := draw(2)
	for range 200 {
		cs = append(cs, d.next())
	}
	return cs
}

func TestOfTells(t *testing.T) { // B1
	for _, c := range []struct {
		s    string
		want uint32
	}{
		{"", 0},
		{"a", 0xC1D04330},
		{"123456789", 0xE3069283},
		{"\x00", 0x527D5351},
		{"\xff", 0xFF000000},
		{strings.Repeat("\x00", 32), 0x8A9136AA},
		{strings.Repeat("\xff", 32), 0x62A8AB43},
	} {
		if got := Of(c.s); got != c.want {
			t.Errorf("Of(%x) is %08x, must be %08x", c.s, got, c.want)
		}
	}
}

func TestOfAsTheDocumentSays(t *testing.T) { // B1
	castagnoli := crc32.MakeTable(crc32.Castagnoli)
	for i := range 256 {
		s := string([]byte{byte(i)})
		if got, want := Of(s), model(0, s); got != want {
			t.Fatalf("Of(%x) is %08x, must be %08x", s, got, want)
		}
	}
	for _, s := range texts() {
		if got, want := Of(s), model(0, s); got != want {
			t.Fatalf("Of(%x) is %08x, must be %08x", s, got, want)
		}
		if got, want := Of(s), crc32.Checksum([]byte(s), castagnoli); got != want {
			t.Fatalf("Of(%x) is %08x, must be %08x", s, got, want)
		}
	}
}

func TestMoreGoesOn(t *testing.T) { // B1
	for _, s := range texts() {
		whole := Of(s)
		for cut := range len(s) + 1 {
			if got := More(Of(s[:cut]), s[cut:]); got != whole {
				t.Fatalf("More at %d of %x is %08x, must be %08x", cut, s, got, whole)
			}
		}
	}
}

func TestMoreOfWhateverSum(t *testing.T) { // B1
	for _, c := range registers() {
		if got := More(c, ""); got != c {
			t.Fatalf("More(%08x, nothing) is %08x", c, got)
		}
		for _, s := range []string{"a", "\x00", "\xff", "wren", "\x00\x80\xff\x01\x7f"} {
			if got, want := More(c, s), model(c, s); got != want {
				t.Fatalf("More(%08x, %x) is %08x, must be %08x", c, s, got, want)
			}
		}
	}
}

func TestTable(t *testing.T) { // B2
	table := Table()
	castagnoli := crc32.MakeTable(crc32.Castagnoli)
	for i := range 256 {
		want := uint32(i)
		for range 8 {
			want = feed(want, 0)
		}
		if table[i] != want || table[i] != castagnoli[i] {
			t.Errorf("Table at %d is %08x, must be %08x", i, table[i], want)
		}
	}
}

func TestTableReckonsSums(t *testing.T) { // B2
	table := Table()
	for _, s := range texts() {
		register := ^uint32(0)
		for i := range len(s) {
			register = register>>8 ^ table[byte(register)^s[i]]
		}
		if got := Of(s); got != ^register {
			t.Fatalf("Of(%x) is %08x, by the table %08x", s, got, ^register)
		}
	}
}

func TestLessGoesBack(t *testing.T) { // B2
	for _, s := range texts() {
		c := Of(s)
		for i := len(s) - 1; i >= 0; i-- {
			got := Less(c, s[i])
			if want := Of(s[:i]); got != want {
				t.Fatalf("Less(%08x, %x) is %08x, must be %08x", c, s[i], got, want)
			}
			c = got
		}
	}
}

func TestLessOfWhateverSum(t *testing.T) { // B2
	for _, c := range registers() {
		for b := range 256 {
			s := string([]byte{byte(b)})
			if got := Less(model(c, s), byte(b)); got != c {
				t.Fatalf("Less of More(%08x, %x) is %08x", c, s, got)
			}
			if got := model(Less(c, byte(b)), s); got != c {
				t.Fatalf("More of Less(%08x, %x) is %08x", c, b, got)
			}
		}
	}
}

func TestDifferentStaysDifferent(t *testing.T) { // B3
	behind := []string{"", "\x00", "\xff", "a", "wren", strings.Repeat("\x00", 300), strings.Repeat("rook", 70)}
	seen := make(map[string]map[uint32]uint32)
	for _, b := range behind {
		seen[b] = make(map[uint32]uint32)
	}
	for _, c := range registers() {
		for _, b := range behind {
			after := More(c, b)
			if other, ok := seen[b][after]; ok && other != c {
				t.Fatalf("sums %08x and %08x are both %08x with %x behind", c, other, after, b)
			}
			seen[b][after] = c
		}
	}
}

// turned has the bits of pattern turned from bit at on.
func turned(s string, at int, pattern uint32) string {
	b := []byte(s)
	for i := range 32 {
		if pattern>>i&1 == 1 {
			b[(at+i)/8] ^= 1 << ((at + i) % 8)
		}
	}
	return string(b)
}

func TestTurnedBitsAreTold(t *testing.T) { // B3
	d := draw(3)
	s := d.text(64)
	whole := Of(s)
	for at := range 8*len(s) - 31 {
		patterns := []uint32{1, 3, 1 << 31, 1<<31 + 1, 1<<32 - 1, 0x82F63B78, 0x05EC76F1}
		for range 40 {
			patterns = append(patterns, d.next()|1)
		}
		for _, p := range patterns {
			if Of(turned(s, at, p)) == whole {
				t.Fatalf("bits %08x from %d on are turned, and it is not told", p, at)
			}
		}
	}
}

func TestLongTexts(t *testing.T) { // P1, P4
	castagnoli := crc32.MakeTable(crc32.Castagnoli)
	d := draw(4)
	long := d.text(1<<20 + 1)
	if got, want := Of(long), crc32.Checksum([]byte(long), castagnoli); got != want {
		t.Errorf("Of a long text is %08x, must be %08x", got, want)
	}
}

func TestNothingIsRemembered(t *testing.T) { // P2, P3
	table := Table()
	want := table
	for i := range table {
		table[i] = ^table[i]
	}
	if Table() != want {
		t.Error("a change of a table that was answered is seen in the next one")
	}
	var hands sync.WaitGroup
	for range 4 {
		hands.Go(func() {
			for _, s := range texts() {
				Less(More(1, s), 'x')
				if got, want := Of(s), model(0, s); got != want {
					t.Errorf("Of(%x) is %08x, must be %08x", s, got, want)
				}
			}
			if Table() != want {
				t.Error("a table is not what it was")
			}
		})
	}
	hands.Wait()
}
