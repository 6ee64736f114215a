package num

import (
	"encoding/binary"
	"math/big"
	"math/bits"
	"strings"
	"sync"
	"testing"

	"starling/api"
)

// draw gives numbers for long scripts, the same ones each time.
type draw uint64

func (d *draw) next() uint64 {
	*d = *d*6364136223846793005 + 1442695040888963407
	x := uint64(*d)
	return bits.RotateLeft64(x^x>>29, 23) * 0x9E3779B97F4A7C15
}

// numbers has those around each power of two, and drawn ones of every length.
func numbers() []uint64 {
	ns := []uint64{0, 1<<64 - 1}
	for i := range 64 {
		p := uint64(1) << i
		ns = append(ns, p-1, p, p+1)
	}
	d := draw(1)
	for i := range 6400 {
		ns = append(ns, d.next()>>(i%64))
	}
	return ns
}

func signedNumbers() []int64 {
	var ns []int64
	for _, n := range numbers() {
		ns = append(ns, int64(n), -int64(n))
	}
	return ns
}

func TestWriteTells(t *testing.T) { // A1
	for _, c := range []struct {
		n    uint64
		want string
	}{
		{0, "\x00"},
		{1, "\x01"},
		{127, "\x7f"},
		{128, "\x80\x01"},
		{129, "\x81\x01"},
		{300, "\xac\x02"},
		{16383, "\xff\x7f"},
		{16384, "\x80\x80\x01"},
		{1<<63 - 1, "\xff\xff\xff\xff\xff\xff\xff\xff\x7f"},
		{1 << 63, "\x80\x80\x80\x80\x80\x80\x80\x80\x80\x01"},
		{1<<64 - 1, "\xff\xff\xff\xff\xff\xff\xff\xff\xff\x01"},
	} {
		if got := Write(c.n); got != c.want {
			t.Errorf("Write(%d) is %x, must be %x", c.n, got, c.want)
		}
	}
}

func TestWriteIsTheDigits(t *testing.T) { // A1
	for _, n := range numbers() {
		s := Write(n)
		value, power := new(big.Int), big.NewInt(1)
		for i := range len(s) {
			digit := s[i]
			if i < len(s)-1 {
				digit -= 128
			}
			if digit > 127 {
				t.Fatalf("Write(%d) is %x: byte %d has the wrong mark", n, s, i)
			}
			value.Add(value, new(big.Int).Mul(power, big.NewInt(int64(digit))))
			power.Mul(power, big.NewInt(128))
		}
		if value.Cmp(new(big.Int).SetUint64(n)) != 0 {
			t.Fatalf("the digits of Write(%d) are worth %v", n, value)
		}
		if n > 0 && s[len(s)-1] == 0 {
			t.Fatalf("Write(%d) has 0 as its last digit", n)
		}
		if want := string(binary.AppendUvarint(nil, n)); s != want {
			t.Fatalf("Write(%d) is %x, must be %x", n, s, want)
		}
	}
}

func TestReadTells(t *testing.T) { // A1, P1: with an error the rest is zero
	nine := strings.Repeat("\x80", 9)
	full := strings.Repeat("\xff", 9)
	for _, c := range []struct {
		s    string
		n    uint64
		size int
		err  api.Errno
	}{
		{"", 0, 0, api.ErrNone},
		{"\x00", 0, 1, api.OK},
		{"\x00\x00", 0, 1, api.OK},
		{"\x00\x80", 0, 1, api.OK},
		{"\x01", 1, 1, api.OK},
		{"\x7f\xff", 127, 1, api.OK},
		{"\x80", 0, 0, api.ErrNone},
		{"\xff", 0, 0, api.ErrNone},
		{"\x80\x00", 0, 0, api.ErrForm},
		{"\xff\x00", 0, 0, api.ErrForm},
		{"\x80\x00\x01", 0, 0, api.ErrForm},
		{"\x80\x01", 128, 2, api.OK},
		{"\xac\x02tail", 300, 2, api.OK},
		{"\x80\x80\x00", 0, 0, api.ErrForm},
		{"\x80\x80\x01", 16384, 3, api.OK},
		{nine, 0, 0, api.ErrNone},
		{full, 0, 0, api.ErrNone},
		{nine + "\x00", 0, 0, api.ErrForm},
		{full + "\x00", 0, 0, api.ErrForm},
		{nine + "\x01", 1 << 63, 10, api.OK},
		{full + "\x01", 1<<64 - 1, 10, api.OK},
		{full + "\x01\xff", 1<<64 - 1, 10, api.OK},
		{nine + "\x02", 0, 0, api.ErrMany},
		{nine + "\x7f", 0, 0, api.ErrMany},
		{nine + "\x80", 0, 0, api.ErrMany},
		{nine + "\x81", 0, 0, api.ErrMany},
		{full + "\xff", 0, 0, api.ErrMany},
		{full + "\x80\x00", 0, 0, api.ErrMany},
		{full + "\x81\x01", 0, 0, api.ErrMany},
	} {
		n, size, err := Read(c.s)
		if n != c.n || size != c.size || err != c.err {
			t.Errorf("Read(%x) is %d %d %d, must be %d %d %d", c.s, n, size, err, c.n, c.size, c.err)
		}
	}
}

// model reads as the words of the document say it, over numbers without an end.
func model(s string) (uint64, int, api.Errno) {
	value, power := new(big.Int), big.NewInt(1)
	for i := 0; ; i++ {
		if i == len(s) {
			return 0, 0, api.ErrNone
		}
		if i == 9 && s[i] > 1 {
			return 0, 0, api.ErrMany
		}
		value.Add(value, new(big.Int).Mul(power, big.NewInt(int64(s[i]&127))))
		power.Mul(power, big.NewInt(128))
		if s[i] >= 128 {
			continue
		}
		if s[i] == 0 && i > 0 {
			return 0, 0, api.ErrForm
		}
		return value.Uint64(), i + 1, api.OK
	}
}

func checkRead(t *testing.T, s string) {
	t.Helper()
	n, size, err := Read(s)
	m, k, e := model(s)
	if n != m || size != k || err != e {
		t.Fatalf("Read(%x) is %d %d %d, must be %d %d %d", s, n, size, err, m, k, e)
	}
	if err == api.OK && Write(n) != s[:size] {
		t.Fatalf("%x is read as %d, which is written %x", s[:size], n, Write(n))
	}
	z, size, err := ReadSigned(s)
	want := int64(0)
	if e == api.OK {
		want = Zag(m)
	}
	if z != want || size != k || err != e {
		t.Fatalf("ReadSigned(%x) is %d %d %d, must be %d %d %d", s, z, size, err, want, k, e)
	}
}

func TestReadAsTheDocumentSays(t *testing.T) { // A1, A2, A3
	for a := range 256 {
		for b := range 256 {
			two := string([]byte{byte(a), byte(b)})
			checkRead(t, two[:1])
			checkRead(t, two)
			for _, mark := range []string{"\x80", "\xff"} {
				checkRead(t, strings.Repeat(mark, 7)+two)
				checkRead(t, strings.Repeat(mark, 8)+two)
				checkRead(t, strings.Repeat(mark, 9)+two)
			}
		}
	}
	d := draw(2)
	for i := range 20000 {
		s := make([]byte, i%13)
		for j := range s {
			s[j] = byte(d.next() >> 56)
			if d.next()>>60 > 2 {
				s[j] |= 128
			}
		}
		checkRead(t, string(s))
	}
}

func TestWhatIsWrittenIsRead(t *testing.T) { // A3
	behind := []string{"", "\x00", "\x01", "\x80", "\xff", "wren"}
	for _, n := range numbers() {
		s := Write(n)
		for _, b := range behind {
			m, size, err := Read(s + b)
			if m != n || size != len(s) || err != api.OK {
				t.Fatalf("Read(%x) is %d %d %d, must be %d %d 0", s+b, m, size, err, n, len(s))
			}
		}
		for cut := range len(s) {
			m, size, err := Read(s[:cut])
			if m != 0 || size != 0 || err != api.ErrNone {
				t.Fatalf("Read(%x) is %d %d %d, must be 0 0 5", s[:cut], m, size, err)
			}
		}
	}
	for _, n := range signedNumbers() {
		s := Signed(n)
		for _, b := range behind {
			m, size, err := ReadSigned(s + b)
			if m != n || size != len(s) || err != api.OK {
				t.Fatalf("ReadSigned(%x) is %d %d %d, must be %d %d 0", s+b, m, size, err, n, len(s))
			}
		}
	}
}

func TestZigTells(t *testing.T) { // A2
	for _, c := range []struct {
		n int64
		z uint64
	}{
		{0, 0}, {-1, 1}, {1, 2}, {-2, 3}, {2, 4}, {-64, 127}, {64, 128},
		{1<<62 - 1, 1<<63 - 2}, {-1 << 62, 1<<63 - 1}, {1 << 62, 1 << 63},
		{1<<63 - 1, 1<<64 - 2}, {-1<<63 + 1, 1<<64 - 3}, {-1 << 63, 1<<64 - 1},
	} {
		if got := Zig(c.n); got != c.z {
			t.Errorf("Zig(%d) is %d, must be %d", c.n, got, c.z)
		}
		if got := Zag(c.z); got != c.n {
			t.Errorf("Zag(%d) is %d, must be %d", c.z, got, c.n)
		}
	}
}

func TestZigAsTheDocumentSays(t *testing.T) { // A2
	two, one := big.NewInt(2), big.NewInt(1)
	for _, n := range signedNumbers() {
		want := new(big.Int).Mul(big.NewInt(n), two)
		if n < 0 {
			want.Neg(want).Sub(want, one)
		}
		if got := new(big.Int).SetUint64(Zig(n)); got.Cmp(want) != 0 {
			t.Fatalf("Zig(%d) is %v, must be %v", n, got, want)
		}
		if back := Zag(Zig(n)); back != n {
			t.Fatalf("Zag(Zig(%d)) is %d", n, back)
		}
		if got, want := Signed(n), Write(Zig(n)); got != want {
			t.Fatalf("Signed(%d) is %x, must be %x", n, got, want)
		}
	}
	for _, n := range numbers() {
		if back := Zig(Zag(n)); back != n {
			t.Fatalf("Zig(Zag(%d)) is %d", n, back)
		}
	}
}

func TestNearZeroIsShort(t *testing.T) { // A3
	for _, n := range numbers() {
		want := max(1, (bits.Len64(n)+6)/7)
		if got := len(Write(n)); got != want {
			t.Fatalf("Write(%d) has %d bytes, must have %d", n, got, want)
		}
	}
	for n := int64(-300); n <= 300; n++ {
		want := 2
		if n >= -64 && n < 64 {
			want = 1
		}
		if got := len(Signed(n)); got != want {
			t.Fatalf("Signed(%d) has %d bytes, must have %d", n, got, want)
		}
	}
}

func TestLongTexts(t *testing.T) { // P1, P4
	const long = 1 << 20
	for _, c := range []struct {
		b    string
		n    uint64
		size int
		err  api.Errno
	}{
		{"\x00", 0, 1, api.OK},
		{"\x01", 1, 1, api.OK},
		{"\x7f", 127, 1, api.OK},
		{"\x80", 0, 0, api.ErrMany},
		{"\xff", 0, 0, api.ErrMany},
	} {
		n, size, err := Read(strings.Repeat(c.b, long))
		if n != c.n || size != c.size || err != c.err {
			t.Errorf("Read of many %x is %d %d %d, must be %d %d %d", c.b, n, size, err, c.n, c.size, c.err)
		}
	}
}

func TestNothingIsRemembered(t *testing.T) { // P2, P3
	ns := numbers()
	first := make([]string, len(ns))
	kept := make([]string, len(ns))
	for i, n := range ns {
		first[i] = Write(n)
		kept[i] = strings.Clone(first[i])
	}
	var hands sync.WaitGroup
	for hand := range 4 {
		hands.Go(func() {
			for i := range ns {
				if hand%2 == 1 {
					i = len(ns) - 1 - i
				}
				Read("\x80\x00")
				if s := Write(ns[i]); s != kept[i] {
					t.Errorf("Write(%d) is %x, and was %x", ns[i], s, kept[i])
				}
				if n, size, err := Read(kept[i]); n != ns[i] || size != len(kept[i]) || err != api.OK {
					t.Errorf("Read(%x) is %d %d %d", kept[i], n, size, err)
				}
			}
		})
	}
	hands.Wait()
	for i := range first {
		if first[i] != kept[i] {
			t.Errorf("what was answered for %d has become %x, and was %x", ns[i], first[i], kept[i])
		}
	}
}
