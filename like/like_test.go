package like

import (
	"math/bits"
	"slices"
	"strings"
	"sync"
	"testing"

	"starling/api"
)

// draw gives numbers for long scripts, the same ones each time.
type draw uint64

func (d *draw) next() uint64 {
	*d = *d*6364136223846793005 + 1442695040888963407
	x := uint64(*d)
	return bits.RotateLeft64(x^x>>29, 23) * 0x9E3779B97F4A7C15
}

func (d *draw) below(n int) int { return int(d.next() >> 11 % uint64(n)) }

// text joins drawn fragments up to a length, which it may miss by the last one.
func (d *draw) text(most int, fragments []string) string {
	var s string
	for len(s) < most && d.below(most+1) > 0 {
		if f := fragments[d.below(len(fragments))]; len(s)+len(f) <= most {
			s += f
		}
	}
	return s
}

// within tells whether a byte is there, and is from low to high.
func within(s string, at int, low, high byte) bool {
	return at < len(s) && low <= s[at] && s[at] <= high
}

// letterSize is how long the letter is that a text begins by, by the table of UTF-8; 0, if there is none.
func letterSize(s string) int {
	tail := func(at int) bool { return within(s, at, 0x80, 0xBF) }
	second := func(low, high byte) bool { return within(s, 1, low, high) }
	switch {
	case within(s, 0, 0, 0x7F):
		return 1
	case within(s, 0, 0xC2, 0xDF) && tail(1):
		return 2
	case within(s, 0, 0xE0, 0xE0) && second(0xA0, 0xBF) && tail(2),
		within(s, 0, 0xE1, 0xEC) && tail(1) && tail(2),
		within(s, 0, 0xED, 0xED) && second(0x80, 0x9F) && tail(2),
		within(s, 0, 0xEE, 0xEF) && tail(1) && tail(2):
		return 3
	case within(s, 0, 0xF0, 0xF0) && second(0x90, 0xBF) && tail(2) && tail(3),
		within(s, 0, 0xF1, 0xF3) && tail(1) && tail(2) && tail(3),
		within(s, 0, 0xF4, 0xF4) && second(0x80, 0x8F) && tail(2) && tail(3):
		return 4
	}
	return 0
}

func modelPieces(s string) []string {
	var l []string
	for s != "" {
		size := max(1, letterSize(s))
		l = append(l, s[:size])
		s = s[size:]
	}
	return l
}

// modelMatch goes by the words of G1, trying all that a % may stand for; a pattern without its piece behind a \ is no pattern.
func modelMatch(pattern, text []string) bool {
	switch {
	case len(pattern) == 0:
		return len(text) == 0
	case pattern[0] == "%":
		for k := range len(text) + 1 {
			if modelMatch(pattern[1:], text[k:]) {
				return true
			}
		}
		return false
	case len(text) == 0:
		return false
	case pattern[0] == "_":
		return modelMatch(pattern[1:], text[1:])
	case pattern[0] == "\\":
		return pattern[1] == text[0] && modelMatch(pattern[2:], text[1:])
	}
	return pattern[0] == text[0] && modelMatch(pattern[1:], text[1:])
}

// modelForm tells whether each \ has a piece behind it.
func modelForm(pattern []string) bool {
	for i := 0; i < len(pattern); i++ {
		if pattern[i] == "\\" {
			i++
			if i == len(pattern) {
				return false
			}
		}
	}
	return true
}

func modelPrefix(pattern []string) (string, bool) {
	var s string
	for i := 0; i < len(pattern); i++ {
		switch pattern[i] {
		case "%", "_":
			return s, false
		case "\\":
			i++
		}
		s += pattern[i]
	}
	return s, true
}

// all tells each text of up to most fragments.
func all(most int, fragments []string) []string {
	l := []string{""}
	from := 0
	for range most {
		until := len(l)
		for _, s := range l[from:until] {
			for _, f := range fragments {
				l = append(l, s+f)
			}
		}
		from = until
	}
	return l
}

// letters has letters of one to four bytes (the least and the greatest of each, and those beside the gap), and what is none.
func letters() []string {
	return []string{
		"a", "b", "%", "_", "\\", "\x00", "\x7f",
		"\xc2\x80", "\xdf\xbf", "\xc3\xa9",
		"\xe0\xa0\x80", "\xe2\x82\xac", "\xed\x9f\xbf", "\xee\x80\x80", "\xef\xbf\xbd", "\xef\xbf\xbf",
		"\xf0\x90\x80\x80", "\xf0\x9f\x90\xa6", "\xf3\xbf\xbf\xbf", "\xf4\x8f\xbf\xbf",
		"\x80", "\xbf", "\xc0", "\xc1", "\xc3", "\xe0", "\xe2\x82", "\xed\xa0\x80", "\xf0\x9f\x90", "\xf4\x90\x80\x80", "\xf5", "\xff",
	}
}

// G1: a piece is a letter or a byte.
func TestPieces(t *testing.T) {
	for _, c := range []struct {
		s    string
		want []string
	}{
		{"", nil},
		{"a", []string{"a"}},
		{"a%_\\", []string{"a", "%", "_", "\\"}},
		{"\x00\x7f", []string{"\x00", "\x7f"}},
		{"a\xc3\xa9b", []string{"a", "\xc3\xa9", "b"}},
		{"\xe2\x82\xac\xe2\x82", []string{"\xe2\x82\xac", "\xe2", "\x82"}},
		{"\xf0\x9f\x90\xa6\xf0\x9f\x90", []string{"\xf0\x9f\x90\xa6", "\xf0", "\x9f", "\x90"}},
		{"\xe2\x82a\xac", []string{"\xe2", "\x82", "a", "\xac"}},
		{"\xef\xbf\xbd\xff", []string{"\xef\xbf\xbd", "\xff"}},
		{"\xc0\x80", []string{"\xc0", "\x80"}},
		{"\xed\xa0\x80", []string{"\xed", "\xa0", "\x80"}},
		{"\xf4\x90\x80\x80", []string{"\xf4", "\x90", "\x80", "\x80"}},
		{"\xc3\xc3\xa9", []string{"\xc3", "\xc3\xa9"}},
	} {
		if got, err := Pieces(c.s); !slices.Equal(got, c.want) || err != api.OK {
			t.Errorf("Pieces(%q) = %q, %d; want %q", c.s, got, err, c.want)
		}
	}
}

// G1: whoever goes through pieces may stop, and begin anew.
func TestPiecesStop(t *testing.T) {
	each := pieces("a\xc3\xa9b")
	for range 2 {
		var got []string
		for piece := range each {
			got = append(got, piece)
			if len(got) == 2 {
				break
			}
		}
		if !slices.Equal(got, []string{"a", "\xc3\xa9"}) {
			t.Errorf("%q", got)
		}
	}
}

// G1: all beginnings of up to two bytes, and drawn texts, against the table of UTF-8.
func TestPiecesModel(t *testing.T) {
	check := func(s string) {
		t.Helper()
		if got, err := Pieces(s); !slices.Equal(got, modelPieces(s)) || err != api.OK {
			t.Fatalf("Pieces(%q) = %q, %d; want %q", s, got, err, modelPieces(s))
		}
	}
	for i := range 1 << 16 {
		begin := string([]byte{byte(i >> 8), byte(i)})
		for _, end := range []string{"", "\x80", "\x80\x80", "\xbf\xbf", "\x80a", "a\x80"} {
			check(begin + end)
		}
	}
	d := draw(7)
	for range 20000 {
		check(d.text(api.MaxText, letters()))
	}
}

// G1: what each part of a pattern stands for, and that nothing may be left over.
func TestMatch(t *testing.T) {
	for _, c := range []struct {
		pattern, s string
		want       bool
	}{
		{"", "", true}, {"", "a", false}, {"a", "", false}, {"a", "a", true}, {"a", "A", false},
		{"ab", "a", false}, {"a", "ab", false}, {"a", "ba", false},
		{"%", "", true}, {"%", "abc", true}, {"%%", "", true}, {"%%%", "a", true},
		{"_", "", false}, {"_", "a", true}, {"_", "ab", false}, {"_%", "", false}, {"_%", "ab", true}, {"%_", "", false}, {"%_%_%", "a", false}, {"%_%_%", "ab", true},
		{"a%", "a", true}, {"a%", "ba", false}, {"%a", "ba", true}, {"%a", "ab", false}, {"%a%", "bab", true}, {"%a%", "bb", false},
		{"a%b", "ab", true}, {"a%b", "abab", true}, {"a%b", "aba", false}, {"%ab%b", "aabab", true}, {"%aab", "aaab", true}, {"a%ab%b", "aab", false},
		{"\\%", "%", true}, {"\\%", "a", false}, {"\\_", "_", true}, {"\\_", "a", false}, {"\\\\", "\\", true}, {"\\\\", "\\\\", false}, {"\\a", "a", true}, {"\\a", "\\a", false},
		{"\\\\%", "\\abc", true}, {"\\\\\\%", "\\%", true}, {"%\\%", "a%", true}, {"%\\%", "a", false},
		{"_", "\xc3\xa9", true}, {"__", "\xc3\xa9", false}, {"__", "\xe2\x82", true}, {"_", "\xf0\x9f\x90\xa6", true}, {"_", "\xff", true},
		{"\\\xc3\xa9", "\xc3\xa9", true}, {"\\\xe2\x82\xac_", "\xe2\x82\xaca", true},
		{"\xc3%", "\xc3\xa9", false}, {"\xc3_", "\xc3\xa9", false}, {"%\xa9", "\xc3\xa9", false}, {"\xc3\\\xa9", "\xc3\xa9", false}, {"\xc3%", "\xc3a", true}, {"\xef\xbf\xbd", "\xff", false}, {"\xff", "\xef\xbf\xbd", false}, {"\xff", "\xfe", false},
		{"%", strings.Repeat("a", 16), true}, {strings.Repeat("%a", 16), strings.Repeat("a", 16), true}, {strings.Repeat("%a", 15) + "%b", strings.Repeat("a", 16), false}, {strings.Repeat("_", 32), strings.Repeat("a", 16), false},
	} {
		if got, err := Match(c.pattern, c.s); got != c.want || err != api.OK {
			t.Errorf("Match(%q, %q) = %v, %d; want %v", c.pattern, c.s, got, err, c.want)
		}
	}
}

func checkMatch(t *testing.T, pattern, s string) {
	t.Helper()
	p := modelPieces(pattern)
	got, err := Match(pattern, s)
	if !modelForm(p) {
		if got || err != api.ErrForm {
			t.Fatalf("Match(%q, %q) = %v, %d; want ErrForm", pattern, s, got, err)
		}
		return
	}
	if want := modelMatch(p, modelPieces(s)); got != want || err != api.OK {
		t.Fatalf("Match(%q, %q) = %v, %d; want %v", pattern, s, got, err, want)
	}
}

// G1, G3: all short patterns and texts, and drawn ones, against a trial of all that a pattern may stand for.
func TestMatchModel(t *testing.T) {
	texts := all(4, []string{"a", "b", "%", "\xc3", "\xa9"})
	for _, pattern := range all(4, []string{"a", "%", "_", "\\", "\xc3", "\xa9"}) {
		for _, s := range texts {
			checkMatch(t, pattern, s)
		}
	}
	d := draw(3)
	few := []string{"a", "b", "\xc3\xa9", "\xe2\x82"}
	signs := append([]string{"%", "%", "_", "\\a", "\\%"}, few...)
	for range 40000 {
		checkMatch(t, d.text(10, signs), d.text(12, few))
		checkMatch(t, d.text(7, letters()), d.text(api.MaxText, letters()))
	}
}

// G1, P4: a pattern at its limit is answered soon, though each % of it may stand for much.
func TestMatchManyWays(t *testing.T) {
	pattern := strings.Repeat("%a", 14) + "%_b"
	for range 100000 {
		if got, err := Match(pattern, strings.Repeat("a", api.MaxText)); got || err != api.OK {
			t.Fatalf("Match = %v, %d", got, err)
		}
	}
}

// G2: what is ahead of the first % or _, without the escapes.
func TestPrefix(t *testing.T) {
	for _, c := range []struct {
		pattern, want string
		whole         bool
	}{
		{"", "", true}, {"a", "a", true}, {"abc", "abc", true},
		{"%", "", false}, {"_", "", false}, {"a%", "a", false}, {"a_", "a", false}, {"a%b%", "a", false}, {"%a", "", false}, {"_a", "", false},
		{"\\%", "%", true}, {"\\_", "_", true}, {"\\\\", "\\", true}, {"\\a", "a", true}, {"a\\%b%c", "a%b", false}, {"\\\\%", "\\", false}, {"\\\\\\_", "\\_", true},
		{"\\\xc3\xa9_", "\xc3\xa9", false}, {"\xe2\x82%\xac", "\xe2\x82", false}, {"\xe2_", "\xe2", false}, {"\xff", "\xff", true},
		{strings.Repeat("a", api.MaxLike), strings.Repeat("a", api.MaxLike), true},
		{strings.Repeat("\\_", api.MaxLike/2), strings.Repeat("_", api.MaxLike/2), true},
		{strings.Repeat("a", api.MaxLike-1) + "%", strings.Repeat("a", api.MaxLike-1), false},
	} {
		if got, whole, err := Prefix(c.pattern); got != c.want || whole != c.whole || err != api.OK {
			t.Errorf("Prefix(%q) = %q, %v, %d; want %q, %v", c.pattern, got, whole, err, c.want, c.whole)
		}
	}
}

// G2, G3: all texts of a pattern begin by its prefix, and if it is whole, that is the only one.
func TestPrefixModel(t *testing.T) {
	texts := all(3, []string{"a", "%", "_", "\\"})
	for _, pattern := range all(5, []string{"a", "%", "_", "\\"}) {
		p := modelPieces(pattern)
		got, whole, err := Prefix(pattern)
		if !modelForm(p) {
			if got != "" || whole || err != api.ErrForm {
				t.Fatalf("Prefix(%q) = %q, %v, %d; want ErrForm", pattern, got, whole, err)
			}
			continue
		}
		if want, wantWhole := modelPrefix(p); got != want || whole != wantWhole || err != api.OK {
			t.Fatalf("Prefix(%q) = %q, %v, %d; want %q, %v", pattern, got, whole, err, want, wantWhole)
		}
		for _, s := range texts {
			if ok, _ := Match(pattern, s); ok && (!strings.HasPrefix(s, got) || whole && s != got) {
				t.Fatalf("%q stands for %q, and its prefix is %q, %v", pattern, s, got, whole)
			}
		}
	}
}

// G2: a pattern for just the text: of it, and of no other one; and its prefix is the text.
func TestEscape(t *testing.T) {
	for _, c := range []struct{ s, want string }{
		{"", ""}, {"a", "a"}, {"%", "\\%"}, {"_", "\\_"}, {"\\", "\\\\"}, {"a%b_c\\d", "a\\%b\\_c\\\\d"}, {"\xc3\xa9\xff", "\xc3\xa9\xff"},
		{"it's", "it's"}, {strings.Repeat("%", api.MaxText), strings.Repeat("\\%", api.MaxText)}, {strings.Repeat("a", api.MaxText), strings.Repeat("a", api.MaxText)},
	} {
		if got, err := Escape(c.s); got != c.want || err != api.OK {
			t.Errorf("Escape(%q) = %q, %d; want %q", c.s, got, err, c.want)
		}
	}
	texts := all(3, []string{"a", "%", "_", "\\", "\xc3", "\xa9"})
	d := draw(11)
	for range 300 {
		texts = append(texts, d.text(api.MaxText, letters()))
	}
	for i, s := range texts {
		pattern, err := Escape(s)
		if err != api.OK {
			t.Fatalf("Escape(%q): %d", s, err)
		}
		if back, whole, err := Prefix(pattern); back != s || !whole || err != api.OK {
			t.Fatalf("Prefix(%q) = %q, %v, %d; want %q", pattern, back, whole, err, s)
		}
		for k, other := range texts {
			if ok, err := Match(pattern, other); ok != (s == other) || err != api.OK {
				t.Fatalf("%d %d: Match(%q, %q) = %v, %d", i, k, pattern, other, ok, err)
			}
		}
	}
}

// G3: limits, and one beyond them, in the order of errors; P1: nothing beside an error.
func TestErrors(t *testing.T) {
	at, beyond := strings.Repeat("a", api.MaxText), strings.Repeat("a", api.MaxText+1)
	for _, s := range []string{at, strings.Repeat("\xc3\xa9", api.MaxText/2)} {
		if _, err := Pieces(s); err != api.OK {
			t.Errorf("Pieces(%q): %d", s, err)
		}
		if _, err := Escape(s); err != api.OK {
			t.Errorf("Escape(%q): %d", s, err)
		}
	}
	for _, s := range []string{beyond, strings.Repeat("\xc3\xa9", api.MaxText/2) + "a", strings.Repeat("%", 100)} {
		if l, err := Pieces(s); len(l) > 0 || err != api.ErrMany {
			t.Errorf("Pieces(%q) = %q, %d", s, l, err)
		}
		if p, err := Escape(s); p != "" || err != api.ErrMany {
			t.Errorf("Escape(%q) = %q, %d", s, p, err)
		}
	}
	for _, c := range []struct {
		pattern      string
		atErr, after api.Errno
	}{
		{"", api.OK, api.ErrMany},
		{"%", api.OK, api.ErrMany},
		{strings.Repeat("%", api.MaxLike), api.OK, api.ErrMany},
		{strings.Repeat("a", api.MaxLike), api.OK, api.ErrMany},
		{"\\", api.ErrForm, api.ErrForm},
		{"a\\", api.ErrForm, api.ErrForm},
		{"%\\", api.ErrForm, api.ErrForm},
		{"\\\\\\", api.ErrForm, api.ErrForm},
		{"\xc3\\", api.ErrForm, api.ErrForm},
		{strings.Repeat("a", api.MaxLike-1) + "\\", api.ErrForm, api.ErrForm},
		{strings.Repeat("%", api.MaxLike+1), api.ErrMany, api.ErrMany},
		{strings.Repeat("a", api.MaxLike) + "\\", api.ErrMany, api.ErrMany},
		{strings.Repeat("\\", 99), api.ErrMany, api.ErrMany},
	} {
		if ok, err := Match(c.pattern, at); err != c.atErr || err != api.OK && ok {
			t.Errorf("Match(%q, %q) = %v, %d; want %d", c.pattern, at, ok, err, c.atErr)
		}
		if ok, err := Match(c.pattern, beyond); ok || err != c.after {
			t.Errorf("Match(%q, %q) = %v, %d; want %d", c.pattern, beyond, ok, err, c.after)
		}
		if s, whole, err := Prefix(c.pattern); err != c.atErr || err != api.OK && (whole || s != "") {
			t.Errorf("Prefix(%q) = %q, %v, %d; want %d", c.pattern, s, whole, err, c.atErr)
		}
	}
}

// P2, P3: what is answered is the caller's, and nothing is remembered, whoever asks at the same time.
func TestNothingIsKept(t *testing.T) {
	var hands sync.WaitGroup
	for seed := range 4 {
		hands.Go(func() {
			d := draw(seed)
			for range 500 {
				pattern, s := d.text(8, letters()), d.text(api.MaxText, letters())
				for range 2 {
					l, err := Pieces(s)
					if !slices.Equal(l, modelPieces(s)) || err != api.OK {
						t.Errorf("Pieces(%q) = %q, %d", s, l, err)
					}
					for i := range l {
						l[i] = "gone"
					}
					p := modelPieces(pattern)
					if ok, _ := Match(pattern, s); modelForm(p) && ok != modelMatch(p, modelPieces(s)) {
						t.Errorf("Match(%q, %q) = %v", pattern, s, ok)
					}
				}
			}
		})
	}
	hands.Wait()
}
