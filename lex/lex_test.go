package lex

import (
	"encoding/hex"
	"math"
	"math/big"
	"math/bits"
	"regexp"
	"slices"
	"strconv"
	"strings"
	"sync"
	"testing"

	"starling/api"
)

// draw gives numbers for long scripts, the same ones each time.
type draw uint64

func (d *draw) next() uint64 {
	*d = *d*6364136223846793005 + 1442695040888963407
	x := uint64(*d)
	return bits.RotateLeft64(x^x>>29, 23) * 0x9E3779B97F4A7C15
}

func (d *draw) below(n int) int { return int(d.next() >> 11 % uint64(n)) }

func word(at int, s string) api.Token      { return api.Token{Kind: api.Word, At: at, S: s} }
func whole(at int, n int64) api.Token      { return api.Token{Kind: api.Number, At: at, N: n} }
func quoted(at int, s string) api.Token    { return api.Token{Kind: api.Quote, At: at, S: s} }
func blob(at int, s string) api.Token      { return api.Token{Kind: api.Bytes, At: at, S: s} }
func signToken(at int, s string) api.Token { return api.Token{Kind: api.Sign, At: at, S: s} }
func long(n int) string                    { return strings.Repeat("w", n) }
func allSigns() []string                   { return strings.Fields("( ) , ; * + - / % = <> < <= > >=") }
func reservedWords() []string {
	return strings.Split("and, any, as, asc, begin, between, blob, by, commit, count, create, delete, desc, distinct, drop, from, group, in, insert, integer, into, is, like, limit, max, min, not, null, offset, or, order, rollback, select, set, sum, table, text, unique, update, values, where", ", ")
}

// model reads tokens by the forms of H1, as regular expressions.
type model struct {
	gap, word, number, quote, blob, sign *regexp.Regexp
}

func newModel() model {
	return model{
		gap:    regexp.MustCompile(`^(?:[ \t\n\r]|--[^\n]*)*`),
		word:   regexp.MustCompile(`^[a-zA-Z_][a-zA-Z0-9_]*`),
		number: regexp.MustCompile(`^[0-9]+`),
		quote:  regexp.MustCompile(`^'(?:[^']|'')*'`),
		blob:   regexp.MustCompile(`^[xX]'(?:[0-9a-fA-F][0-9a-fA-F])*'`),
		sign:   regexp.MustCompile(`^(?:<>|<=|>=|[(),;*+\-/%=<>])`),
	}
}

func (m model) lex(s string) ([]api.Token, int, api.Errno) {
	if len(s) > 300 {
		return nil, 0, api.ErrMany
	}
	var l []api.Token
	at := len(m.gap.FindString(s))
	for at < len(s) {
		if len(l) == 120 {
			return nil, at, api.ErrMany
		}
		token, size, err := m.token(s[at:])
		if err != api.OK {
			return nil, at, err
		}
		token.At = at
		l = append(l, token)
		at += size
		at += len(m.gap.FindString(s[at:]))
	}
	return l, 0, api.OK
}

func (m model) token(s string) (api.Token, int, api.Errno) {
	none := api.Token{}
	if s[0] == '\'' {
		found := m.quote.FindString(s)
		// A quote right behind is the first half of one that stands twice.
		if found == "" || strings.HasPrefix(s[len(found):], "'") {
			return none, 0, api.ErrForm
		}
		inner := strings.ReplaceAll(found[1:len(found)-1], "''", "'")
		if len(inner) > 16 {
			return none, 0, api.ErrMany
		}
		return quoted(0, inner), len(found), api.OK
	}
	if len(s) > 1 && strings.ContainsRune("xX", rune(s[0])) && s[1] == '\'' {
		found := m.blob.FindString(s)
		if found == "" {
			return none, 0, api.ErrForm
		}
		b, _ := hex.DecodeString(found[2 : len(found)-1])
		if len(b) > 16 {
			return none, 0, api.ErrMany
		}
		return blob(0, string(b)), len(found), api.OK
	}
	if found := m.word.FindString(s); found != "" {
		if len(found) > 12 {
			return none, 0, api.ErrMany
		}
		return word(0, strings.ToLower(found)), len(found), api.OK
	}
	if found := m.number.FindString(s); found != "" {
		if m.word.MatchString(s[len(found):]) || len(found) > 1 && found[0] == '0' {
			return none, 0, api.ErrForm
		}
		n, _ := new(big.Int).SetString(found, 10)
		if !n.IsInt64() {
			return none, 0, api.ErrOver
		}
		return whole(0, n.Int64()), len(found), api.OK
	}
	if found := m.sign.FindString(s); found != "" {
		return signToken(0, found), len(found), api.OK
	}
	return none, 0, api.ErrForm
}

// print by the words of H3.
func (m model) print(l []api.Token) (string, api.Errno) {
	if len(l) > 120 {
		return "", api.ErrMany
	}
	var words []string
	for _, t := range l {
		s, err := m.printOne(t)
		if err != api.OK {
			return "", err
		}
		words = append(words, s)
	}
	if s := strings.Join(words, " "); len(s) <= 300 {
		return s, api.OK
	}
	return "", api.ErrMany
}

func (m model) printOne(t api.Token) (string, api.Errno) {
	switch {
	case t.Kind < 1 || t.Kind > 5:
		return "", api.ErrKind
	case t.Kind != 2 && t.N != 0, t.Kind == 2 && t.S != "":
		return "", api.ErrForm
	case t.Kind == 1 && (t.S == "" || m.word.FindString(t.S) != t.S || strings.ToLower(t.S) != t.S):
		return "", api.ErrForm
	case t.Kind == 1 && len(t.S) > 12:
		return "", api.ErrMany
	case t.Kind == 2 && t.N < 0:
		return "", api.ErrRange
	case (t.Kind == 3 || t.Kind == 4) && len(t.S) > 16:
		return "", api.ErrMany
	case t.Kind == 5 && !slices.Contains(allSigns(), t.S):
		return "", api.ErrForm
	}
	switch t.Kind {
	case 2:
		return strconv.FormatInt(t.N, 10), api.OK
	case 3:
		return "'" + strings.ReplaceAll(t.S, "'", "''") + "'", api.OK
	case 4:
		return "x'" + hex.EncodeToString([]byte(t.S)) + "'", api.OK
	}
	return t.S, api.OK
}

// H1: each kind of token, blanks and remarks.
func TestLex(t *testing.T) {
	for _, c := range []struct {
		s    string
		want []api.Token
	}{
		{"", nil}, {" \t\n\r", nil}, {"--", nil}, {"-- all of it", nil}, {"--\n", nil}, {"--a\n--b\n \t--c", nil}, {"---", nil},
		{"a", []api.Token{word(0, "a")}},
		{"_", []api.Token{word(0, "_")}},
		{"aZ_09", []api.Token{word(0, "az_09")}},
		{"_1 z9 ZA", []api.Token{word(0, "_1"), word(3, "z9"), word(6, "za")}},
		{"\ta\r\nb", []api.Token{word(1, "a"), word(4, "b")}},
		{"a--b\nc", []api.Token{word(0, "a"), word(5, "c")}},
		{"a--b\rc\n--\nd", []api.Token{word(0, "a"), word(10, "d")}},
		{"a-b", []api.Token{word(0, "a"), signToken(1, "-"), word(2, "b")}},
		{"- -1", []api.Token{signToken(0, "-"), signToken(2, "-"), whole(3, 1)}},
		{"a---b\n-c", []api.Token{word(0, "a"), signToken(6, "-"), word(7, "c")}},
		{"0", []api.Token{whole(0, 0)}},
		{"10 9,0", []api.Token{whole(0, 10), whole(3, 9), signToken(4, ","), whole(5, 0)}},
		{"9223372036854775807", []api.Token{whole(0, math.MaxInt64)}},
		{"1'a'", []api.Token{whole(0, 1), quoted(1, "a")}},
		{"''", []api.Token{quoted(0, "")}},
		{"''''", []api.Token{quoted(0, "'")}},
		{"'it''s'", []api.Token{quoted(0, "it's")}},
		{"'a' 'b'", []api.Token{quoted(0, "a"), quoted(4, "b")}},
		{"'a'b'c'", []api.Token{quoted(0, "a"), word(3, "b"), quoted(4, "c")}},
		{"'A--\n\x00\xff\xc3\xa9'", []api.Token{quoted(0, "A--\n\x00\xff\xc3\xa9")}},
		{"x''", []api.Token{blob(0, "")}},
		{"X'00fFAb'", []api.Token{blob(0, "\x00\xff\xab")}},
		{"x'09'x'90'", []api.Token{blob(0, "\x09"), blob(5, "\x90")}},
		{"x 'a'", []api.Token{word(0, "x"), quoted(2, "a")}},
		{"X", []api.Token{word(0, "x")}},
		{"ax'00'", []api.Token{word(0, "ax"), quoted(2, "00")}},
		{"xx'zz'", []api.Token{word(0, "xx"), quoted(2, "zz")}},
		{"x'00''00'", []api.Token{blob(0, "\x00"), quoted(5, "00")}},
		{"<>=<=>=><<>", []api.Token{signToken(0, "<>"), signToken(2, "="), signToken(3, "<="), signToken(5, ">="), signToken(7, ">"), signToken(8, "<"), signToken(9, "<>")}},
		{"=>", []api.Token{signToken(0, "="), signToken(1, ">")}},
		{"(*,;+-/%)", []api.Token{signToken(0, "("), signToken(1, "*"), signToken(2, ","), signToken(3, ";"), signToken(4, "+"), signToken(5, "-"), signToken(6, "/"), signToken(7, "%"), signToken(8, ")")}},
		{"select NAME from t where id<>1", []api.Token{word(0, "select"), word(7, "name"), word(12, "from"), word(17, "t"), word(19, "where"), word(25, "id"), signToken(27, "<>"), whole(29, 1)}},
		{"abcdefghijkl", []api.Token{word(0, "abcdefghijkl")}},
		{"'" + long(16) + "'", []api.Token{quoted(0, long(16))}},
		{"'" + strings.Repeat("''", 16) + "'", []api.Token{quoted(0, strings.Repeat("'", 16))}},
		{"x'" + strings.Repeat("61", 16) + "'", []api.Token{blob(0, strings.Repeat("a", 16))}},
		{strings.Repeat(" ", 299) + "a", []api.Token{word(299, "a")}},
		{"--" + strings.Repeat("\xff", 298), nil},
	} {
		if got, at, err := Lex(c.s); !slices.Equal(got, c.want) || at != 0 || err != api.OK {
			t.Errorf("Lex(%q) = %v, %d, %d; want %v", c.s, got, at, err, c.want)
		}
	}
}

// H1: which of all bytes stand alone as a token, and as what.
func TestLexOneByte(t *testing.T) {
	for b := range 256 {
		s := string([]byte{byte(b)})
		got, at, err := Lex(s)
		want, wantErr := []api.Token{}, api.OK
		switch {
		case b == 32 || b == 9 || b == 10 || b == 13:
		case b >= 'a' && b <= 'z' || b == '_':
			want = []api.Token{word(0, s)}
		case b >= 'A' && b <= 'Z':
			want = []api.Token{word(0, string([]byte{byte(b) + 32}))}
		case b >= '0' && b <= '9':
			want = []api.Token{whole(0, int64(b-'0'))}
		case slices.Contains(allSigns(), s):
			want = []api.Token{signToken(0, s)}
		default:
			wantErr = api.ErrForm
		}
		if !slices.Equal(got, want) || at != 0 || err != wantErr {
			t.Errorf("Lex(%q) = %v, %d, %d; want %v, %d", s, got, at, err, want, wantErr)
		}
	}
}

// H2: each error, at the token's place, in the order of errors; P1: nothing else beside it.
func TestLexErrors(t *testing.T) {
	for _, c := range []struct {
		s    string
		at   int
		want api.Errno
	}{
		{strings.Repeat(" ", 301), 0, api.ErrMany},
		{" !" + strings.Repeat(" ", 299), 0, api.ErrMany},
		{strings.Repeat("a", 5000), 0, api.ErrMany},
		{strings.Repeat(",", 121), 120, api.ErrMany},
		{strings.Repeat(",", 120) + " !", 121, api.ErrMany},
		{strings.Repeat(",", 120) + "--\n'", 123, api.ErrMany},
		{strings.Repeat(",", 119) + " !", 120, api.ErrForm},
		{strings.Repeat(",", 3) + "!" + strings.Repeat(",", 120), 3, api.ErrForm},
		{"!", 0, api.ErrForm}, {"a !=b", 2, api.ErrForm}, {"a\x00", 1, api.ErrForm}, {"a.b", 1, api.ErrForm}, {"\"a\"", 0, api.ErrForm}, {" \xc3\xa9", 1, api.ErrForm}, {"a\xc3\xa9", 1, api.ErrForm}, {"a\v", 1, api.ErrForm}, {"a\f", 1, api.ErrForm}, {"a\xa0", 1, api.ErrForm},
		{"abcdefghijklm", 0, api.ErrMany}, {" a abcdefghijkl_", 3, api.ErrMany}, {" ABCDEFGHIJKL9!", 1, api.ErrMany}, {"abcdefghijkl 'a", 13, api.ErrForm},
		{"1a", 0, api.ErrForm}, {" 12_", 1, api.ErrForm}, {"1Z", 0, api.ErrForm}, {"1x'00'", 0, api.ErrForm}, {"00", 0, api.ErrForm}, {"a 01", 2, api.ErrForm}, {"0a", 0, api.ErrForm}, {"1\xc3\xa9", 1, api.ErrForm},
		{"9223372036854775808", 0, api.ErrOver}, {"a,18446744073709551616", 2, api.ErrOver}, {strings.Repeat("9", 300), 0, api.ErrOver}, {"9223372036854775808a", 0, api.ErrForm}, {"09223372036854775808", 0, api.ErrForm}, {"9223372036854775808 !", 0, api.ErrOver},
		{"'", 0, api.ErrForm}, {"a '", 2, api.ErrForm}, {"'a''", 0, api.ErrForm}, {"'''", 0, api.ErrForm}, {"'a--\n", 0, api.ErrForm}, {"'" + long(17), 0, api.ErrForm}, {"''a'", 3, api.ErrForm},
		{"'" + long(17) + "'", 0, api.ErrMany}, {"1 '" + strings.Repeat("''", 17) + "'", 2, api.ErrMany}, {"'" + strings.Repeat("\xc3\xa9", 8) + "a'", 0, api.ErrMany},
		{"x'", 0, api.ErrForm}, {"x'0", 0, api.ErrForm}, {"x'0'", 0, api.ErrForm}, {"X'000'", 0, api.ErrForm}, {"x'0g'", 0, api.ErrForm}, {"x'G0'", 0, api.ErrForm}, {"x' 00'", 0, api.ErrForm}, {"x'00 '", 0, api.ErrForm}, {"x'''", 3, api.ErrForm}, {"a x'00", 2, api.ErrForm}, {"x'`0'", 0, api.ErrForm}, {"x'@0'", 0, api.ErrForm}, {"x'/0'", 0, api.ErrForm}, {"x':0'", 0, api.ErrForm}, {"x'\xc3\xa9'", 0, api.ErrForm},
		{"x'" + strings.Repeat("00", 17) + "'", 0, api.ErrMany}, {"x'" + strings.Repeat("00", 17), 0, api.ErrForm}, {"x'" + strings.Repeat("00", 17) + "0'", 0, api.ErrForm}, {"x'" + strings.Repeat("00", 17) + "zz'", 0, api.ErrForm},
	} {
		if got, at, err := Lex(c.s); len(got) > 0 || at != c.at || err != c.want {
			t.Errorf("Lex(%q) = %v, %d, %d; want %d, %d", c.s, got, at, err, c.at, c.want)
		}
	}
	if l, _, err := Lex(strings.Repeat(",", 120) + strings.Repeat(" ", 170) + "-- and on"); len(l) != 120 || err != api.OK {
		t.Errorf("as many tokens as may be: %d, %d", len(l), err)
	}
}

func checkLex(t *testing.T, m model, s string) {
	t.Helper()
	got, at, err := Lex(s)
	want, wantAt, wantErr := m.lex(s)
	if !slices.Equal(got, want) || at != wantAt || err != wantErr {
		t.Fatalf("Lex(%q) = %v, %d, %d; want %v, %d, %d", s, got, at, err, want, wantAt, wantErr)
	}
}

// H1, H2: all short texts of bytes that matter, and drawn ones, against the model.
func TestLexModel(t *testing.T) {
	m := newModel()
	bytes := []string{"a", "F", "x", "X", "_", "0", "7", "'", "-", "<", "=", ">", "\n", " ", "!", "\xc3"}
	texts := []string{""}
	for range 4 {
		var longer []string
		for _, s := range texts {
			checkLex(t, m, s)
			for _, b := range bytes {
				longer = append(longer, s+b)
			}
		}
		texts = longer
	}
	for _, s := range texts {
		checkLex(t, m, s)
	}
	d := draw(5)
	fragments := append(append(allSigns(), reservedWords()...), bytes...)
	fragments = append(fragments, "--", "--", " ", " ", "\n", "\n", "\t", "\r", "''", "'a'", "'b''c'", "x'00'", "X'aF'", "x'0'", "12", "9223372036854775807", "9223372036854775808", long(12), long(13), "'"+long(16)+"'", "'"+long(17)+"'", "\x00")
	for range 30000 {
		var s strings.Builder
		for range d.below(20) {
			s.WriteString(fragments[d.below(len(fragments))])
			if d.below(3) > 0 {
				s.WriteString(" ")
			}
		}
		checkLex(t, m, s.String())
	}
	for range 2000 {
		var s strings.Builder
		for most := 1 + d.below(305); s.Len() < most; {
			s.WriteString(allSigns()[d.below(15)])
			s.WriteString([]string{"", " ", "\n", "  ", "a ", "1,"}[d.below(6)])
		}
		checkLex(t, m, s.String())
	}
}

// tokens has right ones and wrong ones.
func tokens() []api.Token {
	l := []api.Token{
		{}, {Kind: -1}, {Kind: 6}, {Kind: 6, N: 1, S: "a"}, {Kind: math.MaxInt}, {Kind: math.MinInt, S: "a"}, {S: "a"}, {N: 1},
		word(0, ""), word(0, "a"), word(9, "_"), word(-1, "z_9"), word(0, "a9"), word(0, "9a"), word(0, "A"), word(0, "aA"), word(0, "a b"), word(0, "a'"), word(0, " a"), word(0, "a "), word(0, "\xc3\xa9"), word(0, "a\xc3\xa9"), word(0, "x"), word(0, "select"), word(0, "@"), word(0, "`"), word(0, "{"), word(0, "a["), word(0, "a/"), word(0, "a:"), word(0, "--"),
		word(0, long(12)), word(0, long(13)), word(0, long(12)+"W"), word(0, long(400)), {Kind: api.Word, N: 1, S: "a"}, {Kind: api.Word, N: -1, S: long(13)},
		whole(0, 0), whole(0, 1), whole(0, math.MaxInt64), whole(0, -1), whole(0, math.MinInt64), {Kind: api.Number, S: "1"}, {Kind: api.Number, N: -1, S: "1"}, {Kind: api.Number, N: 5, S: long(17)},
		quoted(0, ""), quoted(0, "a"), quoted(0, "it's"), quoted(0, "'"), quoted(0, "\x00\n\xff"), quoted(0, long(16)), quoted(0, long(17)), quoted(0, strings.Repeat("'", 16)), {Kind: api.Quote, N: 1}, {Kind: api.Quote, N: 1, S: long(17)},
		blob(0, ""), blob(0, "\x00\xff\x9a"), blob(0, "it's"), blob(0, strings.Repeat("\xab", 16)), blob(0, long(17)), {Kind: api.Bytes, N: -5, S: "a"}, {Kind: api.Bytes, N: 1, S: long(17)},
		signToken(0, ""), signToken(0, "=="), signToken(0, "a"), signToken(0, "!"), signToken(0, "!="), signToken(0, "--"), signToken(0, "( "), signToken(0, " ("), signToken(0, "()"), signToken(0, "'"), signToken(0, "<>="), {Kind: api.Sign, N: 1, S: "("}, {Kind: api.Sign, N: 1}, signToken(math.MaxInt, "("),
	}
	for _, s := range allSigns() {
		l = append(l, signToken(0, s))
	}
	return l
}

func checkPrint(t *testing.T, m model, l []api.Token) {
	t.Helper()
	got, err := Print(l)
	if want, wantErr := m.print(l); got != want || err != wantErr {
		t.Fatalf("Print(%v) = %q, %d; want %q, %d", l, got, err, want, wantErr)
	}
	if err != api.OK {
		return
	}
	back, _, err := Lex(got)
	if err != api.OK || len(back) != len(l) {
		t.Fatalf("Lex(%q) = %v, %d", got, back, err)
	}
	for i := range l {
		if at := back[i].At; back[i] != (api.Token{Kind: l[i].Kind, At: at, N: l[i].N, S: l[i].S}) {
			t.Fatalf("%v was told as %q, and read as %v", l[i], got, back[i])
		}
	}
}

// H3: a text with one blank between two tokens.
func TestPrint(t *testing.T) {
	for _, c := range []struct {
		l    []api.Token
		want string
	}{
		{nil, ""}, {[]api.Token{}, ""},
		{[]api.Token{word(0, "a")}, "a"},
		{[]api.Token{word(7, "x"), quoted(-3, "00")}, "x '00'"},
		{[]api.Token{signToken(0, "-"), signToken(0, "-"), whole(0, 1), signToken(0, "<"), signToken(0, ">")}, "- - 1 < >"},
		{[]api.Token{word(0, "select"), word(0, "_a1"), signToken(0, ","), whole(0, math.MaxInt64), signToken(0, ";")}, "select _a1 , 9223372036854775807 ;"},
		{[]api.Token{quoted(0, "it's"), blob(0, "\x00\xfF'"), quoted(0, "")}, "'it''s' x'00ff27' ''"},
	} {
		if got, err := Print(c.l); got != c.want || err != api.OK {
			t.Errorf("Print(%v) = %q, %d; want %q", c.l, got, err, c.want)
		}
	}
}

// H3: each error in the order of errors, alone and behind or ahead of others, against the model; what is told is read as it was.
func TestPrintModel(t *testing.T) {
	m := newModel()
	l := tokens()
	for _, a := range l {
		checkPrint(t, m, []api.Token{a})
		for _, b := range l {
			checkPrint(t, m, []api.Token{a, b})
			checkPrint(t, m, []api.Token{word(0, "z"), a, signToken(0, ";"), b})
		}
	}
	var right []api.Token
	for _, a := range l {
		if _, err := Print([]api.Token{a}); err == api.OK {
			right = append(right, a)
		}
	}
	d := draw(9)
	for range 20000 {
		var some []api.Token
		for range d.below(40) {
			some = append(some, right[d.below(len(right))])
		}
		checkPrint(t, m, some)
	}
}

// H3: as many tokens and bytes as may be, and one more.
func TestPrintLimits(t *testing.T) {
	commas := slices.Repeat([]api.Token{signToken(0, ",")}, 121)
	if s, err := Print(commas[:120]); s != strings.Repeat(", ", 119)+"," || err != api.OK {
		t.Errorf("120 tokens: %q, %d", s, err)
	}
	if s, err := Print(commas); s != "" || err != api.ErrMany {
		t.Errorf("121 tokens: %q, %d", s, err)
	}
	commas[0] = api.Token{}
	if s, err := Print(commas); s != "" || err != api.ErrMany {
		t.Errorf("121 tokens, the first of no kind: %q, %d", s, err)
	}
	if s, err := Print(commas[:120]); s != "" || err != api.ErrKind {
		t.Errorf("120 tokens, the first of no kind: %q, %d", s, err)
	}
	// 23 words of 12 bytes and a blank each are 299 bytes.
	words := slices.Repeat([]api.Token{word(0, long(12))}, 23)
	for _, c := range []struct {
		last string
		err  api.Errno
		size int
	}{{"a", api.OK, 300}, {"ab", api.ErrMany, 0}, {"A", api.ErrForm, 0}, {"abcdefghijklm", api.ErrMany, 0}} {
		if s, err := Print(append(slices.Clone(words), word(0, c.last))); len(s) != c.size || err != c.err {
			t.Errorf("%q: %d bytes, %d; want %d, %d", c.last, len(s), err, c.size, c.err)
		}
	}
	tooLong := append(slices.Clone(words), word(0, "ab"), whole(0, -1))
	if s, err := Print(tooLong); s != "" || err != api.ErrRange {
		t.Errorf("a wrong token in a text that is too long: %q, %d", s, err)
	}
}

// H1, H3: of what was read, what is told is read as the same tokens, and told the same again.
func TestLexPrint(t *testing.T) {
	m := newModel()
	d := draw(21)
	fragments := append(allSigns(), "a ", "B1 ", "x ", "0 ", "42 ", "'it''s'", "'", "x'0A'", "--\n", "\n", " ")
	told := 0
	for range 20000 {
		var s strings.Builder
		for range d.below(25) {
			s.WriteString(fragments[d.below(len(fragments))])
		}
		l, _, err := Lex(s.String())
		if err != api.OK {
			continue
		}
		checkPrint(t, m, l)
		told++
	}
	if told < 2000 {
		t.Errorf("only %d texts were read", told)
	}
}

// H4: the reserved words, and others beside them.
func TestReserved(t *testing.T) {
	words := reservedWords()
	if len(words) != 41 {
		t.Fatalf("%d words", len(words))
	}
	for _, w := range words {
		if !Reserved(w) {
			t.Errorf("%q is reserved", w)
		}
		for _, other := range []string{strings.ToUpper(w), strings.ToUpper(w[:1]) + w[1:], w + " ", " " + w, w + "_", w + "\x00", w[1:] + w[:1]} {
			if Reserved(other) && !slices.Contains(words, other) {
				t.Errorf("%q is not reserved", other)
			}
		}
		for i := range w {
			if part := w[:i]; Reserved(part) != slices.Contains(words, part) {
				t.Errorf("Reserved(%q) = %v", part, !slices.Contains(words, part))
			}
		}
	}
	for _, w := range []string{"", "a", "id", "name", "having", "join", "true", "primary", "key", "exists", "rows", "all", "end", "avg", "vacuum", "\xff", long(10000)} {
		if Reserved(w) {
			t.Errorf("%q is not reserved", w)
		}
	}
}

// P2: a list is only read, the room behind it too; what is answered is the caller's.
func TestOnlyRead(t *testing.T) {
	room := []api.Token{word(3, "a"), quoted(5, "b"), {Kind: 9, At: 1, N: 2, S: "c"}, {Kind: 8}}
	kept := slices.Clone(room)
	for size := range len(room) + 1 {
		first, err := Print(room[:size])
		again, errAgain := Print(room[:size])
		if first != again || err != errAgain || !slices.Equal(room, kept) {
			t.Errorf("%d tokens: %q, then %q; %v", size, first, again, room)
		}
	}
	l, _, _ := Lex("a 'b' 1")
	want := slices.Clone(l)
	for i := range l {
		l[i] = api.Token{Kind: 9}
	}
	if got, _, _ := Lex("a 'b' 1"); !slices.Equal(got, want) {
		t.Errorf("%v; want %v", got, want)
	}
}

// P1, P3: whatever bytes and tokens there are, and whoever asks at the same time.
func TestNothingIsKept(t *testing.T) {
	var hands sync.WaitGroup
	for seed := range 4 {
		hands.Go(func() {
			d := draw(seed)
			m := newModel()
			all := tokens()
			for range 1000 {
				b := make([]byte, d.below(40))
				for i := range b {
					b[i] = byte(d.next() >> 40)
				}
				checkLexHere(t, m, string(b))
				var l []api.Token
				for range d.below(4) {
					l = append(l, all[d.below(len(all))])
				}
				got, err := Print(l)
				if want, wantErr := m.print(l); got != want || err != wantErr {
					t.Errorf("Print(%v) = %q, %d; want %q, %d", l, got, err, want, wantErr)
				}
			}
		})
	}
	hands.Wait()
}

// checkLexHere may be called by any goroutine: it does not end the test.
func checkLexHere(t *testing.T, m model, s string) {
	got, at, err := Lex(s)
	want, wantAt, wantErr := m.lex(s)
	if !slices.Equal(got, want) || at != wantAt || err != wantErr {
		t.Errorf("Lex(%q) = %v, %d, %d; want %v, %d, %d", s, got, at, err, want, wantAt, wantErr)
	}
}
