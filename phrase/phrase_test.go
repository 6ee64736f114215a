package phrase

import (
	"slices"
	"strings"
	"testing"

	"starling/api"
)

func words(s string) []api.Token {
	var l []api.Token
	for _, one := range strings.Fields(s) {
		kind := api.Word
		if strings.Contains("(),;*+-/%=<>", one[:1]) {
			kind = api.Sign
		}
		l = append(l, api.Token{Kind: kind, S: one})
	}
	return l
}

// I3, R3: tokens that are too many, and wrong ones, the first one's error ahead; that all of them make a text that is too long is no error.
func TestCheck(t *testing.T) {
	a, long := api.Token{Kind: api.Word, S: "a"}, api.Token{Kind: api.Word, S: strings.Repeat("a", 13)}
	quote := api.Token{Kind: api.Quote, S: strings.Repeat("q", 16)}
	for i, c := range []struct {
		l    []api.Token
		want api.Errno
	}{
		{nil, api.OK}, {words("select from ; )"), api.OK},
		{slices.Repeat([]api.Token{a}, 120), api.OK}, {slices.Repeat([]api.Token{a}, 121), api.ErrMany}, {make([]api.Token, 121), api.ErrMany}, {make([]api.Token, 120), api.ErrKind},
		{slices.Repeat([]api.Token{quote}, 120), api.OK},
		{[]api.Token{a, {Kind: api.Number, N: -1}, long}, api.ErrRange}, {[]api.Token{a, long, {Kind: api.Number, N: -1}}, api.ErrMany}, {[]api.Token{{Kind: api.Word, S: "A", At: 5}}, api.ErrForm}, {[]api.Token{{Kind: api.Sign, S: "(", At: -5}}, api.OK},
	} {
		if got := Check(c.l); got != c.want {
			t.Errorf("%d: %d; want %d", i, got, c.want)
		}
	}
}

// I2, R3: what is too great for an expression is read and told all the same; what is none is not read.
func TestReadAndTell(t *testing.T) {
	for _, s := range []string{"a", strings.Repeat("not ", 80) + "a", strings.Repeat("a or ", 70) + "a", "a in ( " + strings.Repeat("a , ", 20) + "a )", strings.Repeat("- ", 200) + "a", "a in ( ( a or b ) * a , b )"} {
		l := words(s)
		e, ok := Read(l)
		if !ok || !slices.Equal(Tell(e), l) {
			t.Errorf("%s: %v, %v", s, e, ok)
		}
	}
	for _, s := range []string{"", "a b", "( a", "a )", "select", "a ,", "a in ( a , ( a , b ) )", strings.Repeat("not ", 80), strings.Repeat("a or ", 70) + "from"} {
		if e, ok := Read(words(s)); ok || e != nil {
			t.Errorf("%q: %v, %v", s, e, ok)
		}
	}
}
