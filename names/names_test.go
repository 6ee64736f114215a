package names

import (
	"regexp"
	"slices"
	"strings"
	"testing"

	"starling/api"
)

// Q1: a name is a word in small letters, not too long, and not reserved.
func TestIs(t *testing.T) {
	reserved := strings.Split("and, any, as, asc, begin, between, blob, by, commit, count, create, delete, desc, distinct, drop, from, group, in, insert, integer, into, is, like, limit, max, min, not, null, offset, or, order, rollback, select, set, sum, table, text, unique, update, values, where", ", ")
	word := regexp.MustCompile(`\A[a-z_][a-z_0-9]{0,11}\z`)
	tried := append(slices.Clone(reserved), "", "a", "_", "__", "a9", "9a", "9", "A", "aB", "a b", " a", "a ", "a\n", "a-", "a'", "'a'", "x'00'", "(", ",", ";", "\x00", "\xff", "ä", "abcdefghijkl", "abcdefghijklm", "_bcdefghijk0", strings.Repeat("a", 301), "tablet", "selects", "asc_", "a\x00", "--")
	for b := range 256 {
		tried = append(tried, string([]byte{byte(b)}), string([]byte{'a', byte(b)}))
	}
	for _, s := range tried {
		if want := word.MatchString(s) && !slices.Contains(reserved, s); Is(s) != want {
			t.Errorf("Is(%q) = %v", s, !want)
		}
	}
}

// Q1: a name is new the first time that it comes.
func TestAdd(t *testing.T) {
	seen := Seen{}
	var new []string
	for _, s := range []string{"a", "b", "a", "", "ab", "b", "", "A"} {
		if seen.Add(s) {
			new = append(new, s)
		}
	}
	if want := []string{"a", "b", "", "ab", "A"}; !slices.Equal(new, want) {
		t.Errorf("%q; want %q", new, want)
	}
}

// S3 to S5, T3: columns are told by their names, in their order.
func TestOf(t *testing.T) {
	cols := []api.Column{{Name: "b", Kind: api.Int}, {Name: "a", Unique: true}, {Name: "b"}, {}}
	if got, want := Of(cols), []string{"b", "a", "b", ""}; !slices.Equal(got, want) {
		t.Errorf("%q; want %q", got, want)
	}
	if got := Of(nil); len(got) != 0 {
		t.Errorf("%q", got)
	}
}
