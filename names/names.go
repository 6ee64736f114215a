// Package names: what may name a table or a column, and names that were seen.
package names

import (
	"starling/api"
	"starling/lex"
)

// Is tells whether a text may name a table or a column.
func Is(s string) bool {
	// One word alone is never longer than a text of commands may be: so Print tells of the word itself.
	_, err := lex.Print([]api.Token{{Kind: api.Word, S: s}})
	return err == api.OK && !lex.Reserved(s)
}

// Of tells the names of columns.
func Of(cols []api.Column) []string {
	var l []string
	for _, c := range cols {
		l = append(l, c.Name)
	}
	return l
}

// Seen: names that came already.
type Seen map[string]struct{}

// Add keeps a name, and tells whether it is new.
func (s Seen) Add(name string) bool {
	_, known := s[name]
	s[name] = struct{}{}
	return !known
}
