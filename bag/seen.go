package bag

import (
	"starling/api"
	"starling/record"
)

// seen: rows that came already, each by its key, numbered as they came first.
type seen map[string]int

// place tells the number of a row among all that are different; a new one has the number of all ahead of it.
func (s seen) place(row []api.Value) int {
	// Rows are the same just where their keys are; a row that was checked has one.
	key, _ := record.Key(row)
	place, known := s[key]
	if !known {
		place = len(s)
		s[key] = place
	}
	return place
}
