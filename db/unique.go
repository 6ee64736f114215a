package db

import "starling/api"

// seen: values of a column that came already.
type seen map[api.Value]struct{}

// add keeps a value, and tells whether it may stand beside those that came: a Null always may.
func (s seen) add(v api.Value) bool {
	if v.Kind == api.Null {
		return true
	}
	_, known := s[v]
	s[v] = struct{}{}
	return !known
}

// checkUnique tells whether a column that is Unique has a value twice, of rows that fit their table.
func checkUnique(t api.Table) api.Errno {
	for place, c := range t.Schema.Cols {
		if c.Unique && hasTwice(t.Rows, place) {
			return api.ErrTwice
		}
	}
	return api.OK
}

func hasTwice(rows []api.Entry, place int) bool {
	values := seen{}
	for _, e := range rows {
		if !values.add(e.Row[place]) {
			return true
		}
	}
	return false
}
