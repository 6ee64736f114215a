package db

import (
	"math"
	"slices"

	"starling/api"
	"starling/catalog"
	"starling/eval"
	"starling/names"
)

// change makes of a table's rows what an Insert, an Update or a Delete makes of them. Whether they are Unique is asked at the end: on the way there two may have one value.
func change(t *api.Table, s api.Stmt) api.Errno {
	var err api.Errno
	switch s.Kind {
	case api.Insert:
		t.Rows, err = inserted(*t, s.Rows)
	case api.Update:
		t.Rows, err = updated(*t, s)
	case api.Delete:
		t.Rows, err = undeleted(*t, s.Where)
	}
	if err != api.OK {
		return err
	}
	return checkUnique(*t)
}

// inserted answers a table's rows with new ones behind them.
func inserted(t api.Table, list [][][]api.Node) ([]api.Entry, api.Errno) {
	rows := t.Rows
	for _, exprs := range list {
		row, err := worths(exprs)
		if err != api.OK {
			return nil, err
		}
		if err := catalog.Fits(t.Schema, row); err != api.OK {
			return nil, err
		}
		id, err := nextId(rows)
		if err != api.OK {
			return nil, err
		}
		rows = append(rows, api.Entry{Id: id, Row: row})
	}
	return rows, api.OK
}

// worths tells what expressions are worth without any columns.
func worths(exprs [][]api.Node) ([]api.Value, api.Errno) {
	var values []api.Value
	for _, e := range exprs {
		v, err := eval.Eval(e, nil, nil)
		if err != api.OK {
			return nil, err
		}
		values = append(values, v)
	}
	return values, api.OK
}

// nextId tells the Id of a row behind others, if there is room for one.
func nextId(rows []api.Entry) (int64, api.Errno) {
	last := int64(0)
	if len(rows) > 0 {
		last = rows[len(rows)-1].Id
	}
	switch {
	case len(rows) >= api.MaxRows:
		return 0, api.ErrMany
	case last == math.MaxInt64:
		return 0, api.ErrOver
	}
	return last + 1, api.OK
}

// updated answers a table's rows, with new values where the command asks for them.
func updated(t api.Table, s api.Stmt) ([]api.Entry, api.Errno) {
	cols := names.Of(t.Schema.Cols)
	places, err := setPlaces(s.Sets, cols)
	if err != api.OK {
		return nil, err
	}
	isAsked := asking(s.Where, cols)
	var rows []api.Entry
	for _, e := range t.Rows {
		asked, err := isAsked(e.Row)
		if err != api.OK {
			return nil, err
		}
		if asked {
			if e.Row, err = assigned(e.Row, cols, s.Sets, places); err != api.OK {
				return nil, err
			}
			if err := catalog.Fits(t.Schema, e.Row); err != api.OK {
				return nil, err
			}
		}
		rows = append(rows, e)
	}
	return rows, api.OK
}

// setPlaces tells where the columns stand that are to have new values.
func setPlaces(sets []api.Assign, cols []string) ([]int, api.Errno) {
	var places []int
	for _, set := range sets {
		place, err := placeOf(set.Name, cols)
		if err != api.OK {
			return nil, err
		}
		places = append(places, place)
	}
	return places, api.OK
}

// placeOf tells where a column stands.
func placeOf(name string, cols []string) (int, api.Errno) {
	place := slices.Index(cols, name)
	if place < 0 {
		return 0, api.ErrNone
	}
	return place, api.OK
}

// assigned answers a row with new values, all of them by the old row.
func assigned(old []api.Value, cols []string, sets []api.Assign, places []int) ([]api.Value, api.Errno) {
	row := slices.Clone(old)
	for i, set := range sets {
		v, err := eval.Eval(set.E, cols, old)
		if err != api.OK {
			return nil, err
		}
		row[places[i]] = v
	}
	return row, api.OK
}

// undeleted answers the rows of a table that a Delete leaves there.
func undeleted(t api.Table, where []api.Node) ([]api.Entry, api.Errno) {
	isAsked := asking(where, names.Of(t.Schema.Cols))
	var rows []api.Entry
	for _, e := range t.Rows {
		asked, err := isAsked(e.Row)
		if err != api.OK {
			return nil, err
		}
		if !asked {
			rows = append(rows, e)
		}
	}
	return rows, api.OK
}

// asking answers a function that tells whether a row is one of those that a command asks for: without a Where all are.
func asking(where []api.Node, cols []string) func(row []api.Value) (bool, api.Errno) {
	return func(row []api.Value) (bool, api.Errno) {
		if len(where) == 0 {
			return true, api.OK
		}
		truth, err := eval.Truth(where, cols, row)
		return truth == api.True, err
	}
}
