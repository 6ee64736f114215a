package db

import (
	"slices"

	"starling/api"
	"starling/bag"
	"starling/names"
)

// step of a selection: what it makes of rows.
type step func(rows [][]api.Value) ([][]api.Value, api.Errno)

// selected tells the rows of a table that a Select asks for.
func selected(t api.Table, s api.Stmt) ([][]api.Value, api.Errno) {
	rows := plainRows(t)
	for _, do := range steps(s, names.Of(t.Schema.Cols)) {
		var err api.Errno
		if rows, err = do(rows); err != api.OK {
			return nil, err
		}
	}
	return rows, api.OK
}

// plainRows answers a table's rows without their Ids. Their memory is new: where there is no step, they are what is told.
func plainRows(t api.Table) [][]api.Value {
	var rows [][]api.Value
	for _, e := range t.Rows {
		rows = append(rows, slices.Clone(e.Row))
	}
	return rows
}

// steps tells what a Select does, in order.
func steps(s api.Stmt, cols []string) []step {
	var l []step
	add := func(asked bool, do step) {
		if asked {
			l = append(l, do)
		}
	}
	add(len(s.Where) > 0, func(rows [][]api.Value) ([][]api.Value, api.Errno) {
		return bag.Filter(rows, cols, s.Where)
	})
	add(groups(s), func(rows [][]api.Value) ([][]api.Value, api.Errno) {
		by, aggs, err := grouping(s, cols)
		if err != api.OK {
			return nil, err
		}
		return bag.Group(rows, by, aggs)
	})
	add(!groups(s) && len(s.Items) > 0, func(rows [][]api.Value) ([][]api.Value, api.Errno) {
		return bag.Project(rows, cols, exprsOf(s.Items))
	})
	add(s.Distinct, bag.Distinct)
	add(len(s.Order) > 0, func(rows [][]api.Value) ([][]api.Value, api.Errno) {
		return bag.Sort(rows, s.Order)
	})
	add(s.Lim, func(rows [][]api.Value) ([][]api.Value, api.Errno) {
		return bag.Limit(rows, s.Skip, s.Most)
	})
	return l
}

func groups(s api.Stmt) bool {
	return len(s.By) > 0 || slices.ContainsFunc(s.Items, func(item api.Item) bool { return item.Agg != 0 })
}

func exprsOf(items []api.Item) [][]api.Node {
	var list [][]api.Node
	for _, item := range items {
		list = append(list, item.E)
	}
	return list
}

// grouping tells by which columns a right Select groups, and what it tells of each group.
func grouping(s api.Stmt, cols []string) ([]int, []api.Agg, api.Errno) {
	var by []int
	for _, name := range s.By {
		place, err := placeOf(name, cols)
		if err != api.OK {
			return nil, nil, err
		}
		by = append(by, place)
	}
	var aggs []api.Agg
	// The first items are the columns of By.
	for _, item := range s.Items[len(by):] {
		agg, err := aggOf(item, cols)
		if err != api.OK {
			return nil, nil, err
		}
		aggs = append(aggs, agg)
	}
	return by, aggs, api.OK
}

// rowCount: the column of a Count that counts rows (chapter 11).
const rowCount = -1

func aggOf(item api.Item, cols []string) (api.Agg, api.Errno) {
	if len(item.E) == 0 {
		return api.Agg{Kind: item.Agg, Col: rowCount}, api.OK
	}
	place, err := placeOf(item.E[0].Name, cols)
	if err != api.OK {
		return api.Agg{}, err
	}
	return api.Agg{Kind: item.Agg, Col: place}, api.OK
}
