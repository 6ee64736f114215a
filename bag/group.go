package bag

import (
	"starling/api"
	"starling/value"
	"starling/whole"
)

// rowCount: the column of a Count that counts rows.
const rowCount = -1

// Group answers a row of each group of rows that are the same in the columns of by: these columns, and what aggs tell.
func Group(l [][]api.Value, by []int, aggs []api.Agg) ([][]api.Value, api.Errno) {
	if err := Check(l); err != api.OK {
		return nil, err
	}
	if err := checkGroup(l, by, aggs); err != api.OK {
		return nil, err
	}
	var told [][]api.Value
	for _, group := range groups(l, by) {
		row := group.same
		for _, agg := range aggs {
			v, err := group.tell(agg)
			if err != api.OK {
				return nil, err
			}
			row = append(row, v)
		}
		told = append(told, row)
	}
	return told, api.OK
}

// checkGroup tells what is wrong with what is asked of a right list.
func checkGroup(l [][]api.Value, by []int, aggs []api.Agg) api.Errno {
	if len(by)+len(aggs) > api.MaxRow {
		return api.ErrMany
	}
	for _, agg := range aggs {
		if agg.Kind < api.Count || agg.Kind > api.Max {
			return api.ErrKind
		}
	}
	for _, col := range by {
		if !hasColumn(l, col) {
			return api.ErrRange
		}
	}
	for _, agg := range aggs {
		if !hasColumn(l, agg.Col) && agg != (api.Agg{Kind: api.Count, Col: rowCount}) {
			return api.ErrRange
		}
	}
	return api.OK
}

// group: what its rows have in the columns in which they are the same, and all of them.
type group struct {
	same []api.Value
	rows [][]api.Value
}

// groups parts rows, in the order in which groups begin.
func groups(l [][]api.Value, by []int) []group {
	if len(by) == 0 {
		return []group{{rows: l}}
	}
	var parts []group
	known := seen{}
	for _, row := range l {
		same := picked(row, by)
		place := known.place(same)
		if place == len(parts) {
			parts = append(parts, group{same: same})
		}
		parts[place].rows = append(parts[place].rows, row)
	}
	return parts
}

// picked answers what a row has in some columns.
func picked(row []api.Value, cols []int) []api.Value {
	var values []api.Value
	for _, col := range cols {
		values = append(values, row[col])
	}
	return values
}

// tell answers what is asked of a group.
func (g group) tell(agg api.Agg) (api.Value, api.Errno) {
	if agg.Col == rowCount && agg.Kind == api.Count {
		return number(len(g.rows)), api.OK
	}
	values := g.values(agg.Col)
	if agg.Kind == api.Count {
		return number(len(values)), api.OK
	}
	if len(values) == 0 {
		return api.Value{}, api.OK
	}
	switch agg.Kind {
	case api.Sum:
		return sumOf(values)
	case api.Min:
		return farthest(values, -1), api.OK
	}
	return farthest(values, 1), api.OK
}

func number(n int) api.Value {
	return api.Value{Kind: api.Int, N: int64(n)}
}

// values answers what a group has in a column, without Nulls.
func (g group) values(col int) []api.Value {
	var values []api.Value
	for _, row := range g.rows {
		if row[col].Kind != api.Null {
			values = append(values, row[col])
		}
	}
	return values
}

// sumOf answers all Ints together.
func sumOf(values []api.Value) (api.Value, api.Errno) {
	var numbers []int64
	for _, v := range values {
		if v.Kind != api.Int {
			return api.Value{}, api.ErrKind
		}
		numbers = append(numbers, v.N)
	}
	sum, err := whole.Sum(numbers)
	if err != api.OK {
		return api.Value{}, err
	}
	return api.Value{Kind: api.Int, N: sum}, api.OK
}

// farthest answers the least value (side -1) or the greatest one (side 1) of some.
func farthest(values []api.Value, side int) api.Value {
	far := values[0]
	for _, v := range values {
		if c, _ := value.Compare(v, far); c == side {
			far = v
		}
	}
	return far
}
