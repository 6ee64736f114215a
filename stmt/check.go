package stmt

import (
	"cmp"
	"slices"

	"starling/api"
	"starling/catalog"
	"starling/expr"
	"starling/names"
)

// Check tells what is wrong with a command.
func Check(s api.Stmt) api.Errno {
	switch {
	case s.Kind < api.Create || s.Kind > api.Rollback:
		return api.ErrKind
	case !isBlank(others(s)):
		return api.ErrForm
	case hasTable(s.Kind) && !names.Is(s.Table):
		return api.ErrForm
	}
	return cmp.Or(checkParts(s), checkWhere(s.Where))
}

func hasTable(kind int) bool {
	return kind != api.Begin && kind != api.Commit && kind != api.Rollback
}

// others answers a command without the fields that its kind has.
func others(s api.Stmt) api.Stmt {
	switch s.Kind {
	case api.Create:
		s.Table, s.Cols = "", nil
	case api.Drop:
		s.Table = ""
	case api.Insert:
		s.Table, s.Rows = "", nil
	case api.Select:
		return api.Stmt{Cols: s.Cols, Rows: s.Rows, Sets: s.Sets}
	case api.Update:
		s.Table, s.Sets, s.Where = "", nil, nil
	case api.Delete:
		s.Table, s.Where = "", nil
	}
	return s
}

// isBlank tells whether each field but Kind has its zero value.
func isBlank(s api.Stmt) bool {
	listed := len(s.Cols) + len(s.Rows) + len(s.Items) + len(s.Sets) + len(s.Where) + len(s.By) + len(s.Order)
	return s.Table == "" && listed == 0 && !s.Distinct && !s.Lim && s.Skip == 0 && s.Most == 0
}

// checkParts tells what is wrong with what a command has beside Table and Where.
func checkParts(s api.Stmt) api.Errno {
	switch s.Kind {
	case api.Create:
		// Any Id will do: it is the columns that are asked about.
		return catalog.Check([]api.Schema{{Id: 1, Name: s.Table, Cols: s.Cols}})
	case api.Insert:
		return checkRows(s.Rows)
	case api.Select:
		return cmp.Or(checkItems(s.Items), checkGroups(s), checkOrder(s.Order), checkLimit(s))
	case api.Update:
		return checkSets(s.Sets)
	}
	return api.OK
}

// checkSize tells what is wrong with how many there are of what must be there.
func checkSize(size, most int) api.Errno {
	switch {
	case size == 0:
		return api.ErrForm
	case size > most:
		return api.ErrMany
	}
	return api.OK
}

func checkRows(rows [][][]api.Node) api.Errno {
	if err := checkSize(len(rows), api.MaxInsert); err != api.OK {
		return err
	}
	for _, row := range rows {
		if err := checkSize(len(row), api.MaxCols); err != api.OK {
			return err
		}
		for _, e := range row {
			if err := expr.Check(e); err != api.OK {
				return err
			}
		}
	}
	return api.OK
}

func checkSets(sets []api.Assign) api.Errno {
	if err := checkSize(len(sets), api.MaxCols); err != api.OK {
		return err
	}
	seen := names.Seen{}
	for _, set := range sets {
		if !names.Is(set.Name) {
			return api.ErrForm
		}
		if !seen.Add(set.Name) {
			return api.ErrTwice
		}
		if err := expr.Check(set.E); err != api.OK {
			return err
		}
	}
	return api.OK
}

func checkItems(items []api.Item) api.Errno {
	if len(items) > api.MaxRow {
		return api.ErrMany
	}
	for _, item := range items {
		if err := checkItem(item); err != api.OK {
			return err
		}
	}
	return api.OK
}

func checkItem(item api.Item) api.Errno {
	switch {
	case item.Agg < 0 || item.Agg > api.Max:
		return api.ErrKind
	case item.Agg == 0:
		return expr.Check(item.E)
	case item.Agg == api.Count && len(item.E) == 0:
		return api.OK
	case len(item.E) != 1 || item.E[0].Op != api.OpCol || expr.Check(item.E) != api.OK:
		return api.ErrForm
	}
	return api.OK
}

// checkGroups tells what is wrong with By, and with items beside it.
func checkGroups(s api.Stmt) api.Errno {
	if len(s.By) > api.MaxRow {
		return api.ErrMany
	}
	for _, name := range s.By {
		if !names.Is(name) {
			return api.ErrForm
		}
	}
	if groups(s) && !isGrouped(s.Items, s.By) {
		return api.ErrForm
	}
	return api.OK
}

func groups(s api.Stmt) bool {
	return len(s.By) > 0 || slices.ContainsFunc(s.Items, func(item api.Item) bool { return item.Agg != 0 })
}

// isGrouped tells whether the first items are just the columns by which rows are grouped, and only what is told of a group stands behind them.
func isGrouped(items []api.Item, by []string) bool {
	if len(items) < len(by) {
		return false
	}
	for i, item := range items {
		if (item.Agg == 0) != (i < len(by)) {
			return false
		}
		if i < len(by) && !slices.Equal(item.E, columnOf(by[i])) {
			return false
		}
	}
	return true
}

// columnOf answers the expression that is just a column.
func columnOf(name string) []api.Node {
	return []api.Node{{Op: api.OpCol, Name: name}}
}

func checkOrder(order []api.Key) api.Errno {
	if len(order) > api.MaxRow {
		return api.ErrMany
	}
	for _, key := range order {
		if key.Col < 0 || key.Col >= api.MaxRow {
			return api.ErrRange
		}
	}
	return api.OK
}

func checkLimit(s api.Stmt) api.Errno {
	switch {
	case s.Skip < 0 || s.Most < 0:
		return api.ErrRange
	case !s.Lim && (s.Skip != 0 || s.Most != 0):
		return api.ErrForm
	}
	return api.OK
}

func checkWhere(where []api.Node) api.Errno {
	if len(where) == 0 {
		return api.OK
	}
	return expr.Check(where)
}
