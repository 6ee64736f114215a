package db

import (
	"slices"

	"starling/api"
	"starling/twin"
)

// runner runs a command on tables; their memory is its own, so that it may change them where they stand.
type runner struct{ api.DB }

func runnerOf(d api.DB) *runner {
	return &runner{twin.DB(d)}
}

// run does what a right command says, and tells the rows that it tells.
func (r *runner) run(s api.Stmt) ([][]api.Value, api.Errno) {
	switch s.Kind {
	case api.Begin, api.Commit, api.Rollback:
		return nil, api.ErrState
	case api.Create:
		return nil, r.create(s)
	}
	place := r.place(s.Table)
	if place < 0 {
		return nil, api.ErrNone
	}
	switch s.Kind {
	case api.Drop:
		r.Tables = slices.Delete(r.Tables, place, place+1)
		return nil, api.OK
	case api.Select:
		return selected(r.Tables[place], s)
	}
	return nil, change(&r.Tables[place], s)
}

// place tells where the table of a name stands; below 0, if there is none.
func (r *runner) place(name string) int {
	return slices.IndexFunc(r.Tables, func(t api.Table) bool { return t.Schema.Name == name })
}

func (r *runner) create(s api.Stmt) api.Errno {
	switch {
	case r.place(s.Table) >= 0:
		return api.ErrTwice
	case len(r.Tables) == api.MaxTables || r.Next > api.MaxId:
		return api.ErrMany
	}
	form := api.Schema{Id: r.Next, Name: s.Table, Cols: slices.Clone(s.Cols)}
	r.Tables = append(r.Tables, api.Table{Schema: form})
	r.Next++
	return api.OK
}
