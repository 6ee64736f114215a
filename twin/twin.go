// Package twin: a session or tables once more, in memory of their own, and whether tables are the same.
package twin

import (
	"slices"

	"starling/api"
)

// Session answers the same session in memory of its own.
func Session(s api.Session) api.Session {
	s.Store = api.Store{Data: disk(s.Store.Data), Journal: disk(s.Store.Journal)}
	s.DB, s.Kept = DB(s.DB), DB(s.Kept)
	return s
}

func disk(d api.Disk) api.Disk {
	return api.Disk{Pages: slices.Clone(d.Pages), Waiting: slices.Clone(d.Waiting)}
}

// DB answers the same tables in memory of their own.
func DB(d api.DB) api.DB {
	own := api.DB{Next: d.Next}
	for _, t := range d.Tables {
		own.Tables = append(own.Tables, table(t))
	}
	return own
}

func table(t api.Table) api.Table {
	own := api.Table{Schema: t.Schema}
	own.Schema.Cols = slices.Clone(t.Schema.Cols)
	for _, e := range t.Rows {
		own.Rows = append(own.Rows, api.Entry{Id: e.Id, Row: slices.Clone(e.Row)})
	}
	return own
}

// Same tells whether tables are the same: a list without elements is, whether it is nil or not.
func Same(a, b api.DB) bool {
	return a.Next == b.Next && slices.EqualFunc(a.Tables, b.Tables, sameTable)
}

func sameTable(a, b api.Table) bool {
	return sameForm(a.Schema, b.Schema) && slices.EqualFunc(a.Rows, b.Rows, sameEntry)
}

func sameForm(a, b api.Schema) bool {
	return a.Id == b.Id && a.Name == b.Name && slices.Equal(a.Cols, b.Cols)
}

func sameEntry(a, b api.Entry) bool {
	return a.Id == b.Id && slices.Equal(a.Row, b.Row)
}
