package layout

import (
	"starling/api"
	"starling/catalog"
	"starling/db"
	"starling/leaf"
	"starling/opened"
)

// reader reads tables of an opened file, of which it has the forms.
type reader struct {
	*opened.File
	forms []api.Schema
}

// readerOf opens a file whose head and forms can be read.
func readerOf(pages []string) (*reader, api.Errno) {
	f, err := opened.Of(pages)
	if err != api.OK {
		return nil, err
	}
	r := &reader{File: f}
	if !r.IsRight() || !r.readForms() || !r.isNextFree() {
		return nil, api.ErrSum
	}
	return r, api.OK
}

// readForms tells whether the forms can be read, where they stand first or where they stand once more.
func (r *reader) readForms() bool {
	return r.readFormsAt(opened.Heads, api.CatA) || r.readFormsAt(opened.Heads+r.FormPages, api.CatB)
}

func (r *reader) readFormsAt(from, kind int) bool {
	entries, ok := r.entries(from, r.FormPages, kind, 0)
	if !ok {
		return false
	}
	forms, err := catalog.Of(entries)
	if err != api.OK || len(forms) != len(r.RowPages) {
		return false
	}
	r.forms = forms
	return true
}

// isNextFree tells whether Next is above the Ids of all tables.
func (r *reader) isNextFree() bool {
	count := len(r.forms)
	return count == 0 || r.Next > r.forms[count-1].Id
}

// table reads the table whose form stands at a place among the forms.
func (r *reader) table(i int) (api.Table, api.Errno) {
	s := r.forms[i]
	rows, ok := r.entries(r.RowsAt(i), r.RowPages[i], api.Leaf, s.Id)
	if !ok {
		return api.Table{}, api.ErrSum
	}
	t := api.Table{Schema: s, Rows: rows}
	// What is wrong with rows is what may be wrong with tables of which this one is the only one: its form is right.
	if db.Check(api.DB{Next: s.Id + 1, Tables: []api.Table{t}}) != api.OK {
		return api.Table{}, api.ErrSum
	}
	return t, api.OK
}

// entries answers those of so many pages from a place on, if each is of a kind and an Owner and can be unpacked.
func (r *reader) entries(from, count, kind, owner int) ([]api.Entry, bool) {
	var all []api.Entry
	for _, p := range r.Pages[from : from+count] {
		l, err := leaf.Unpack(p.Body)
		if err != api.OK || !opened.IsOf(p, kind, owner) {
			return nil, false
		}
		all = append(all, l...)
	}
	return all, true
}
