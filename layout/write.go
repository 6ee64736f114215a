package layout

import (
	"starling/api"
	"starling/catalog"
	"starling/db"
	"starling/leaf"
	"starling/opened"
	"starling/page"
)

// part of a file: pages of one kind and Owner, told by their Bodies.
type part struct {
	kind, owner int
	bodies      []string
}

// partsOf answers the parts of the file that tables become, in order.
func partsOf(d api.DB) ([]part, api.Errno) {
	if err := db.Check(d); err != api.OK {
		return nil, err
	}
	var schemas []api.Schema
	var rows []part
	head := opened.Head{Next: d.Next}
	for _, t := range d.Tables {
		bodies := bodiesOf(t.Rows)
		schemas = append(schemas, t.Schema)
		rows = append(rows, part{api.Leaf, t.Schema.Id, bodies})
		head.RowPages = append(head.RowPages, len(bodies))
	}
	// No error is left: Check has looked at the forms too.
	entries, _ := catalog.Rows(schemas)
	forms := bodiesOf(entries)
	head.FormPages = len(forms)
	heads := []string{head.Body(), head.Body()}
	parts := []part{{api.Head, 0, heads}, {api.CatA, 0, forms}, {api.CatB, 0, forms}}
	return append(parts, rows...), api.OK
}

// bodiesOf tells right entries as the Bodies of the pages that they fill.
func bodiesOf(l []api.Entry) []string {
	var bodies []string
	// No error is left: what is wrong with entries was looked at, and what fills a page can be packed.
	lists, _ := leaf.Fill(l)
	for _, list := range lists {
		body, _ := leaf.Pack(list)
		bodies = append(bodies, body)
	}
	return bodies
}

// sealed tells the pages of parts, one behind the other.
func sealed(parts ...part) ([]string, api.Errno) {
	var pages []string
	for _, p := range parts {
		for _, body := range p.bodies {
			if len(pages) == api.MaxFile {
				return nil, api.ErrMany
			}
			// No error is left: each field is that of a right page.
			s, _ := page.Seal(api.Page{No: len(pages), Kind: p.kind, Owner: p.owner, Body: body})
			pages = append(pages, s)
		}
	}
	return pages, api.OK
}
