// Package opened: a file as it stands there: which of its pages can be opened, and what its head tells of them.
package opened

import (
	"starling/api"
	"starling/page"
)

// File: an opened file.
type File struct {
	Head
	Pages
}

// Pages: at each place the page that can be opened there, one of no kind where none can.
type Pages [api.MaxPages]api.Page

// Of opens a file, whatever of it is damaged.
func Of(texts []string) (*File, api.Errno) {
	if len(texts) > api.MaxPages {
		return nil, api.ErrMany
	}
	f := &File{}
	for no, s := range texts {
		// Beside an error stands a page of no kind.
		f.Pages[no], _ = page.Open(no, s)
	}
	f.Head = f.firstHead()
	return f, api.OK
}

// firstHead answers the first head that is right, or what stands for none.
func (p *Pages) firstHead() Head {
	for _, one := range p[:Heads] {
		if !IsOf(one, api.Head, 0) {
			continue
		}
		if h := headOf(one.Body); h.IsRight() {
			return h
		}
	}
	return Head{}
}

// IsOf tells whether a page is of a kind and an Owner.
func IsOf(p api.Page, kind, owner int) bool {
	return p.Kind == kind && p.Owner == owner
}
