package engine

import (
	"starling/api"
	"starling/db"
	"starling/journal"
	"starling/layout"
	"starling/stmt"
	"starling/twin"
)

// worker does what a command says to a session, whose memory is its own.
type worker struct {
	api.Session
	ops  []api.Op // by which tables were kept
	told [][]api.Value
}

func workerOf(s api.Session) (*worker, api.Errno) {
	if err := Check(s); err != api.OK {
		return nil, err
	}
	return &worker{Session: twin.Session(s)}, api.OK
}

// executed answers who has done what a text says to a session.
func executed(s api.Session, text string) (*worker, api.Errno) {
	w, err := workerOf(s)
	if err != api.OK {
		return nil, err
	}
	command, err := stmt.Read(text)
	if err != api.OK {
		return nil, err
	}
	if err := w.do(command); err != api.OK {
		return nil, err
	}
	return w, api.OK
}

func (w *worker) do(command api.Stmt) api.Errno {
	switch command.Kind {
	case api.Begin:
		return w.begin()
	case api.Commit, api.Rollback:
		return w.end(command.Kind)
	}
	if w.Hurt {
		return w.ask(command)
	}
	return w.run(command)
}

func (w *worker) begin() api.Errno {
	if w.Hurt {
		return api.ErrRead
	}
	if w.InTx {
		return api.ErrState
	}
	w.InTx = true
	return api.OK
}

// end does a Commit or a Rollback.
func (w *worker) end(kind int) api.Errno {
	if !w.InTx {
		return api.ErrState
	}
	w.InTx = false
	if kind == api.Commit {
		return w.keep()
	}
	w.DB = twin.DB(w.Kept)
	return api.OK
}

// ask asks the one table that a Select needs, of a file that is damaged.
func (w *worker) ask(command api.Stmt) api.Errno {
	if command.Kind != api.Select {
		return api.ErrRead
	}
	t, err := layout.ReadTable(w.Store.Data.Pages, command.Table)
	if err != api.OK {
		return err
	}
	_, w.told, err = db.Run(api.DB{Next: t.Schema.Id + 1, Tables: []api.Table{t}}, command)
	return err
}

// run runs a command on all tables.
func (w *worker) run(command api.Stmt) api.Errno {
	d, told, err := db.Run(w.DB, command)
	if err != api.OK {
		return err
	}
	if command.Kind == api.Select {
		w.told = told
		return api.OK
	}
	w.DB = d
	if w.InTx {
		return api.OK
	}
	return w.keep()
}

// keep writes the tables to the file, all at once.
func (w *worker) keep() api.Errno {
	pages, err := layout.Write(w.DB)
	if err != api.OK {
		return err
	}
	w.Kept = twin.DB(w.DB)
	writes := changes(w.Store.Data.Pages, pages)
	if len(writes) == 0 {
		return api.OK
	}
	if w.ops, err = journal.Steps(w.Store, writes); err != api.OK {
		return err
	}
	w.Store, err = journal.Play(w.Store, w.ops)
	return err
}

// changes tells the writes by which a file has other pages.
func changes(old, wanted []string) []api.Write {
	was, is := standing(old), standing(wanted)
	var writes []api.Write
	for no := range max(len(old), len(wanted)) {
		if text := is(no); text != was(no) {
			writes = append(writes, api.Write{No: no, Text: text})
		}
	}
	return writes
}

// standing answers a function that tells which page stands at a place: all behind the last one are blank.
func standing(pages []string) func(no int) string {
	return func(no int) string {
		if no < len(pages) {
			return pages[no]
		}
		return ""
	}
}
