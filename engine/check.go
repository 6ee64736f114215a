package engine

import (
	"starling/api"
	"starling/db"
	"starling/journal"
	"starling/layout"
	"starling/twin"
)

// Check tells what is wrong with a session.
func Check(s api.Session) api.Errno {
	if err := checkStore(s.Store); err != api.OK {
		return err
	}
	d, err := layout.Read(s.Store.Data.Pages)
	if err != api.OK {
		return checkHurt(s)
	}
	return checkTables(s, d)
}

// checkStore tells what is wrong with a store that must be at rest.
func checkStore(s api.Store) api.Errno {
	if err := journal.Check(s); err != api.OK {
		return err
	}
	if len(s.Data.Pages) > api.MaxFile {
		return api.ErrMany
	}
	// Of a right store Undo has an error, if something waits; of a hot journal it has an error or ops.
	if ops, err := journal.Undo(s); err != api.OK || len(ops) > 0 {
		return api.ErrState
	}
	return api.OK
}

// checkHurt tells what is wrong with a session whose tables can't be read.
func checkHurt(s api.Session) api.Errno {
	if !s.Hurt || s.InTx || !twin.Same(s.DB, api.DB{}) || !twin.Same(s.Kept, api.DB{}) {
		return api.ErrState
	}
	return api.OK
}

// checkTables tells what is wrong with a session of whose file the tables were read.
func checkTables(s api.Session, read api.DB) api.Errno {
	if s.Hurt || !twin.Same(s.Kept, read) {
		return api.ErrState
	}
	if err := db.Check(s.DB); err != api.OK {
		return err
	}
	if !s.InTx && !twin.Same(s.DB, s.Kept) {
		return api.ErrState
	}
	return api.OK
}
