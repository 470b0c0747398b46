package txn

import (
	"slices"
	"sync"

	"ledgerline/api"
	"ledgerline/copies"
	"ledgerline/lock"
	"ledgerline/table"
)

// draft is the state that a call makes of the one that it was handed. It is read in db, and written by own alone.
type draft struct {
	once sync.Once // done when db is in memory of its own
	db   DB
}

// own answers the state, to be written. Any step may be the first one of its call that writes: that one copies what was handed in.
func (x *draft) own() *DB {
	x.once.Do(x.copy)
	return &x.db
}

// after answers the state as a step left it, and the step's error.
func (x *draft) after(e api.Errno) (DB, api.Errno) {
	return *x.own(), e
}

func (x *draft) copy() {
	x.db = DB{
		Tables: copies.List(x.db.Tables, copyTable),
		Works:  copies.List(x.db.Works, copyWork),
		L:      lock.Locks{Holds: slices.Clone(x.db.L.Holds), Waits: slices.Clone(x.db.L.Waits)},
	}
}

func copyTable(t table.Table) table.Table {
	t.S = copyShape(t.S)
	t.Rows = copies.List(t.Rows, slices.Clone[[]api.Value])
	return t
}

func copyShape(s api.Schema) api.Schema {
	s.Cols = slices.Clone(s.Cols)
	return s
}

func copyWork(w Work) Work {
	w.Log = copies.List(w.Log, copies.Change)
	w.Marks = slices.Clone(w.Marks)
	return w
}
