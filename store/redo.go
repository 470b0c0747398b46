package store

import (
	"bytes"
	"slices"

	"ledgerline/api"
	"ledgerline/code"
	"ledgerline/row"
	"ledgerline/schema"
	"ledgerline/table"
)

// redo answers what a record leads to. The step that it tells is done once more, and so makes a record again: if anything in the first one is not as it should be - an Id, a sum, a byte too many or too few - the two differ.
func (n state) redo(record []byte) (state, api.Errno) {
	next, again, e := n.follow(reader{code.New(record)})
	if e != api.OK || !bytes.Equal(again, record) {
		return state{}, api.ErrBad
	}
	return next, api.OK
}

// follow does the step that a record tells.
func (n state) follow(r reader) (next state, record []byte, e api.Errno) {
	switch r.Byte() {
	case aTable:
		return n.create(r.schema())
	case aTableGoes:
		return n.drop(r.Text())
	case aTransaction:
		return n.replay(r.changes())
	case aBlock:
		return n.close()
	}
	return n, nil, api.ErrBad
}

// replay does to the tables what a session did that was committed.
func (n state) replay(changes []api.Change) (next state, record []byte, e api.Errno) {
	n.db.Tables = slices.Clone(n.db.Tables)
	for _, c := range changes {
		if !redoChange(n.db.Tables, c) {
			return n, nil, api.ErrBad
		}
	}
	next, _, record = n.add(changes)
	return next, record, api.OK
}

// redoChange does c to the one of the tables that it is of; false: it cannot be.
func redoChange(tables []table.Table, c api.Change) bool {
	at := slices.IndexFunc(tables, func(t table.Table) bool { return t.S.Name == c.Table })
	if at < 0 {
		return false
	}
	next, is := behind(tables[at], c)
	tables[at] = next
	return is
}

// behind answers t as c leaves it; false: c cannot be.
func behind(t table.Table, c api.Change) (table.Table, bool) {
	switch {
	case c.Op == api.Put:
		next, e := table.Put(t, c.Row)
		return next, e == api.OK
	case c.Op == api.Take && !t.S.Only && row.Fits(t.S, c.Row) == api.OK:
		// A row that does not fit never stood there, and may have no key to look it up by.
		next, stood, _ := table.Take(t, c.Row[t.S.Key])
		return next, row.Same(stood, c.Row)
	}
	return t, false
}

// reader reads of a record what its step needs, and passes over the rest. It asks for no error: what cannot be read is another thing when it is written again.
type reader struct {
	*code.Reader
}

func (r reader) schema() api.Schema {
	x, _ := schema.Parse([]byte(r.Text()))
	return x
}

// changes leaves out the Id, which is the ledger's to say.
func (r reader) changes() []api.Change {
	r.Int()
	changes := make([]api.Change, r.Byte())
	for i := range changes {
		changes[i] = r.change()
	}
	return changes
}

// change leaves out the sum, which is the change's own.
func (r reader) change() api.Change {
	c := api.Change{Op: r.Byte(), Table: r.Text()}
	c.Row, _ = row.Parse([]byte(r.Text()))
	for range len(api.Hash{}) {
		r.Byte()
	}
	return c
}
