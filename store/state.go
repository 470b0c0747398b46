package store

import (
	"ledgerline/api"
	"ledgerline/ledger"
	"ledgerline/txn"
)

// state is what all records of a log lead to; its sessions at work stand in no record. Its steps leave it as it is: they answer the next one, and the record that leads there.
type state struct {
	db     txn.DB
	ledger ledger.Ledger
}

func (n state) create(x api.Schema) (next state, record []byte, e api.Errno) {
	n.db, e = txn.Create(n.db, x)
	if e != api.OK {
		return n, nil, e
	}
	return n, tableRecord(x), api.OK
}

func (n state) drop(name string) (next state, record []byte, e api.Errno) {
	n.db, e = txn.Drop(n.db, name)
	if e != api.OK {
		return n, nil, e
	}
	return n, dropRecord(name), api.OK
}

// add numbers changes that the tables have already.
func (n state) add(changes []api.Change) (next state, tx int, record []byte) {
	blocks := len(n.ledger.Blocks)
	l, t := ledger.Add(n.ledger, changes)
	n.ledger = l
	return n, t.Id, txRecord(t, l.Blocks[blocks:])
}

func (n state) close() (next state, record []byte, e api.Errno) {
	n.ledger, e = ledger.Close(n.ledger)
	if e != api.OK {
		return n, nil, e
	}
	last := n.ledger.Blocks[len(n.ledger.Blocks)-1]
	return n, blockRecord(last), api.OK
}
