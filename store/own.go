package store

import (
	"slices"

	"ledgerline/copies"
	"ledgerline/ledger"
	"ledgerline/txn"
)

// nobody is the number of a session that is never at work.
const nobody = -1

// ownDB answers d in memory of its own, as any call does that is refused.
func ownDB(d txn.DB) txn.DB {
	d, _ = txn.Rollback(d, nobody)
	return d
}

// ownLedger answers l in memory of its own.
func ownLedger(l ledger.Ledger) ledger.Ledger {
	l.Open = copies.Txs(l.Open)
	l.Blocks = slices.Clone(l.Blocks)
	l.Txs = copies.List(l.Txs, copies.Txs)
	return l
}
