package ledger

import (
	"slices"
	"sync"

	"ledgerline/api"
	"ledgerline/copies"
	"ledgerline/merkle"
)

// draft is the ledger that a call makes of the one that it was handed. It is read in ledger, and written by own alone.
type draft struct {
	once   sync.Once // done when ledger is in memory of its own
	ledger Ledger
}

// own answers the ledger, to be written. A block may be closed by itself or behind an add: whichever writes first copies what was handed in.
func (x *draft) own() *Ledger {
	x.once.Do(x.copy)
	return &x.ledger
}

func (x *draft) copy() {
	x.ledger.Open = copies.Txs(x.ledger.Open)
	x.ledger.Blocks = slices.Clone(x.ledger.Blocks)
	x.ledger.Txs = copies.List(x.ledger.Txs, copies.Txs)
}

// add answers the transaction that it adds, in memory that the ledger has no part in.
func (x *draft) add(c []api.Change) api.Tx {
	l := x.own()
	t := api.Tx{Id: l.Next, Changes: c}
	l.Next++
	l.Open = append(l.Open, copies.Tx(t))
	if len(l.Open) == api.MaxBlock {
		x.close()
	}
	return copies.Tx(t)
}

func (x *draft) close() api.Errno {
	if len(x.ledger.Open) == 0 {
		return api.ErrNone
	}
	l := x.own()
	l.Blocks = append(l.Blocks, l.block())
	l.Txs = append(l.Txs, l.Open)
	l.Open = nil
	return api.OK
}

// block answers the next block of the chain, over the transactions that are in none.
func (l *Ledger) block() Block {
	entries := make([]api.Hash, len(l.Open))
	for i, t := range l.Open {
		entries[i] = Entry(t)
	}
	// Without a block the digest is a zero one: its sum is the noughts that the first block begins with.
	last, _ := Digest(*l)
	return Block{N: len(l.Blocks) + 1, Prev: last.Hash, Root: merkle.Root(entries), Count: len(l.Open)}
}
