package receipt

import (
	"slices"

	"ledgerline/api"
	"ledgerline/ledger"
)

// spot is a transaction where it stands: its block, all transactions of that one, and which of them it is.
type spot struct {
	api.Tx
	block ledger.Block
	all   []api.Tx
	place int
}

// seek looks through the blocks alone: a transaction that is open stands in none yet.
func seek(l ledger.Ledger, tx int) (spot, bool) {
	for i, all := range l.Txs[:min(len(l.Txs), len(l.Blocks))] {
		place := slices.IndexFunc(all, func(t api.Tx) bool { return t.Id == tx })
		if place >= 0 {
			return spot{Tx: all[place], block: l.Blocks[i], all: all, place: place}, true
		}
	}
	return spot{}, false
}

// rows are the sums of the transaction's changes.
func (p spot) rows() []api.Hash {
	sums := make([]api.Hash, len(p.Changes))
	for i, c := range p.Changes {
		sums[i] = ledger.Row(p.Id, i, c)
	}
	return sums
}

// entries are the sums of all transactions of the block.
func (p spot) entries() []api.Hash {
	sums := make([]api.Hash, len(p.all))
	for i, t := range p.all {
		sums[i] = ledger.Entry(t)
	}
	return sums
}

// change answers the seq-th change, in memory of its own.
func (p spot) change(seq int) api.Change {
	c := p.Changes[seq]
	c.Row = slices.Clone(c.Row)
	return c
}
