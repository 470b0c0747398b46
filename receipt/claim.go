package receipt

import (
	"math/bits"
	"sync"

	"ledgerline/api"
	"ledgerline/code"
	"ledgerline/ledger"
	"ledgerline/merkle"
)

// claim is a receipt that is being checked. No receipt names the root of its transaction's changes: it is what Rows lead to, and both the change and the entry ask for it.
type claim struct {
	Receipt
	once      sync.Once // done when row and root are reckoned
	row, root api.Hash
}

// isOf tells whether the receipt's block is the one that d was handed out for.
func (x *claim) isOf(d api.Digest) bool {
	return d == api.Digest{Block: x.Block.N, Hash: ledger.Hash(x.Block)}
}

// changeStands tells whether Seq is a place among the Changes, and Rows are as many as its proof has: that they lead to the root holds by itself, as it is reckoned from them.
func (x *claim) changeStands() bool {
	row, root := x.sums()
	return merkle.Check(root, row, x.Seq, x.Changes, x.Rows)
}

// entryStands tells whether the transaction, of this root, is the one at Place of the block.
func (x *claim) entryStands() bool {
	return merkle.Check(x.Block.Root, x.entry(), x.Place, x.Block.Count, x.Entries)
}

// entry is what ledger.Entry is of the whole transaction, of which nothing but its root is known here.
func (x *claim) entry() api.Hash {
	_, root := x.sums()
	return merkle.Leaf(append(code.Int(code.Int(nil, x.Tx), x.Changes), root[:]...))
}

// sums answers the sum of the change, and the root of all changes of its transaction.
func (x *claim) sums() (row, root api.Hash) {
	x.once.Do(x.reckon)
	return x.row, x.root
}

func (x *claim) reckon() {
	x.row = ledger.Row(x.Tx, x.Seq, x.C)
	x.root = led(x.row, x.Seq, x.Changes, x.Rows)
}

// led answers what p leads h to, the i-th of n, as merkle parts a list: its last sum is that of the part that h is not in. Whether i is a place, and p as long as it should be, merkle.Check tells; here all is to end, whatever they are.
func led(h api.Hash, i, n int, p []api.Hash) api.Hash {
	if n < 2 || len(p) == 0 {
		return h
	}
	first := 1 << (bits.Len(uint(n-1)) - 1)
	rest, other := p[:len(p)-1], p[len(p)-1]
	if i < first {
		return pair(led(h, i, first, rest), other)
	}
	return pair(other, led(h, i-first, n-first, rest))
}

func pair(left, right api.Hash) api.Hash {
	return merkle.Root([]api.Hash{left, right})
}
