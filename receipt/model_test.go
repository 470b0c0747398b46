package receipt

import (
	"crypto/sha256"
	"encoding/binary"
	"math/rand"
	"reflect"
	"slices"
	"testing"

	"ledgerline/api"
	"ledgerline/ledger"
)

// The document's words (chapters 15, and 1, 3, 5, 14 as far as it leans on them), over the sums of the language's library.

func sum(parts ...[]byte) api.Hash {
	return api.Hash(sha256.Sum256(slices.Concat(parts...)))
}

func numberBytes(n int) []byte {
	return binary.LittleEndian.AppendUint64(nil, uint64(n))
}

func textBytes(s string) []byte {
	if len(s) > 65535 {
		s = s[:65535]
	}
	return append(binary.LittleEndian.AppendUint16(nil, uint16(len(s))), s...)
}

func rowBytes(r []api.Value) []byte {
	b := []byte{byte(len(r))}
	for _, v := range r {
		b = append(b, byte(v.Kind))
		switch v.Kind {
		case api.Bool:
			b = append(b, byte(v.N))
		case api.Int:
			b = append(b, numberBytes(v.N)...)
		case api.Text:
			b = append(b, textBytes(v.S)...)
		}
	}
	return b
}

// firstOf is the greatest power of two that is less than n.
func firstOf(n int) int {
	k := 1
	for 2*k < n {
		k *= 2
	}
	return k
}

func wantPair(left, right api.Hash) api.Hash {
	return sum([]byte{1}, left[:], right[:])
}

func wantMerkle(l []api.Hash) api.Hash {
	switch len(l) {
	case 0:
		return sum()
	case 1:
		return l[0]
	}
	k := firstOf(len(l))
	return wantPair(wantMerkle(l[:k]), wantMerkle(l[k:]))
}

func wantProof(l []api.Hash, i int) []api.Hash {
	if len(l) == 1 {
		return nil
	}
	k := firstOf(len(l))
	if i < k {
		return append(wantProof(l[:k], i), wantMerkle(l[k:]))
	}
	return append(wantProof(l[k:], i-k), wantMerkle(l[:k]))
}

// wantCount is how many sums a Proof of the i-th of n has.
func wantCount(i, n int) int {
	if n < 2 {
		return 0
	}
	if k := firstOf(n); i >= k {
		return 1 + wantCount(i-k, n-k)
	} else {
		return 1 + wantCount(i, k)
	}
}

// wantLed goes from below, as RFC 9162 has it, not from above as chapter 3: whether there is such a place, and p has as many as it takes, and what they lead h to.
func wantLed(h api.Hash, i, n int, p []api.Hash) (api.Hash, bool) {
	if i < 0 || i >= n || n > 1<<20 {
		return api.Hash{}, false
	}
	at, last := i, n-1
	for _, other := range p {
		switch {
		case last == 0:
			return api.Hash{}, false
		case at&1 == 1 || at == last:
			h = wantPair(other, h)
			for at&1 == 0 && at != 0 {
				at, last = at>>1, last>>1
			}
		default:
			h = wantPair(h, other)
		}
		at, last = at>>1, last>>1
	}
	return h, last == 0
}

func wantRow(tx, seq int, c api.Change) api.Hash {
	return sum([]byte{0}, numberBytes(tx), numberBytes(seq), []byte{byte(c.Op)}, textBytes(c.Table), textBytes(string(rowBytes(c.Row))))
}

func wantRows(t api.Tx) []api.Hash {
	var rows []api.Hash
	for i, c := range t.Changes {
		rows = append(rows, wantRow(t.Id, i, c))
	}
	return rows
}

func wantEntry(tx, changes int, root api.Hash) api.Hash {
	return sum([]byte{0}, numberBytes(tx), numberBytes(changes), root[:])
}

func wantEntries(txs []api.Tx) []api.Hash {
	var entries []api.Hash
	for _, t := range txs {
		entries = append(entries, wantEntry(t.Id, len(t.Changes), wantMerkle(wantRows(t))))
	}
	return entries
}

func wantHash(b ledger.Block) api.Hash {
	return sum(numberBytes(b.N), b.Prev[:], b.Root[:], numberBytes(b.Count))
}

func wantMake(l ledger.Ledger, tx, seq int) (Receipt, api.Errno) {
	for i, b := range l.Blocks {
		for place, t := range l.Txs[i] {
			if t.Id != tx || seq < 0 || seq >= len(t.Changes) {
				continue
			}
			return Receipt{
				Tx: tx, Seq: seq, Changes: len(t.Changes), C: t.Changes[seq], Rows: wantProof(wantRows(t), seq),
				Place: place, Entries: wantProof(wantEntries(l.Txs[i]), place), Block: b,
			}, api.OK
		}
	}
	return Receipt{}, api.ErrNone
}

func wantCheck(r Receipt, d api.Digest) bool {
	if d.Block != r.Block.N || d.Hash != wantHash(r.Block) {
		return false
	}
	root, ok := wantLed(wantRow(r.Tx, r.Seq, r.C), r.Seq, r.Changes, r.Rows)
	if !ok {
		return false
	}
	top, ok := wantLed(wantEntry(r.Tx, r.Changes, root), r.Place, r.Block.Count, r.Entries)
	return ok && top == r.Block.Root
}

// digestOf is that of a block.
func digestOf(b ledger.Block) api.Digest {
	return api.Digest{Block: b.N, Hash: wantHash(b)}
}

// fitted is r with the Root to which all that it says leads, by the words, and the digest of its block.
func fitted(t *testing.T, r Receipt) (Receipt, api.Digest) {
	t.Helper()
	root, ok := wantLed(wantRow(r.Tx, r.Seq, r.C), r.Seq, r.Changes, r.Rows)
	top, is := wantLed(wantEntry(r.Tx, r.Changes, root), r.Place, r.Block.Count, r.Entries)
	if !ok || !is {
		t.Fatalf("the words lead to no root: %+v", r)
	}
	r.Block.Root = top
	return r, digestOf(r.Block)
}

// forged is r with the Root to which the program itself leads all that it says, and the digest of its block: where a number or how many sums there are may not be, that alone is left to refuse.
func forged(r Receipt) (Receipt, api.Digest) {
	x := claim{Receipt: r}
	r.Block.Root = led(x.entry(), r.Place, r.Block.Count, r.Entries)
	return r, digestOf(r.Block)
}

// cloneList is l in new memory, each one as clone makes it; of no list as of an empty one.
func cloneList[T any](l []T, clone func(T) T) []T {
	var all []T
	for _, x := range l {
		all = append(all, clone(x))
	}
	return all
}

// plain is a clone of what has no lists.
func plain[T any](x T) T { return x }

func cloneChange(c api.Change) api.Change {
	c.Row = cloneList(c.Row, plain)
	return c
}

func cloneTx(t api.Tx) api.Tx {
	t.Changes = cloneList(t.Changes, cloneChange)
	return t
}

func cloneTxs(l []api.Tx) []api.Tx { return cloneList(l, cloneTx) }

func cloneLedger(l ledger.Ledger) ledger.Ledger {
	return ledger.Ledger{Next: l.Next, Open: cloneTxs(l.Open), Blocks: cloneList(l.Blocks, plain), Txs: cloneList(l.Txs, cloneTxs)}
}

func clone(r Receipt) Receipt {
	r.C = cloneChange(r.C)
	r.Rows, r.Entries = cloneList(r.Rows, plain), cloneList(r.Entries, plain)
	return r
}

// equal holds two receipts against each other, as P2 has it of lists that are none.
func equal(a, b Receipt) bool { return reflect.DeepEqual(clone(a), clone(b)) }

func equalLedger(a, b ledger.Ledger) bool { return reflect.DeepEqual(cloneLedger(a), cloneLedger(b)) }

func number(n int) api.Value { return api.Value{Kind: api.Int, N: n} }

func truth(n int) api.Value { return api.Value{Kind: api.Bool, N: n} }

func text(s string) api.Value { return api.Value{Kind: api.Text, S: s} }

// came is a change of a table t.
func came(r ...api.Value) api.Change {
	return api.Change{Table: "t", Op: api.Put, Row: r}
}

// some are so many changes, each unlike all others.
func some(from, n int) []api.Change {
	var l []api.Change
	for i := range n {
		l = append(l, came(number(from+i), text("x")))
	}
	return l
}

// Drawn things; each source draws the same ones always.

func drawnText(source *rand.Rand, most int) string {
	b := make([]byte, source.Intn(most+1))
	for i := range b {
		b[i] = "ab\x00\xff'{ }"[source.Intn(8)]
	}
	return string(b)
}

func drawnNumber(source *rand.Rand) int {
	return int(source.Uint64()) >> source.Intn(64)
}

func drawnValue(source *rand.Rand) api.Value {
	switch source.Intn(4) {
	case 0:
		return truth(source.Intn(2))
	case 1:
		return number(drawnNumber(source))
	case 2:
		return text(drawnText(source, api.MaxText))
	}
	return api.Value{}
}

func drawnChange(source *rand.Rand) api.Change {
	c := api.Change{Table: "t" + drawnText(source, 5), Op: api.Put + source.Intn(2)}
	for range source.Intn(api.MaxCols + 1) {
		c.Row = append(c.Row, drawnValue(source))
	}
	return c
}

func drawnHash(source *rand.Rand) api.Hash {
	var h api.Hash
	source.Read(h[:])
	return h
}

func drawnHashes(source *rand.Rand, n int) []api.Hash {
	var l []api.Hash
	for range n {
		l = append(l, drawnHash(source))
	}
	return l
}

// drawnReceipt is any one that may hold, where its Root fits (fitted): of so many changes and transactions of a block at most, of any numbers.
func drawnReceipt(source *rand.Rand, most int) Receipt {
	r := Receipt{Tx: drawnNumber(source), Changes: 1 + source.Intn(most), C: drawnChange(source)}
	r.Block = ledger.Block{N: drawnNumber(source), Prev: drawnHash(source), Count: 1 + source.Intn(most)}
	r.Seq, r.Place = source.Intn(r.Changes), source.Intn(r.Block.Count)
	r.Rows = drawnHashes(source, wantCount(r.Seq, r.Changes))
	r.Entries = drawnHashes(source, wantCount(r.Place, r.Block.Count))
	return r
}

// drawnLedger is one that calls lead to.
func drawnLedger(source *rand.Rand, calls int) ledger.Ledger {
	var l ledger.Ledger
	closing := source.Intn(4)
	for range calls {
		if source.Intn(8) < closing {
			l, _ = ledger.Close(l)
			continue
		}
		var c []api.Change
		for range 1 + source.Intn(1+source.Intn(9)) {
			c = append(c, drawnChange(source))
		}
		l, _ = ledger.Add(l, c)
	}
	return l
}

// drawnLedgers are the same ones of each seed.
func drawnLedgers(seed int64, n, calls int) []ledger.Ledger {
	source := rand.New(rand.NewSource(seed))
	var all []ledger.Ledger
	for range n {
		all = append(all, drawnLedger(source, source.Intn(calls+1)))
	}
	return all
}

// all tells each change that stands in a block, by its transaction's Id and its place there, and the block's digest.
func all(l ledger.Ledger, tell func(tx, seq int, d api.Digest)) {
	for i, txs := range l.Txs {
		for _, t := range txs {
			for seq := range t.Changes {
				tell(t.Id, seq, digestOf(l.Blocks[i]))
			}
		}
	}
}

// made is the receipt of a change that stands in a block.
func made(t *testing.T, l ledger.Ledger, tx, seq int) Receipt {
	t.Helper()
	r, e := Make(l, tx, seq)
	if e != api.OK {
		t.Fatalf("Make(%d, %d): %v", tx, seq, e)
	}
	return r
}
