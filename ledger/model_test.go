package ledger

import (
	"crypto/sha256"
	"encoding/binary"
	"math/rand"
	"reflect"
	"slices"
	"testing"

	"ledgerline/api"
)

// The document's words (chapters 14, and 1, 3, 5 as far as it leans on them), over the sums of the language's library.

func sum(parts ...[]byte) api.Hash {
	return api.Hash(sha256.Sum256(slices.Concat(parts...)))
}

func numberBytes(n int) []byte {
	return binary.LittleEndian.AppendUint64(nil, uint64(n))
}

func textBytes(s string) []byte {
	if len(s) > 65535 {
		s = s[:65535]
	}
	return append(binary.LittleEndian.AppendUint16(nil, uint16(len(s))), s...)
}

func rowBytes(r []api.Value) []byte {
	b := []byte{byte(len(r))}
	for _, v := range r {
		b = append(b, byte(v.Kind))
		switch v.Kind {
		case api.Bool:
			b = append(b, byte(v.N))
		case api.Int:
			b = append(b, numberBytes(v.N)...)
		case api.Text:
			b = append(b, textBytes(v.S)...)
		}
	}
	return b
}

func wantMerkle(l []api.Hash) api.Hash {
	switch len(l) {
	case 0:
		return sum()
	case 1:
		return l[0]
	}
	k := 1
	for 2*k < len(l) {
		k *= 2
	}
	left, right := wantMerkle(l[:k]), wantMerkle(l[k:])
	return sum([]byte{1}, left[:], right[:])
}

func wantRow(tx, seq int, c api.Change) api.Hash {
	return sum([]byte{0}, numberBytes(tx), numberBytes(seq), []byte{byte(c.Op)}, textBytes(c.Table), textBytes(string(rowBytes(c.Row))))
}

func wantRoot(t api.Tx) api.Hash {
	var rows []api.Hash
	for i, c := range t.Changes {
		rows = append(rows, wantRow(t.Id, i, c))
	}
	return wantMerkle(rows)
}

func wantEntry(t api.Tx) api.Hash {
	root := wantRoot(t)
	return sum([]byte{0}, numberBytes(t.Id), numberBytes(len(t.Changes)), root[:])
}

func wantHash(b Block) api.Hash {
	return sum(numberBytes(b.N), b.Prev[:], b.Root[:], numberBytes(b.Count))
}

// history is all transactions in order, and how many of them each block has.
type history struct {
	txs    []api.Tx
	counts []int
}

// open is how many transactions stand in no block.
func (h *history) open() int {
	n := len(h.txs)
	for _, count := range h.counts {
		n -= count
	}
	return n
}

func (h *history) add(c []api.Change) api.Tx {
	t := api.Tx{Id: len(h.txs), Changes: cloneChanges(c)}
	h.txs = append(h.txs, t)
	if h.open() == 4 {
		h.close()
	}
	return t
}

func (h *history) close() api.Errno {
	n := h.open()
	if n == 0 {
		return api.ErrNone
	}
	h.counts = append(h.counts, n)
	return api.OK
}

// ledger is that of the history, made from nothing.
func (h *history) ledger() Ledger {
	l := Ledger{Next: len(h.txs)}
	rest := cloneTxs(h.txs)
	var prev api.Hash
	for i, n := range h.counts {
		var entries []api.Hash
		for _, t := range rest[:n] {
			entries = append(entries, wantEntry(t))
		}
		b := Block{N: i + 1, Prev: prev, Root: wantMerkle(entries), Count: n}
		prev = wantHash(b)
		l.Blocks, l.Txs, rest = append(l.Blocks, b), append(l.Txs, rest[:n]), rest[n:]
	}
	l.Open = rest
	return l
}

func (h *history) digest() (api.Digest, api.Errno) {
	n := len(h.counts)
	if n == 0 {
		return api.Digest{}, api.ErrNone
	}
	return api.Digest{Block: n, Hash: wantHash(h.ledger().Blocks[n-1])}, api.OK
}

// cloneList is l in new memory, each one as clone makes it; of no list as of an empty one.
func cloneList[T any](l []T, clone func(T) T) []T {
	var all []T
	for _, x := range l {
		all = append(all, clone(x))
	}
	return all
}

func cloneRow(r []api.Value) []api.Value {
	return cloneList(r, func(v api.Value) api.Value { return v })
}

func cloneChange(c api.Change) api.Change {
	c.Row = cloneRow(c.Row)
	return c
}

func cloneChanges(l []api.Change) []api.Change { return cloneList(l, cloneChange) }

func cloneTx(t api.Tx) api.Tx {
	t.Changes = cloneChanges(t.Changes)
	return t
}

func cloneTxs(l []api.Tx) []api.Tx { return cloneList(l, cloneTx) }

func clone(l Ledger) Ledger {
	return Ledger{
		Next:   l.Next,
		Open:   cloneTxs(l.Open),
		Blocks: cloneList(l.Blocks, func(b Block) Block { return b }),
		Txs:    cloneList(l.Txs, cloneTxs),
	}
}

// equal holds two ledgers against each other, as P2 has it of lists that are none.
func equal(a, b Ledger) bool { return reflect.DeepEqual(clone(a), clone(b)) }

func equalTx(a, b api.Tx) bool { return reflect.DeepEqual(cloneTx(a), cloneTx(b)) }

// Drawn things; each source draws the same ones always.

func drawnText(source *rand.Rand, most int) string {
	b := make([]byte, source.Intn(most+1))
	for i := range b {
		b[i] = "ab\x00\xff'{ }"[source.Intn(8)]
	}
	return string(b)
}

func drawnNumber(source *rand.Rand) int {
	return int(source.Uint64()) >> source.Intn(64)
}

func drawnValue(source *rand.Rand) api.Value {
	switch source.Intn(4) {
	case 0:
		return api.Value{Kind: api.Bool, N: source.Intn(2)}
	case 1:
		return api.Value{Kind: api.Int, N: drawnNumber(source)}
	case 2:
		return api.Value{Kind: api.Text, S: drawnText(source, api.MaxText)}
	}
	return api.Value{}
}

func drawnChange(source *rand.Rand) api.Change {
	c := api.Change{Table: "t" + drawnText(source, 5), Op: api.Put + source.Intn(2)}
	for range source.Intn(api.MaxCols + 1) {
		c.Row = append(c.Row, drawnValue(source))
	}
	return c
}

func drawnChanges(source *rand.Rand, n int) []api.Change {
	var l []api.Change
	for range n {
		l = append(l, drawnChange(source))
	}
	return l
}

func drawnHash(source *rand.Rand) api.Hash {
	var h api.Hash
	source.Read(h[:])
	return h
}

// adds adds c, and holds what is answered against the words.
func adds(t *testing.T, l Ledger, h *history, c []api.Change) Ledger {
	t.Helper()
	next, tx := Add(l, c)
	if want := h.add(c); !equalTx(tx, want) {
		t.Fatalf("Add of %d changes: %+v, not %+v", len(c), tx, want)
	}
	isOf(t, next, h)
	return next
}

// closes closes a block, or is told that there is none to close.
func closes(t *testing.T, l Ledger, h *history) Ledger {
	t.Helper()
	next, e := Close(l)
	if want := h.close(); e != want {
		t.Fatalf("Close: %v, not %v", e, want)
	}
	isOf(t, next, h)
	return next
}

// isOf: l is the history's, and so is its digest.
func isOf(t *testing.T, l Ledger, h *history) {
	t.Helper()
	if want := h.ledger(); !equal(l, want) {
		t.Fatalf("%+v, not %+v", l, want)
	}
	d, e := Digest(l)
	if want, wantE := h.digest(); d != want || e != wantE {
		t.Fatalf("Digest: %+v, %v, not %+v, %v", d, e, want, wantE)
	}
}

// byChance makes runs of calls, each of which is held against the words, and tells the ledger ahead of each call, what it adds (none: it closes), and the ledger behind it.
func byChance(t *testing.T, seed int64, runs, steps int, tell func(run int, was Ledger, c []api.Change, is Ledger)) {
	t.Helper()
	source := rand.New(rand.NewSource(seed))
	for run := range runs {
		var l Ledger
		var h history
		closing := source.Intn(4)
		for range steps {
			var c []api.Change
			var next Ledger
			if source.Intn(6) < closing {
				next = closes(t, l, &h)
			} else {
				c = drawnChanges(source, 1+source.Intn(1+source.Intn(8)))
				next = adds(t, l, &h, c)
			}
			tell(run, l, c, next)
			l = next
		}
	}
}

// someLedgers are ledgers that calls lead to, and what is added to each (none: it is closed).
func someLedgers(t *testing.T) (ledgers []Ledger, added [][]api.Change) {
	t.Helper()
	byChance(t, 1, 8, 14, func(_ int, was Ledger, c []api.Change, _ Ledger) {
		ledgers, added = append(ledgers, was), append(added, c)
	})
	return ledgers, added
}
