package receipt

import (
	"math"
	"math/rand"
	"reflect"
	"slices"
	"strings"
	"sync"
	"testing"

	"ledgerline/api"
	"ledgerline/ledger"
)

// edges are numbers beyond and at bounds.
var edges = []int{math.MinInt, math.MinInt + 1, -1 << 40, -2, -1, 0, 1, 2, 3, 4, 5, 60, 61, 1<<20 - 1, 1 << 20, 1<<20 + 1, 1 << 32, 1 << 40, 1 << 62, math.MaxInt - 1, math.MaxInt}

// closed is a ledger of transactions that have so many changes each, all in blocks.
func closed(changes ...int) ledger.Ledger {
	var l ledger.Ledger
	for k, n := range changes {
		l, _ = ledger.Add(l, some(1000*k, n))
	}
	l, _ = ledger.Close(l)
	return l
}

// makes holds what Make answers against the words.
func makes(t *testing.T, l ledger.Ledger, tx, seq int) Receipt {
	t.Helper()
	got, e := Make(l, tx, seq)
	if want, wantE := wantMake(l, tx, seq); e != wantE || !equal(got, want) {
		t.Fatalf("Make(%d, %d): %+v, %v, not %+v, %v", tx, seq, got, e, want, wantE)
	}
	return got
}

// refused: there is no such change, and nothing is answered beside that.
func refused(t *testing.T, l ledger.Ledger, tx, seq int) {
	t.Helper()
	if r, e := Make(l, tx, seq); e != api.ErrNone || !reflect.DeepEqual(r, Receipt{}) {
		t.Fatalf("Make(%d, %d): %+v, %v", tx, seq, r, e)
	}
}

// checks holds what Check answers against the words, and against what is told of it.
func checks(t *testing.T, r Receipt, d api.Digest, want bool) {
	t.Helper()
	if got := Check(r, d); got != want || got != wantCheck(r, d) {
		t.Fatalf("%v, not %v, by the words %v: %+v, %+v", got, want, wantCheck(r, d), r, d)
	}
}

func TestP1501Example(t *testing.T) {
	for _, l := range []ledger.Ledger{{}, {Open: []api.Tx{}, Blocks: []ledger.Block{}, Txs: [][]api.Tx{}}} {
		for _, tx := range edges {
			for _, seq := range edges {
				refused(t, l, tx, seq)
			}
		}
	}
}

// TestP1501WrittenOut: a receipt of a block of three transactions, the middle one of three changes, sum by sum.
func TestP1501WrittenOut(t *testing.T) {
	c := []api.Change{came(number(7), text("a")), {Table: "u", Op: api.Take, Row: []api.Value{{}, truth(1)}}, came(text(""))}
	var l ledger.Ledger
	l, first := ledger.Add(l, some(1, 1))
	l, _ = ledger.Close(l)
	l, second := ledger.Add(l, some(2, 2))
	l, third := ledger.Add(l, c)
	l, fourth := ledger.Add(l, some(4, 1))
	l, _ = ledger.Close(l)
	if first.Id != 0 || second.Id != 1 || third.Id != 2 || fourth.Id != 3 || len(l.Blocks) != 2 {
		t.Fatalf("%+v", l)
	}
	one, two, three := wantRow(2, 0, c[0]), wantRow(2, 1, c[1]), wantRow(2, 2, c[2])
	ahead, behind := ledger.Entry(second), ledger.Entry(fourth)
	entries := []api.Hash{ahead, behind}
	for seq, rows := range [][]api.Hash{{two, three}, {one, three}, {wantPair(one, two)}} {
		want := Receipt{Tx: 2, Seq: seq, Changes: 3, C: c[seq], Rows: rows, Place: 1, Entries: entries, Block: l.Blocks[1]}
		if got := made(t, l, 2, seq); !equal(got, want) {
			t.Errorf("%+v, not %+v", got, want)
		}
	}
	alone := Receipt{Tx: 0, Seq: 0, Changes: 1, C: first.Changes[0], Block: l.Blocks[0]}
	if got := made(t, l, 0, 0); !equal(got, alone) || len(got.Rows) != 0 || len(got.Entries) != 0 {
		t.Errorf("%+v, not %+v", got, alone)
	}
	last := made(t, l, 3, 0)
	if want := []api.Hash{wantPair(wantEntries(l.Txs[1])[0], wantEntries(l.Txs[1])[1])}; last.Place != 2 || !slices.Equal(last.Entries, want) {
		t.Errorf("%+v", last)
	}
}

// TestP1501AllSizes: of each number of changes and of transactions, each place.
func TestP1501AllSizes(t *testing.T) {
	for n := 1; n <= api.MaxChange; n++ {
		l := closed(1+n%3, n, n, 1)
		for tx := range 4 {
			for seq := -1; seq <= n+1; seq++ {
				makes(t, l, tx, seq)
			}
		}
	}
	for count := 1; count <= api.MaxBlock; count++ {
		l := closed(slices.Repeat([]int{2}, 4+count)...)
		for tx := -1; tx <= 4+count; tx++ {
			makes(t, l, tx, 1)
		}
		r := made(t, l, 3+count, 1)
		if r.Block != l.Blocks[1] || r.Block.Count != count || r.Place != count-1 || len(r.Entries) != wantCount(count-1, count) {
			t.Errorf("%+v", r)
		}
	}
}

// TestP1501OfMany: of more changes than a transaction of a session has.
func TestP1501OfMany(t *testing.T) {
	l := closed(1, 1000, 257)
	for _, seq := range []int{0, 1, 511, 512, 767, 768, 998, 999} {
		r := makes(t, l, 1, seq)
		checks(t, r, digestOf(r.Block), true)
	}
	for _, seq := range []int{0, 255, 256} {
		r := makes(t, l, 2, seq)
		checks(t, r, digestOf(r.Block), true)
	}
	refused(t, l, 1, 1000)
	refused(t, l, 2, 257)
}

func TestP1501ByChance(t *testing.T) {
	sizes, places := make(map[int]int), make(map[int]int)
	for _, l := range drawnLedgers(1, 60, 30) {
		for tx := -2; tx <= l.Next+1; tx++ {
			for seq := -2; seq <= 10; seq++ {
				if r := makes(t, l, tx, seq); r.Changes > 0 {
					sizes[r.Block.Count]++
					places[r.Place]++
				}
			}
		}
	}
	for n := range 4 {
		if sizes[n+1] == 0 || places[n] == 0 {
			t.Errorf("no block of %d was tried, or no place %d", n+1, n)
		}
	}
}

// TestP1501None: no number but an Id that stands in a block, and no place but one of its changes.
func TestP1501None(t *testing.T) {
	l := closed(1, 2, 3, 4, 5)
	for _, n := range edges {
		if n < 0 || n > 4 {
			refused(t, l, n, 0)
		}
		for tx := range 5 {
			if n < 0 || n > tx {
				refused(t, l, tx, n)
			}
		}
	}
}

// TestP1501Open: what stands in no block has no receipt; once its block is closed, it has.
func TestP1501Open(t *testing.T) {
	var l ledger.Ledger
	for k := range 11 {
		l, _ = ledger.Add(l, some(10*k, 2))
		for tx := range k + 1 {
			if len(l.Open) > 0 && tx >= l.Open[0].Id {
				refused(t, l, tx, 0)
				refused(t, l, tx, 1)
				continue
			}
			if r := makes(t, l, tx, 1); r.Tx != tx || r.Place != tx%4 || r.Block.N != tx/4+1 {
				t.Fatalf("%+v", r)
			}
		}
	}
	l, _ = ledger.Close(l)
	if r := makes(t, l, 10, 1); r.Block.N != 3 || r.Block.Count != 3 || r.Place != 2 {
		t.Errorf("%+v", r)
	}
}

// TestP1501WithoutARow: a change may have no row.
func TestP1501WithoutARow(t *testing.T) {
	l, _ := ledger.Add(ledger.Ledger{}, []api.Change{{Table: "t", Op: api.Put}, {}, {Op: api.Take, Row: []api.Value{}}})
	l, _ = ledger.Close(l)
	for seq := range 3 {
		r := makes(t, l, 0, seq)
		checks(t, r, digestOf(r.Block), true)
	}
}

// TestP1502Nothing: the receipt of nothing holds against no digest, not even against that of its block.
func TestP1502Nothing(t *testing.T) {
	checks(t, Receipt{}, api.Digest{}, false)
	checks(t, Receipt{}, digestOf(ledger.Block{}), false)
	r, d := forged(Receipt{})
	checks(t, r, d, false)
}

// TestP1502AnyThatFits: not only what Make answers holds: of any numbers, changes and sums, as long as they lead to the Root.
func TestP1502AnyThatFits(t *testing.T) {
	source := rand.New(rand.NewSource(2))
	for round := range 3000 {
		r, d := fitted(t, drawnReceipt(source, []int{1, 4, 9, 70, 1 << 20}[round%5]))
		checks(t, r, d, true)
	}
}

// TestP1502AllSizes: each place of each number of changes, and of transactions.
func TestP1502AllSizes(t *testing.T) {
	source := rand.New(rand.NewSource(3))
	for n := 1; n <= 66; n++ {
		for i := range n {
			r := drawnReceipt(source, 5)
			r.Seq, r.Changes, r.Rows = i, n, drawnHashes(source, wantCount(i, n))
			x, d := fitted(t, r)
			checks(t, x, d, true)
			r = drawnReceipt(source, 5)
			r.Place, r.Block.Count, r.Entries = i, n, drawnHashes(source, wantCount(i, n))
			x, d = fitted(t, r)
			checks(t, x, d, true)
		}
	}
}

// TestP1502OddChanges: an Op counts by its lowest eight bits, a table by its first 65535 bytes, a row by up to 255 values, as ledger.Row has it.
func TestP1502OddChanges(t *testing.T) {
	source := rand.New(rand.NewSource(4))
	rows := [][]api.Value{nil, {}, {{}}, slices.Repeat([]api.Value{text(strings.Repeat("x", api.MaxText))}, 255), slices.Repeat([]api.Value{number(-1)}, 255)}
	for _, op := range []int{-257, -1, 0, 3, 255, 256, math.MaxInt, math.MinInt} {
		for _, name := range []string{"", "t", "T T", strings.Repeat("t", 65535), strings.Repeat("t", 65536)} {
			for _, row := range rows {
				r := drawnReceipt(source, 6)
				r.C = api.Change{Table: name, Op: op, Row: row}
				r, d := fitted(t, r)
				checks(t, r, d, true)
				r.C.Op += 256
				checks(t, r, d, true)
				r.C.Op++
				checks(t, r, d, false)
			}
		}
	}
}

// alteration alters one thing of a receipt, or of the digest that it is held against.
type alteration func(r *Receipt, d *api.Digest)

// ofReceipt are alterations of what a receipt says beside its block.
func ofReceipt() []alteration {
	l := []alteration{
		func(r *Receipt, _ *api.Digest) { r.Tx++ },
		func(r *Receipt, _ *api.Digest) { r.Tx ^= math.MinInt },
		func(r *Receipt, _ *api.Digest) { r.Seq++ },
		func(r *Receipt, _ *api.Digest) { r.Seq-- },
		func(r *Receipt, _ *api.Digest) { r.Seq ^= 1 },
		func(r *Receipt, _ *api.Digest) { r.Seq = -1 },
		func(r *Receipt, _ *api.Digest) { r.Seq = r.Changes },
		func(r *Receipt, _ *api.Digest) { r.Seq += 1 << 32 },
		func(r *Receipt, _ *api.Digest) { r.Changes++ },
		func(r *Receipt, _ *api.Digest) { r.Changes-- },
		func(r *Receipt, _ *api.Digest) { r.Changes *= 2 },
		func(r *Receipt, _ *api.Digest) { r.Changes += 1 << 32 },
		func(r *Receipt, _ *api.Digest) { r.C.Op ^= 3 },
		func(r *Receipt, _ *api.Digest) { r.C.Table += "u" },
		func(r *Receipt, _ *api.Digest) { r.C.Table = strings.TrimPrefix(r.C.Table, "t") },
		func(r *Receipt, _ *api.Digest) { r.C.Row = append(r.C.Row, api.Value{}) },
		func(r *Receipt, _ *api.Digest) { r.C.Row = append([]api.Value{number(3)}, r.C.Row...) },
		func(r *Receipt, _ *api.Digest) { r.Rows = append(r.Rows, api.Hash{}) },
		func(r *Receipt, _ *api.Digest) { r.Rows = append([]api.Hash{{}}, r.Rows...) },
		func(r *Receipt, _ *api.Digest) { r.Entries = append(r.Entries, api.Hash{}) },
		func(r *Receipt, _ *api.Digest) { r.Entries = append([]api.Hash{{}}, r.Entries...) },
		func(r *Receipt, _ *api.Digest) { r.Place++ },
		func(r *Receipt, _ *api.Digest) { r.Place-- },
		func(r *Receipt, _ *api.Digest) { r.Place ^= 1 },
		func(r *Receipt, _ *api.Digest) { r.Place = -1 },
		func(r *Receipt, _ *api.Digest) { r.Place = r.Block.Count },
		func(r *Receipt, _ *api.Digest) { r.Place += 1 << 32 },
	}
	for i := range 5 {
		l = append(l,
			func(r *Receipt, _ *api.Digest) { each(r.Rows, i, func(h *api.Hash) { h[7*i] ^= 1 }) },
			func(r *Receipt, _ *api.Digest) { each(r.Entries, i, func(h *api.Hash) { h[31-7*i] ^= 128 }) },
			func(r *Receipt, _ *api.Digest) { each(r.C.Row, i, func(v *api.Value) { *v = number(v.N + 1) }) },
			func(r *Receipt, _ *api.Digest) { each(r.C.Row, i, func(v *api.Value) { *v = text(v.S + ".") }) },
			func(r *Receipt, _ *api.Digest) { r.Rows = without(r.Rows, i) },
			func(r *Receipt, _ *api.Digest) { r.Entries = without(r.Entries, i) },
			func(r *Receipt, _ *api.Digest) { r.C.Row = without(r.C.Row, i) },
			func(r *Receipt, _ *api.Digest) { turn(r.Rows, i) },
			func(r *Receipt, _ *api.Digest) { turn(r.Entries, i) },
		)
	}
	return l
}

// ofBlock are alterations of a receipt's block, or of the digest.
func ofBlock() []alteration {
	l := []alteration{
		func(r *Receipt, _ *api.Digest) { r.Block.N++ },
		func(r *Receipt, _ *api.Digest) { r.Block.N = -r.Block.N },
		func(r *Receipt, _ *api.Digest) { r.Block.Count++ },
		func(r *Receipt, _ *api.Digest) { r.Block.Count-- },
		func(r *Receipt, _ *api.Digest) { r.Block.Count = 0 },
		func(_ *Receipt, d *api.Digest) { d.Block++ },
		func(_ *Receipt, d *api.Digest) { d.Block-- },
		func(_ *Receipt, d *api.Digest) { d.Block += 1 << 32 },
		func(r *Receipt, d *api.Digest) { r.Block.N++; d.Block++ },
		func(r *Receipt, d *api.Digest) { *d = api.Digest{Block: d.Block} },
		func(r *Receipt, d *api.Digest) { d.Hash = r.Block.Root },
		func(r *Receipt, d *api.Digest) { r.Block.Prev, r.Block.Root = r.Block.Root, r.Block.Prev },
	}
	for i := range 32 {
		l = append(l,
			func(r *Receipt, _ *api.Digest) { r.Block.Prev[i] ^= 1 },
			func(r *Receipt, _ *api.Digest) { r.Block.Root[i] ^= 16 },
			func(_ *Receipt, d *api.Digest) { d.Hash[i] ^= 64 },
		)
	}
	return l
}

// each alters the i-th of l, if there is one.
func each[T any](l []T, i int, alter func(*T)) {
	if i < len(l) {
		alter(&l[i])
	}
}

func without[T any](l []T, i int) []T {
	if i < len(l) {
		return slices.Delete(l, i, i+1)
	}
	return l
}

// turn changes the i-th of l with the one behind it.
func turn[T any](l []T, i int) {
	if i+1 < len(l) {
		l[i], l[i+1] = l[i+1], l[i]
	}
}

// TestP1502AllCounts: whatever is altered, of the receipt, of its block or of the digest, it does not hold any more.
func TestP1502AllCounts(t *testing.T) {
	source := rand.New(rand.NewSource(5))
	tried := make(map[int]int)
	for round := range 200 {
		r, d := fitted(t, drawnReceipt(source, []int{1, 2, 4, 9, 60}[round%5]))
		for i, alter := range append(ofReceipt(), ofBlock()...) {
			other, digest := clone(r), d
			alter(&other, &digest)
			if equal(other, r) && digest == d {
				continue
			}
			tried[i]++
			checks(t, other, digest, false)
		}
	}
	for i := range append(ofReceipt(), ofBlock()...) {
		if tried[i] == 0 {
			t.Errorf("the %d. alteration was never one", i)
		}
	}
}

// TestP1502DigestIsNotAll: a receipt whose block fits the digest, but leads elsewhere.
func TestP1502DigestIsNotAll(t *testing.T) {
	source := rand.New(rand.NewSource(6))
	for range 300 {
		r, _ := fitted(t, drawnReceipt(source, 6))
		r.Block.Root[source.Intn(32)] ^= byte(1 + source.Intn(255))
		checks(t, r, digestOf(r.Block), false)
		r, _ = fitted(t, r)
		r.Block.Prev = drawnHash(source)
		checks(t, r, digestOf(r.Block), true)
		r.Block.N = drawnNumber(source)
		checks(t, r, digestOf(r.Block), true)
	}
}

// TestP1502Forged: where a number is no place, or sums lack or are too many, nothing helps: not even a Root that is made to fit.
func TestP1502Forged(t *testing.T) {
	source := rand.New(rand.NewSource(7))
	for round := range 400 {
		r := drawnReceipt(source, []int{1, 2, 3, 8, 60}[round%5])
		for i, alter := range []func(r *Receipt){
			func(r *Receipt) { r.Seq = -1 },
			func(r *Receipt) { r.Seq = math.MinInt },
			func(r *Receipt) { r.Seq = r.Changes },
			func(r *Receipt) { r.Seq = math.MaxInt },
			func(r *Receipt) { r.Changes = 0 },
			func(r *Receipt) { r.Changes = -r.Changes },
			func(r *Receipt) { r.Changes = math.MinInt },
			func(r *Receipt) { r.Changes = r.Seq },
			func(r *Receipt) { r.Rows = append(r.Rows, drawnHash(source)) },
			func(r *Receipt) { r.Rows = append(r.Rows, drawnHashes(source, 70)...) },
			func(r *Receipt) { r.Rows = without(append(r.Rows, r.Rows...), 0) },
			func(r *Receipt) { r.Place = -1 },
			func(r *Receipt) { r.Place = math.MinInt },
			func(r *Receipt) { r.Place = r.Block.Count },
			func(r *Receipt) { r.Place = math.MaxInt },
			func(r *Receipt) { r.Block.Count = 0 },
			func(r *Receipt) { r.Block.Count = -r.Block.Count },
			func(r *Receipt) { r.Block.Count = math.MinInt },
			func(r *Receipt) { r.Block.Count = r.Place },
			func(r *Receipt) { r.Entries = append(r.Entries, drawnHash(source)) },
			func(r *Receipt) { r.Entries = append(r.Entries, drawnHashes(source, 70)...) },
			func(r *Receipt) { r.Entries = without(append(r.Entries, r.Entries...), 0) },
		} {
			other := clone(r)
			alter(&other)
			if len(other.Rows) == len(r.Rows) && len(other.Entries) == len(r.Entries) && (i == 10 || i == 21) {
				continue // twice one, without one: as many as it takes
			}
			other, d := forged(other)
			checks(t, other, d, false)
		}
		if n := len(r.Rows); n > 0 {
			other := clone(r)
			other.Rows = other.Rows[:source.Intn(n)]
			other, d := forged(other)
			checks(t, other, d, false)
		}
		if n := len(r.Entries); n > 0 {
			other := clone(r)
			other.Entries = other.Entries[:source.Intn(n)]
			other, d := forged(other)
			checks(t, other, d, false)
		}
	}
}

// TestP1502Bound: of more than 2^20 changes, or transactions, nothing holds, as merkle has it; of 2^20 it does.
func TestP1502Bound(t *testing.T) {
	source := rand.New(rand.NewSource(8))
	for _, n := range []int{1<<20 - 1, 1 << 20, 1<<20 + 1, 1 << 21, 1 << 40, 1 << 62, 1<<62 + 1, math.MaxInt} {
		for _, i := range []int{0, 1, 1<<19 - 1, 1 << 19, 1<<20 - 2, 1<<20 - 1, n / 2, n - 1} {
			if i >= n {
				continue
			}
			proof := drawnHashes(source, 20)
			if n > 1<<20 {
				proof = drawnHashes(source, countBelow(i, n))
			} else {
				proof = proof[:wantCount(i, n)]
			}
			r := drawnReceipt(source, 4)
			r.Seq, r.Changes, r.Rows = i, n, proof
			r, d := forged(r)
			checks(t, r, d, n <= 1<<20)
			r = drawnReceipt(source, 4)
			r.Place, r.Block.Count, r.Entries = i, n, proof
			r, d = forged(r)
			checks(t, r, d, n <= 1<<20)
		}
	}
}

// countBelow is wantCount, reckoned from below, so that no power of two runs over.
func countBelow(i, n int) int {
	count := 0
	for last := n - 1; last > 0; i, last = i>>1, last>>1 {
		if i^1 <= last {
			count++
		}
	}
	return count
}

// TestP1502ByChance: any receipts, most of which do not hold, are told as the words have it.
func TestP1502ByChance(t *testing.T) {
	source := rand.New(rand.NewSource(9))
	held := 0
	for range 4000 {
		r := drawnReceipt(source, 1+source.Intn(8))
		for range source.Intn(3) {
			alter := ofReceipt()
			alter[source.Intn(len(alter))](&r, nil)
		}
		r, d := forged(r)
		if Check(r, d) != wantCheck(r, d) {
			t.Fatalf("%v: %+v, %+v", Check(r, d), r, d)
		}
		if Check(r, d) {
			held++
		}
	}
	if held < 100 || held > 3900 {
		t.Errorf("%d of 4000 hold", held)
	}
}

// TestP1502AnotherLeaf: an inner sum of the transaction, or of the block, is taken for no change and no transaction.
func TestP1502AnotherLeaf(t *testing.T) {
	l := closed(4, 4, 4, 4)
	for tx := range 4 {
		for seq := range 4 {
			r := made(t, l, tx, seq)
			d := digestOf(r.Block)
			r.Changes, r.Seq, r.Rows = 2, seq/2, r.Rows[1:]
			checks(t, r, d, false)
			r = made(t, l, tx, seq)
			r.Place, r.Entries, r.Block.Count = tx/2, r.Entries[1:], 2
			checks(t, r, d, false)
		}
	}
}

// TestP1503Holds: each receipt holds against its block's digest, and against no other one.
func TestP1503Holds(t *testing.T) {
	for _, l := range append(drawnLedgers(10, 25, 30), closed(1), closed(5), closed(60, 60, 60, 60), closed(1, 2, 3, 4, 5, 6, 7)) {
		all(l, func(tx, seq int, d api.Digest) {
			r := made(t, l, tx, seq)
			for _, b := range l.Blocks {
				other := digestOf(b)
				checks(t, r, other, other == d)
				checks(t, r, api.Digest{Block: d.Block, Hash: other.Hash}, other == d)
				checks(t, r, api.Digest{Block: other.Block, Hash: d.Hash}, other == d)
			}
		})
	}
}

// TestP1503DigestsAsHandedOut: a digest that ledger.Digest told when a block was closed holds for the receipts of it that are made later, which are those that were made then.
func TestP1503DigestsAsHandedOut(t *testing.T) {
	source := rand.New(rand.NewSource(11))
	for range 12 {
		var l ledger.Ledger
		var digests []api.Digest
		receipts := make(map[[2]int]Receipt)
		for k := range 18 {
			l, _ = ledger.Add(l, some(100*k, 1+source.Intn(6)))
			if source.Intn(3) == 0 {
				l, _ = ledger.Close(l)
			}
			if d, e := ledger.Digest(l); e == api.OK && len(digests) < len(l.Blocks) {
				digests = append(digests, d)
			}
			all(l, func(tx, seq int, _ api.Digest) {
				r := made(t, l, tx, seq)
				if !Check(r, digests[r.Block.N-1]) {
					t.Fatalf("%+v does not hold against %+v", r, digests[r.Block.N-1])
				}
				was, is := receipts[[2]int{tx, seq}]
				if is && !equal(r, was) {
					t.Fatalf("%+v, and earlier %+v", r, was)
				}
				receipts[[2]int{tx, seq}] = r
			})
		}
	}
}

// TestP1503AnotherHistory: where one thing of a block's changes, or of one ahead, was another one, no receipt of that block, or of one behind, holds against the digests that were handed out; those of blocks ahead do.
func TestP1503AnotherHistory(t *testing.T) {
	var txs [][]api.Change
	for k := range 10 {
		txs = append(txs, some(10*k, 3))
	}
	play := func(txs [][]api.Change) ledger.Ledger {
		var l ledger.Ledger
		for _, c := range txs {
			l, _ = ledger.Add(l, c)
		}
		l, _ = ledger.Close(l)
		return l
	}
	was := play(txs)
	for at := range txs {
		for i, alter := range []func(c []api.Change) []api.Change{
			func(c []api.Change) []api.Change { c[0].Op = api.Take; return c },
			func(c []api.Change) []api.Change { c[1].Table = "u"; return c },
			func(c []api.Change) []api.Change { c[2].Row[1].S = ""; return c },
			func(c []api.Change) []api.Change { return c[:2] },
			func(c []api.Change) []api.Change { return append(c, came()) },
			func(c []api.Change) []api.Change { return []api.Change{c[1], c[0], c[2]} },
		} {
			other := cloneList(txs, func(c []api.Change) []api.Change { return cloneList(c, cloneChange) })
			other[at] = alter(other[at])
			l := play(other)
			all(l, func(tx, seq int, _ api.Digest) {
				r := made(t, l, tx, seq)
				if Check(r, digestOf(was.Blocks[tx/4])) != (tx/4 < at/4) {
					t.Fatalf("the %d. alteration of the %d. transaction: %+v", i, at, r)
				}
			})
		}
	}
}

// roomyList is l with room beyond its end, which is filled.
func roomyList[T any](l []T, fill T) []T {
	room := append(slices.Clone(l), fill, fill, fill)
	return room[:len(l)]
}

// roomy is l with room beyond the end of all its lists.
func roomy(l ledger.Ledger) ledger.Ledger {
	return ledger.Ledger{
		Next:   l.Next,
		Open:   roomyTxs(l.Open),
		Blocks: roomyList(l.Blocks, ledger.Block{N: 99}),
		Txs:    roomyList(cloneList(l.Txs, roomyTxs), []api.Tx{{Id: 99, Changes: some(99, 1)}}),
	}
}

func roomyTxs(l []api.Tx) []api.Tx {
	l = cloneList(l, func(x api.Tx) api.Tx {
		x.Changes = roomyList(cloneList(x.Changes, roomyChange), came(text("spare")))
		return x
	})
	return roomyList(l, api.Tx{Id: 99, Changes: some(99, 1)})
}

func roomyChange(c api.Change) api.Change {
	c.Row = roomyList(c.Row, text("spare"))
	return c
}

func roomyReceipt(r Receipt) Receipt {
	r.C = roomyChange(r.C)
	r.Rows = roomyList(r.Rows, api.Hash{99})
	r.Entries = roomyList(r.Entries, api.Hash{98})
	return r
}

// whole is l with its spare room.
func whole[T any](l []T) []T { return l[:cap(l)] }

// opened is a copy of l with all that stands in its spare room.
func opened(l ledger.Ledger) ledger.Ledger {
	return ledger.Ledger{Next: l.Next, Open: openedTxs(l.Open), Blocks: slices.Clone(whole(l.Blocks)), Txs: cloneList(whole(l.Txs), openedTxs)}
}

func openedTxs(l []api.Tx) []api.Tx {
	return cloneList(whole(l), func(x api.Tx) api.Tx {
		x.Changes = cloneList(whole(x.Changes), openedChange)
		return x
	})
}

func openedChange(c api.Change) api.Change {
	c.Row = slices.Clone(whole(c.Row))
	return c
}

func openedReceipt(r Receipt) Receipt {
	r.C = openedChange(r.C)
	r.Rows, r.Entries = slices.Clone(whole(r.Rows)), slices.Clone(whole(r.Entries))
	return r
}

// spoilList writes over all of l, its spare room too.
func spoilList[T any](l []T, x T) {
	l = whole(l)
	for i := range l {
		l[i] = x
	}
}

func spoil(l ledger.Ledger) {
	for _, txs := range append(whole(l.Txs), l.Open) {
		for _, x := range whole(txs) {
			for _, c := range whole(x.Changes) {
				spoilList(c.Row, text("spoilt"))
			}
			spoilList(x.Changes, came(text("spoilt")))
		}
		spoilList(txs, api.Tx{Id: 77})
	}
	spoilList(l.Blocks, ledger.Block{N: 77})
	spoilList(l.Txs, []api.Tx{{Id: 77}})
}

func spoilReceipt(r Receipt) {
	spoilList(r.C.Row, text("spoilt"))
	spoilList(r.Rows, api.Hash{77})
	spoilList(r.Entries, api.Hash{77})
}

// TestP2HandedIn: what a call is handed stays as it is, its spare room too.
func TestP2HandedIn(t *testing.T) {
	for _, l := range drawnLedgers(12, 20, 20) {
		all(l, func(tx, seq int, d api.Digest) {
			room := roomy(l)
			was := opened(room)
			r := roomyReceipt(made(t, room, tx, seq))
			Make(room, tx, 99)
			Make(room, l.Next, seq)
			if !equalLedger(opened(room), was) {
				t.Fatalf("Make has changed %+v", was)
			}
			wasReceipt := openedReceipt(r)
			if !Check(r, d) || Check(r, api.Digest{}) || !equal(openedReceipt(r), wasReceipt) {
				t.Fatalf("Check has changed %+v", wasReceipt)
			}
		})
	}
}

// TestP2NotKept: a receipt stays as it is, whatever is written over the ledger that it was made of.
func TestP2NotKept(t *testing.T) {
	for _, l := range drawnLedgers(13, 20, 20) {
		all(l, func(tx, seq int, d api.Digest) {
			room := roomy(l)
			r := made(t, room, tx, seq)
			was := openedReceipt(r)
			spoil(room)
			if !equal(openedReceipt(r), was) || !Check(r, d) {
				t.Fatalf("%+v has become %+v", was, r)
			}
		})
	}
}

// TestP2NotWrittenOver: a receipt that is written over changes nothing of the ledger, nor of another receipt.
func TestP2NotWrittenOver(t *testing.T) {
	for _, l := range drawnLedgers(14, 20, 20) {
		all(l, func(tx, seq int, d api.Digest) {
			room := roomy(l)
			was := opened(room)
			r, again := made(t, room, tx, seq), made(t, room, tx, seq)
			spoilReceipt(r)
			if !equalLedger(opened(room), was) || !Check(again, d) {
				t.Fatalf("%+v has become %+v", was, room)
			}
		})
	}
}

// TestP2AnswersShareNothing: no two lists of a receipt, their spare room too, have a place in memory that is one, and none has one of the ledger's.
func TestP2AnswersShareNothing(t *testing.T) {
	for _, l := range drawnLedgers(15, 20, 20) {
		all(l, func(tx, seq int, _ api.Digest) {
			r := made(t, l, tx, seq)
			seen := make(map[any]bool)
			for i := range whole(r.Rows) {
				seen[&whole(r.Rows)[i]] = true
			}
			for i := range whole(r.Entries) {
				seen[&whole(r.Entries)[i]] = true
			}
			for i := range whole(r.C.Row) {
				seen[&whole(r.C.Row)[i]] = true
			}
			if len(seen) != cap(r.Rows)+cap(r.Entries)+cap(r.C.Row) {
				t.Fatalf("two lists share a place: %+v", r)
			}
			for _, txs := range l.Txs {
				for _, x := range txs {
					for _, c := range x.Changes {
						for i := range whole(c.Row) {
							if seen[&whole(c.Row)[i]] {
								t.Fatalf("a place of the ledger's: %+v", r)
							}
						}
					}
				}
			}
		})
	}
}

// TestP2NoLists: no list and an empty one are the same, handed in.
func TestP2NoLists(t *testing.T) {
	none := ledger.Ledger{Blocks: make([]ledger.Block, 1), Txs: [][]api.Tx{{{Id: 3, Changes: []api.Change{{}}}}}}
	empty := ledger.Ledger{Open: []api.Tx{}, Blocks: make([]ledger.Block, 1), Txs: [][]api.Tx{{{Id: 3, Changes: []api.Change{{Row: []api.Value{}}}}}}}
	a, b := made(t, none, 3, 0), made(t, empty, 3, 0)
	if !equal(a, b) {
		t.Fatalf("%+v, %+v", a, b)
	}
	a.Block.Count = 1
	a.C.Row, a.Rows, a.Entries = nil, nil, nil
	a, d := fitted(t, a)
	checks(t, a, d, true)
	a.C.Row, a.Rows, a.Entries = []api.Value{}, []api.Hash{}, []api.Hash{}
	checks(t, a, d, true)
}

// TestP3TheSameAgain: the same calls answer the same, also of what stands in other memory.
func TestP3TheSameAgain(t *testing.T) {
	for _, l := range drawnLedgers(16, 20, 20) {
		for tx := -1; tx <= l.Next; tx++ {
			r, e := Make(l, tx, 0)
			for range 3 {
				if again, e2 := Make(roomy(l), tx, 0); !equal(r, again) || e != e2 {
					t.Fatalf("%+v, %v, and then %+v, %v", r, e, again, e2)
				}
				if d := digestOf(r.Block); Check(r, d) != Check(roomyReceipt(r), d) || Check(r, d) != (e == api.OK) {
					t.Fatalf("%+v", r)
				}
			}
		}
	}
}

// TestP7SideBySide: calls of many at a time, of one ledger and one receipt.
func TestP7SideBySide(t *testing.T) {
	l := drawnLedgers(17, 1, 40)[0]
	if len(l.Blocks) < 2 {
		t.Fatalf("%+v", l)
	}
	one := made(t, l, 0, 0)
	var group sync.WaitGroup
	for range 8 {
		group.Go(func() {
			all(l, func(tx, seq int, d api.Digest) {
				r, e := Make(l, tx, seq)
				if e != api.OK || !Check(r, d) || !Check(one, digestOf(l.Blocks[0])) {
					t.Errorf("%d, %d: %v", tx, seq, e)
				}
			})
		})
	}
	group.Wait()
}

// TestP1AnyLedgers: of ledgers that no calls lead to all ends, and they stay as they are.
func TestP1AnyLedgers(t *testing.T) {
	odd := api.Tx{Id: math.MaxInt, Changes: []api.Change{{}, {Op: -1, Table: strings.Repeat("x", 70000)}, came(api.Value{Kind: -7, N: 9, S: "s"}), came(slices.Repeat([]api.Value{text(strings.Repeat("y", 300))}, 400)...)}}
	many := slices.Repeat([]api.Tx{odd, {}, {Id: 1}, {Id: -1, Changes: some(1, 3)}}, 5)
	for i, l := range []ledger.Ledger{
		{Blocks: make([]ledger.Block, 3)},
		{Next: math.MinInt, Txs: [][]api.Tx{many}},
		{Next: -1, Blocks: make([]ledger.Block, 1), Txs: [][]api.Tx{nil, many}},
		{Open: many, Blocks: make([]ledger.Block, 2), Txs: [][]api.Tx{{}, many, many}},
		{Open: many, Blocks: []ledger.Block{{N: math.MaxInt, Count: -1}, {}, {}}, Txs: [][]api.Tx{many, many}},
	} {
		room := roomy(l)
		was := opened(room)
		for _, tx := range edges {
			for _, seq := range edges {
				r, e := Make(room, tx, seq)
				if e != api.OK && !reflect.DeepEqual(r, Receipt{}) {
					t.Fatalf("the %d. ledger: %+v beside %v", i, r, e)
				}
				Check(r, api.Digest{})
				Check(r, digestOf(r.Block))
			}
		}
		if !equalLedger(opened(room), was) {
			t.Errorf("the %d. ledger has changed", i)
		}
	}
}

// TestP1AnyReceipts: of all numbers at and beyond bounds, and of what is no row, Check ends.
func TestP1AnyReceipts(t *testing.T) {
	source := rand.New(rand.NewSource(18))
	rows := [][]api.Value{nil, {{Kind: -7, N: 9, S: "s"}}, slices.Repeat([]api.Value{text("yy")}, 300)}
	for _, n := range edges {
		for _, i := range edges {
			for _, count := range []int{0, 1, 3, 62, 63, 64, 65, 200} {
				l := drawnHashes(source, count)
				a := drawnReceipt(source, 3)
				a.Seq, a.Changes, a.Rows, a.C.Row = i, n, l, rows[count%3]
				b := drawnReceipt(source, 3)
				b.Place, b.Block.Count, b.Entries = i, n, l
				c := a
				c.Tx, c.Block.N, c.Place, c.Block.Count, c.Entries = i, n, n, i, l
				for _, r := range []Receipt{a, b, c} {
					was := openedReceipt(r)
					r, d := forged(r)
					Check(r, api.Digest{})
					if Check(r, d) && (i < 0 || i >= n) {
						t.Fatalf("holds at %d of %d", i, n)
					}
					if got := openedReceipt(r); !reflect.DeepEqual(got.Rows, was.Rows) || !reflect.DeepEqual(got.Entries, was.Entries) {
						t.Fatal("has changed")
					}
				}
			}
		}
	}
}
