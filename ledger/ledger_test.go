package ledger

import (
	"bytes"
	"math"
	"math/rand"
	"slices"
	"strings"
	"sync"
	"testing"

	"ledgerline/api"
)

func number(n int) api.Value { return api.Value{Kind: api.Int, N: n} }

func truth(n int) api.Value { return api.Value{Kind: api.Bool, N: n} }

func text(s string) api.Value { return api.Value{Kind: api.Text, S: s} }

// came is a change of a table t.
func came(r ...api.Value) api.Change {
	return api.Change{Table: "t", Op: api.Put, Row: r}
}

// some are so many changes, each unlike all others.
func some(from, n int) []api.Change {
	var l []api.Change
	for i := range n {
		l = append(l, came(number(from+i), text("x")))
	}
	return l
}

// edges are numbers at which bytes might be cut.
var edges = []int{0, 1, 2, 255, 256, 65535, 65536, 1 << 31, 1 << 32, -1, -2, -256, math.MaxInt, math.MinInt}

// TestP1401RowByteByByte: what is summed, written out.
func TestP1401RowByteByByte(t *testing.T) {
	c := api.Change{Table: "ab", Op: api.Take, Row: []api.Value{number(-2), text("xyz"), truth(1), {}}}
	b := []byte{
		0,
		9, 1, 0, 0, 0, 0, 0, 0,
		254, 255, 255, 255, 255, 255, 255, 255,
		2,
		2, 0, 'a', 'b',
		19, 0,
		4,
		2, 254, 255, 255, 255, 255, 255, 255, 255,
		3, 3, 0, 'x', 'y', 'z',
		1, 1,
		0,
	}
	if got := Row(265, -2, c); got != sum(b) {
		t.Errorf("%x", got)
	}
}

func TestP1401Row(t *testing.T) {
	source := rand.New(rand.NewSource(2))
	for range 3000 {
		tx, seq, c := drawnNumber(source), drawnNumber(source), drawnChange(source)
		if got := Row(tx, seq, c); got != wantRow(tx, seq, c) {
			t.Fatalf("Row(%d, %d, %+v): %x", tx, seq, c, got)
		}
	}
}

func TestP1401RowEdges(t *testing.T) {
	c := came(number(1))
	for _, i := range edges {
		for _, j := range edges {
			if Row(i, j, c) != wantRow(i, j, c) {
				t.Errorf("of %d, %d", i, j)
			}
		}
		one := came(number(i))
		if Row(1, 2, one) != wantRow(1, 2, one) {
			t.Errorf("of a row of %d", i)
		}
	}
	for op := -300; op <= 300; op++ {
		one := api.Change{Table: "t", Op: op, Row: c.Row}
		low := api.Change{Table: "t", Op: op & 255, Row: c.Row}
		if got := Row(1, 2, one); got != wantRow(1, 2, one) || got != Row(1, 2, low) {
			t.Errorf("of the Op %d", op)
		}
	}
	for _, n := range []int{0, 1, 2, 6, 7, 100, 254, 255} {
		for _, v := range []api.Value{{}, truth(0), number(3), text(strings.Repeat("x", api.MaxText))} {
			one := came(slices.Repeat([]api.Value{v}, n)...)
			if Row(1, 2, one) != wantRow(1, 2, one) {
				t.Errorf("of %d times %+v", n, v)
			}
		}
	}
	for _, n := range []int{0, 1, 12, 13, 255, 256, 257, 65534, 65535, 65536, 70000} {
		one := api.Change{Table: strings.Repeat("t", n), Op: api.Put, Row: c.Row}
		if Row(1, 2, one) != wantRow(1, 2, one) {
			t.Errorf("of a table's name of %d bytes", n)
		}
	}
	none, empty := api.Change{Table: "t", Op: api.Put}, api.Change{Table: "t", Op: api.Put, Row: []api.Value{}}
	if Row(1, 2, none) != Row(1, 2, empty) || Row(1, 2, none) != wantRow(1, 2, none) {
		t.Error("of no row")
	}
}

// TestP1401AllOfAChangeCounts: of changes that are unlike in one thing alone, or in where the one ends and the next begins, no two have one sum.
func TestP1401AllOfAChangeCounts(t *testing.T) {
	seen := make(map[api.Hash]string)
	try := func(name string, tx, seq int, c api.Change) {
		h := Row(tx, seq, c)
		if other, is := seen[h]; is {
			t.Errorf("%s has the sum of %s", name, other)
		}
		seen[h] = name
	}
	try("as it is", 3, 4, came(number(7), text("ab"), text("c")))
	try("of another transaction", 4, 4, came(number(7), text("ab"), text("c")))
	try("at another place", 3, 3, came(number(7), text("ab"), text("c")))
	try("turned over", 4, 3, came(number(7), text("ab"), text("c")))
	try("that takes", 3, 4, api.Change{Table: "t", Op: api.Take, Row: []api.Value{number(7), text("ab"), text("c")}})
	try("of another table", 3, 4, api.Change{Table: "u", Op: api.Put, Row: []api.Value{number(7), text("ab"), text("c")}})
	try("of another number", 3, 4, came(number(8), text("ab"), text("c")))
	try("of another text", 3, 4, came(number(7), text("ac"), text("c")))
	try("parted elsewhere", 3, 4, came(number(7), text("a"), text("bc")))
	try("of fewer", 3, 4, came(number(7), text("abc")))
	try("of more", 3, 4, came(number(7), text("ab"), text("c"), api.Value{}))
	try("in another order", 3, 4, came(number(7), text("c"), text("ab")))
	try("of another kind", 3, 4, came(truth(1), text("ab"), text("c")))
	try("of nothing there", 3, 4, came(number(7), text("ab"), api.Value{}))
	try("of a text of nothing", 3, 4, came(number(7), text("ab"), text("")))
	try("without a row", 3, 4, came())
	try("without a table", 3, 4, api.Change{Op: api.Put, Row: []api.Value{number(7), text("ab"), text("c")}})
}

func TestP1401Root(t *testing.T) {
	source := rand.New(rand.NewSource(3))
	for n := range api.MaxChange + 1 {
		for _, id := range []int{0, n, drawnNumber(source)} {
			x := api.Tx{Id: id, Changes: drawnChanges(source, n)}
			if got := Root(x); got != wantRoot(x) {
				t.Fatalf("of %d changes: %x", n, got)
			}
		}
	}
}

func TestP1401RootOfFew(t *testing.T) {
	for _, x := range []api.Tx{{}, {Id: 7}, {Id: 8, Changes: []api.Change{}}} {
		if Root(x) != sum() {
			t.Errorf("of none: %x", Root(x))
		}
	}
	c := some(1, 3)
	if Root(api.Tx{Id: 5, Changes: c[:1]}) != Row(5, 0, c[0]) {
		t.Error("of one it is not that one's")
	}
	one, two, three := Row(5, 0, c[0]), Row(5, 1, c[1]), Row(5, 2, c[2])
	pair := sum([]byte{1}, one[:], two[:])
	if Root(api.Tx{Id: 5, Changes: c[:2]}) != pair || Root(api.Tx{Id: 5, Changes: c}) != sum([]byte{1}, pair[:], three[:]) {
		t.Error("of two, of three")
	}
}

// TestP1401AllOfATransactionCounts: its Id, each change, and their order.
func TestP1401AllOfATransactionCounts(t *testing.T) {
	for n := 1; n <= 9; n++ {
		x := api.Tx{Id: 3, Changes: some(1, n)}
		root, entry := Root(x), Entry(x)
		other := func(name string, y api.Tx) {
			if Root(y) == root || Entry(y) == entry {
				t.Errorf("of %d changes: %s does not count", n, name)
			}
		}
		other("the Id", api.Tx{Id: 4, Changes: x.Changes})
		other("one more", api.Tx{Id: 3, Changes: some(1, n+1)})
		other("one less", api.Tx{Id: 3, Changes: some(1, n-1)})
		for i := range n {
			y := cloneTx(x)
			y.Changes[i].Row[1].S = "y"
			other("a value", y)
			y = cloneTx(x)
			y.Changes[i].Op = api.Take
			other("an Op", y)
			if i > 0 {
				y = cloneTx(x)
				y.Changes[i-1], y.Changes[i] = y.Changes[i], y.Changes[i-1]
				other("the order", y)
			}
		}
	}
}

func TestP1401Entry(t *testing.T) {
	source := rand.New(rand.NewSource(4))
	for n := range api.MaxChange + 1 {
		for _, id := range append([]int{drawnNumber(source)}, edges...) {
			x := api.Tx{Id: id, Changes: drawnChanges(source, n)}
			if got := Entry(x); got != wantEntry(x) {
				t.Fatalf("of %d, %d changes: %x", id, n, got)
			}
		}
	}
	root := sum()
	if got := Entry(api.Tx{Id: 1}); got != sum([]byte{0, 1, 0, 0, 0, 0, 0, 0, 0, 0, 0, 0, 0, 0, 0, 0, 0}, root[:]) {
		t.Errorf("of none: %x", got)
	}
}

func TestP1401Hash(t *testing.T) {
	source := rand.New(rand.NewSource(5))
	for _, n := range append([]int{drawnNumber(source)}, edges...) {
		for _, count := range append([]int{drawnNumber(source)}, edges...) {
			b := Block{N: n, Prev: drawnHash(source), Root: drawnHash(source), Count: count}
			if got := Hash(b); got != wantHash(b) {
				t.Fatalf("of %+v: %x", b, got)
			}
		}
	}
	if got := Hash(Block{}); got != sum(make([]byte, 80)) {
		t.Errorf("of noughts: %x", got)
	}
}

// TestP1401AllOfABlockCounts: each bit of what it has.
func TestP1401AllOfABlockCounts(t *testing.T) {
	source := rand.New(rand.NewSource(6))
	b := Block{N: 5, Prev: drawnHash(source), Root: drawnHash(source), Count: 3}
	was := Hash(b)
	if Hash(Block{N: 3, Prev: b.Prev, Root: b.Root, Count: 5}) == was || Hash(Block{N: 5, Prev: b.Root, Root: b.Prev, Count: 3}) == was {
		t.Error("which of two it is does not count")
	}
	for bit := range 64 {
		n, count := b, b
		n.N ^= 1 << bit
		count.Count ^= 1 << bit
		if Hash(n) == was || Hash(count) == was {
			t.Errorf("bit %d of N or of Count", bit)
		}
	}
	for bit := range 256 {
		prev, root := b, b
		prev.Prev[bit/8] ^= 1 << (bit % 8)
		root.Root[bit/8] ^= 1 << (bit % 8)
		if Hash(prev) == was || Hash(root) == was {
			t.Errorf("bit %d of Prev or of Root", bit)
		}
	}
}

// TestP1402Example: four transactions are one block, and no earlier one is.
func TestP1402Example(t *testing.T) {
	var l Ledger
	for k := range 4 {
		if len(l.Blocks) != 0 || len(l.Txs) != 0 || len(l.Open) != k || l.Next != k {
			t.Fatalf("%d added: %+v", k, l)
		}
		l, _ = Add(l, some(k, 1))
	}
	if len(l.Blocks) != 1 || len(l.Txs) != 1 || len(l.Open) != 0 || l.Next != 4 {
		t.Fatalf("%+v", l)
	}
	b := l.Blocks[0]
	if b.N != 1 || b.Prev != (api.Hash{}) || b.Count != 4 || len(l.Txs[0]) != 4 {
		t.Fatalf("%+v", l)
	}
	if d, e := Digest(l); d.Block != 1 || d.Hash != Hash(b) || e != api.OK {
		t.Fatalf("%+v, %v", d, e)
	}
}

func TestP1402Add(t *testing.T) {
	var l Ledger
	var h history
	for k := range 26 {
		l = adds(t, l, &h, some(100*k, 1+k%5))
		if l.Next != k+1 || len(l.Open) != (k+1)%4 || len(l.Blocks) != (k+1)/4 {
			t.Fatalf("%d added: %+v", k+1, l)
		}
	}
}

// TestP1402AddOfMany: as many changes as a transaction has at most, and changes that are alike.
func TestP1402AddOfMany(t *testing.T) {
	var l Ledger
	var h history
	for range 5 {
		l = adds(t, l, &h, some(1, api.MaxChange))
		l = adds(t, l, &h, slices.Repeat(some(1, 1), 7))
	}
}

// TestP1402Close: of each number of transactions; the next block has four again, however few the last one has.
func TestP1402Close(t *testing.T) {
	for first := 1; first <= 3; first++ {
		for second := 1; second <= 3; second++ {
			var l Ledger
			var h history
			for k := range first {
				l = adds(t, l, &h, some(k, 2))
			}
			l = closes(t, l, &h)
			for k := range second {
				l = adds(t, l, &h, some(10+k, 2))
			}
			l = closes(t, l, &h)
			for k := range 4 {
				l = adds(t, l, &h, some(20+k, 2))
			}
			if len(l.Blocks) != 3 || l.Blocks[0].Count != first || l.Blocks[1].Count != second || l.Blocks[2].Count != 4 || len(l.Open) != 0 {
				t.Fatalf("%d, %d: %+v", first, second, l)
			}
		}
	}
}

// TestP1402CloseOfNone: where nothing is open nothing is closed: at the beginning, behind a block that filled, behind a Close.
func TestP1402CloseOfNone(t *testing.T) {
	var l Ledger
	var h history
	refused := func(l Ledger) {
		t.Helper()
		for range 2 {
			if next, e := Close(l); e != api.ErrNone || !equal(next, l) {
				t.Fatalf("%+v, %v, of %+v", next, e, l)
			}
		}
	}
	refused(l)
	refused(Ledger{Open: []api.Tx{}, Blocks: []Block{}, Txs: [][]api.Tx{}})
	for k := range 4 {
		l = adds(t, l, &h, some(k, 1))
	}
	refused(l)
	l = adds(t, l, &h, some(9, 1))
	l = closes(t, l, &h)
	refused(l)
	l = closes(t, l, &h)
	refused(l)
}

// TestP1402CloseLinks: each block names the sum of the one ahead, the first one noughts.
func TestP1402CloseLinks(t *testing.T) {
	byChance(t, 7, 20, 30, func(_ int, _ Ledger, _ []api.Change, l Ledger) {
		var prev api.Hash
		for i, b := range l.Blocks {
			if b.N != i+1 || b.Prev != prev || b.Count != len(l.Txs[i]) || b.Count < 1 || b.Count > 4 {
				t.Fatalf("the %d. block: %+v", i, b)
			}
			prev = Hash(b)
		}
	})
}

func TestP1402Digest(t *testing.T) {
	var l Ledger
	if d, e := Digest(l); d != (api.Digest{}) || e != api.ErrNone {
		t.Fatalf("of nothing: %+v, %v", d, e)
	}
	for k := range 3 {
		l, _ = Add(l, some(k, 1))
		if d, e := Digest(l); d != (api.Digest{}) || e != api.ErrNone {
			t.Fatalf("of %d in no block: %+v, %v", k+1, d, e)
		}
	}
	l, _ = Close(l)
	first, e := Digest(l)
	if first != (api.Digest{Block: 1, Hash: Hash(l.Blocks[0])}) || e != api.OK {
		t.Fatalf("of one block: %+v, %v", first, e)
	}
	l, _ = Add(l, some(5, 1))
	if d, e := Digest(l); d != first || e != api.OK {
		t.Fatalf("what is open counts: %+v, %v", d, e)
	}
	l, _ = Close(l)
	if d, e := Digest(l); d != (api.Digest{Block: 2, Hash: Hash(l.Blocks[1])}) || e != api.OK || d == first {
		t.Fatalf("of two blocks: %+v, %v", d, e)
	}
}

// TestP1402ByChance: all that is answered, over calls in any order, is what the words make of the whole history.
func TestP1402ByChance(t *testing.T) {
	blocks := make(map[int]int)
	byChance(t, 8, 60, 25, func(_ int, _ Ledger, _ []api.Change, is Ledger) {
		for _, b := range is.Blocks {
			blocks[b.Count]++
		}
	})
	for n := 1; n <= 4; n++ {
		if blocks[n] == 0 {
			t.Errorf("no block of %d was tried", n)
		}
	}
}

// aLedger has all that Same holds against each other, more than once.
func aLedger() Ledger {
	var l Ledger
	for k := range 7 {
		l, _ = Add(l, some(10*k, 2))
		if k == 1 {
			l, _ = Close(l)
		}
	}
	return l
}

// alterations are ledgers that are each unlike aLedger in one thing.
func alterations() []func(l *Ledger) {
	all := []func(l *Ledger){
		func(l *Ledger) { l.Next++ },
		func(l *Ledger) { l.Next = -l.Next },
		func(l *Ledger) { l.Open = nil },
		func(l *Ledger) { l.Open = append(l.Open, l.Open[0]) },
		func(l *Ledger) { l.Blocks = l.Blocks[:1] },
		func(l *Ledger) { l.Blocks = nil },
		func(l *Ledger) { l.Blocks = append(l.Blocks, Block{}) },
		func(l *Ledger) { l.Blocks[0], l.Blocks[1] = l.Blocks[1], l.Blocks[0] },
		func(l *Ledger) { l.Txs = l.Txs[:1] },
		func(l *Ledger) { l.Txs = nil },
		func(l *Ledger) { l.Txs = append(l.Txs, nil) },
		func(l *Ledger) { l.Txs[0], l.Txs[1] = l.Txs[1], l.Txs[0] },
		func(l *Ledger) { l.Txs[1][0], l.Txs[1][3] = l.Txs[1][3], l.Txs[1][0] },
		func(l *Ledger) { l.Txs[0] = l.Txs[0][:1] },
		func(l *Ledger) { l.Txs[1] = nil },
		func(l *Ledger) { l.Txs[0], l.Txs[1] = append(l.Txs[0], l.Txs[1][0]), l.Txs[1][1:] },
		func(l *Ledger) { l.Open, l.Txs[1] = append(l.Txs[1][3:], l.Open...), l.Txs[1][:3] },
	}
	for i := range 2 {
		all = append(all,
			func(l *Ledger) { l.Blocks[i].N++ },
			func(l *Ledger) { l.Blocks[i].Count-- },
		)
		for at := range 32 {
			all = append(all,
				func(l *Ledger) { l.Blocks[i].Prev[at] ^= 1 },
				func(l *Ledger) { l.Blocks[i].Root[at] ^= 128 },
			)
		}
	}
	for _, tx := range []func(l *Ledger) *api.Tx{
		func(l *Ledger) *api.Tx { return &l.Open[0] },
		func(l *Ledger) *api.Tx { return &l.Txs[0][1] },
		func(l *Ledger) *api.Tx { return &l.Txs[1][0] },
		func(l *Ledger) *api.Tx { return &l.Txs[1][3] },
	} {
		all = append(all,
			func(l *Ledger) { tx(l).Id++ },
			func(l *Ledger) { tx(l).Changes = nil },
			func(l *Ledger) { tx(l).Changes = tx(l).Changes[:1] },
			func(l *Ledger) { tx(l).Changes = append(tx(l).Changes, api.Change{}) },
			func(l *Ledger) { tx(l).Changes[0].Op = api.Take },
			func(l *Ledger) { tx(l).Changes[1].Table = "tt" },
			func(l *Ledger) { tx(l).Changes[1].Row = nil },
			func(l *Ledger) { tx(l).Changes[1].Row = append(tx(l).Changes[1].Row, api.Value{}) },
			func(l *Ledger) { tx(l).Changes[0].Row[0].N++ },
			func(l *Ledger) { tx(l).Changes[0].Row[0].Kind = api.Bool },
			func(l *Ledger) { tx(l).Changes[1].Row[1].S = "X" },
			func(l *Ledger) { tx(l).Changes[1].Row[1].N = 1 },
		)
	}
	return all
}

func TestP1402Same(t *testing.T) {
	l := aLedger()
	if len(l.Open) != 1 || len(l.Blocks) != 2 || len(l.Txs[0]) != 2 || len(l.Txs[1]) != 4 {
		t.Fatalf("%+v", l)
	}
	if !Same(l, l) || !Same(l, clone(l)) || !Same(l, aLedger()) || !Same(Ledger{}, Ledger{}) {
		t.Error("what is the same is not told so")
	}
	for i, alter := range alterations() {
		other := clone(l)
		alter(&other)
		if Same(l, other) || Same(other, l) {
			t.Errorf("the %d. alteration is not told", i)
		}
		if again := clone(other); !Same(other, again) {
			t.Errorf("the %d. alteration is not the same as itself", i)
		}
	}
}

// TestP1402SameOfNoLists: no list and an empty one are the same, wherever they stand.
func TestP1402SameOfNoLists(t *testing.T) {
	none := Ledger{Open: []api.Tx{{}, {Changes: []api.Change{{}}}}, Blocks: nil, Txs: [][]api.Tx{nil, {{}}}}
	empty := Ledger{Open: []api.Tx{{Changes: []api.Change{}}, {Changes: []api.Change{{Row: []api.Value{}}}}}, Blocks: []Block{}, Txs: [][]api.Tx{{}, {{Changes: []api.Change{}}}}}
	if !Same(none, empty) || !Same(empty, none) {
		t.Error("within a ledger")
	}
	if !Same(Ledger{}, Ledger{Open: []api.Tx{}, Blocks: []Block{}, Txs: [][]api.Tx{}}) {
		t.Error("of nothing")
	}
	if Same(Ledger{}, Ledger{Txs: [][]api.Tx{nil}}) || Same(Ledger{}, Ledger{Open: []api.Tx{{}}}) {
		t.Error("a list of one is one of none")
	}
}

// TestP1402SameOfAllPairs: of ledgers that calls lead to, those are the same that have the same on.
func TestP1402SameOfAllPairs(t *testing.T) {
	ledgers, _ := someLedgers(t)
	for _, a := range ledgers {
		for _, b := range ledgers {
			if Same(a, b) != equal(a, b) {
				t.Fatalf("%+v, %+v", a, b)
			}
		}
	}
}

// TestP1403WhatStandsInBlocksStays: whatever comes behind, blocks, their transactions and their digests are as they were.
func TestP1403WhatStandsInBlocksStays(t *testing.T) {
	var digests []api.Digest
	at := -1
	byChance(t, 9, 20, 30, func(run int, was Ledger, _ []api.Change, is Ledger) {
		if run != at {
			at, digests = run, nil
		}
		n := len(was.Blocks)
		if len(is.Blocks) < n || !slices.Equal(is.Blocks[:n], was.Blocks) || !slices.EqualFunc(is.Txs[:n], was.Txs, sameTxs) {
			t.Fatalf("%+v: %+v", was, is)
		}
		if d, e := Digest(is); e == api.OK && len(is.Blocks) > n {
			digests = append(digests, d)
		}
		if len(digests) != len(is.Blocks) {
			t.Fatalf("%d digests of %d blocks", len(digests), len(is.Blocks))
		}
		for i, d := range digests {
			if d.Block != i+1 || d.Hash != Hash(is.Blocks[i]) {
				t.Fatalf("the %d. digest does not fit any more: %+v, %+v", i, d, is.Blocks[i])
			}
		}
	})
}

// played are the digests of a ledger in which these transactions were added one by one, and closed behind those that ends tells.
func played(txs [][]api.Change, ends []bool) []api.Digest {
	var l Ledger
	var digests []api.Digest
	for i, c := range txs {
		l, _ = Add(l, c)
		if ends[i] {
			l, _ = Close(l)
		}
		if d, e := Digest(l); e == api.OK && len(l.Blocks) > len(digests) {
			digests = append(digests, d)
		}
	}
	return digests
}

// TestP1403EachSumIsOverAllAhead: where one thing of the history is another one, the sums of the blocks ahead stay, and that of its block and all behind are others.
func TestP1403EachSumIsOverAllAhead(t *testing.T) {
	var txs [][]api.Change
	ends := []bool{false, false, true, false, false, false, true, true, false, true, false, true}
	inBlock := []int{0, 0, 0, 1, 1, 1, 1, 2, 3, 3, 4, 4}
	for k := range ends {
		txs = append(txs, some(10*k, 2))
	}
	want := played(txs, ends)
	if len(want) != 5 {
		t.Fatalf("%d blocks", len(want))
	}
	for at, block := range inBlock {
		for i, alter := range []func(c []api.Change) []api.Change{
			func(c []api.Change) []api.Change { c[0].Op = api.Take; return c },
			func(c []api.Change) []api.Change { c[1].Table = "u"; return c },
			func(c []api.Change) []api.Change { c[1].Row[1].S = ""; return c },
			func(c []api.Change) []api.Change { c[0].Row[0].N ^= 1 << 62; return c },
			func(c []api.Change) []api.Change { return c[:1] },
			func(c []api.Change) []api.Change { return append(c, came()) },
			func(c []api.Change) []api.Change { return []api.Change{c[1], c[0]} },
		} {
			other := cloneList(txs, cloneChanges)
			other[at] = alter(other[at])
			for b, d := range played(other, ends) {
				if d.Block != b+1 || (d.Hash == want[b].Hash) != (b < block) {
					t.Fatalf("the %d. alteration of the %d. transaction: the %d. block's sum", i, at, b)
				}
			}
		}
	}
}

// TestP1403WhereBlocksEnd: the same transactions, closed elsewhere, are another chain; that Close is asked where nothing is open does not count.
func TestP1403WhereBlocksEnd(t *testing.T) {
	txs := [][]api.Change{some(1, 1), some(2, 1), some(3, 1), some(4, 1)}
	seen := make(map[api.Hash]int)
	for n := range 8 {
		l := played(txs, []bool{n&1 != 0, n&2 != 0, n&4 != 0, true})
		last := l[len(l)-1].Hash
		if other, is := seen[last]; is {
			t.Errorf("%03b and %03b", n, other)
		}
		seen[last] = n
	}
	if !slices.Equal(played(txs, []bool{false, false, false, true}), played(txs, make([]bool, 4))) {
		t.Error("a Close of nothing counts")
	}
}

// roomyList is l with room beyond its end, which is filled.
func roomyList[T any](l []T, fill T) []T {
	room := append(slices.Clone(l), fill, fill, fill)
	return room[:len(l)]
}

// roomy is l with room beyond the end of all its lists.
func roomy(l Ledger) Ledger {
	l = clone(l)
	for i, txs := range l.Txs {
		l.Txs[i] = roomyTxs(txs)
	}
	l.Open = roomyTxs(l.Open)
	l.Blocks = roomyList(l.Blocks, Block{N: 99})
	l.Txs = roomyList(l.Txs, []api.Tx{{Id: 99, Changes: some(99, 1)}})
	return l
}

func roomyTxs(l []api.Tx) []api.Tx {
	for i, x := range l {
		l[i].Changes = roomyChanges(x.Changes)
	}
	return roomyList(l, api.Tx{Id: 99, Changes: some(99, 1)})
}

func roomyChanges(l []api.Change) []api.Change {
	l = cloneChanges(l)
	for i, c := range l {
		l[i].Row = roomyList(c.Row, text("spare"))
	}
	return roomyList(l, came(text("spare")))
}

// whole is l with its spare room.
func whole[T any](l []T) []T { return l[:cap(l)] }

// opened is a copy of l with all that stands in its spare room.
func opened(l Ledger) Ledger {
	return Ledger{
		Next:   l.Next,
		Open:   openedTxs(l.Open),
		Blocks: slices.Clone(whole(l.Blocks)),
		Txs:    cloneList(whole(l.Txs), openedTxs),
	}
}

func openedTxs(l []api.Tx) []api.Tx {
	return cloneList(whole(l), func(x api.Tx) api.Tx {
		x.Changes = openedChanges(x.Changes)
		return x
	})
}

func openedChanges(l []api.Change) []api.Change {
	return cloneList(whole(l), func(c api.Change) api.Change {
		c.Row = cloneRow(whole(c.Row))
		return c
	})
}

// spoil writes over all of l, its spare room too.
func spoil(l Ledger) {
	spoilTxs(l.Open)
	for _, txs := range whole(l.Txs) {
		spoilTxs(txs)
	}
	spoilList(l.Blocks, Block{N: 77, Prev: api.Hash{77}})
	spoilList(l.Txs, []api.Tx{{Id: 77}})
}

func spoilTxs(l []api.Tx) {
	for _, x := range whole(l) {
		spoilChanges(x.Changes)
	}
	spoilList(l, api.Tx{Id: 77})
}

func spoilChanges(l []api.Change) {
	for _, c := range whole(l) {
		spoilList(c.Row, text("spoilt"))
	}
	spoilList(l, came(text("spoilt")))
}

func spoilList[T any](l []T, x T) {
	l = whole(l)
	for i := range l {
		l[i] = x
	}
}

// does adds c, or closes, if there is none.
func does(l Ledger, c []api.Change) (Ledger, api.Tx) {
	if len(c) > 0 {
		return Add(l, c)
	}
	next, _ := Close(l)
	return next, api.Tx{}
}

// TestP2HandedIn: what a call is handed stays as it is, its spare room too.
func TestP2HandedIn(t *testing.T) {
	ledgers, added := someLedgers(t)
	for i, l := range ledgers {
		l, c := roomy(l), roomyChanges(added[i])
		wasLedger, wasChanges := opened(l), openedChanges(c)
		does(l, c)
		Close(l)
		Digest(l)
		Same(l, ledgers[i])
		Same(ledgers[i], l)
		for _, x := range slices.Concat(slices.Concat(l.Txs, [][]api.Tx{l.Open})...) {
			Root(x)
			Entry(x)
		}
		if !equal(opened(l), wasLedger) || !equalTx(api.Tx{Changes: openedChanges(c)}, api.Tx{Changes: wasChanges}) {
			t.Fatalf("the %d. ledger, or what is added to it, has changed", i)
		}
	}
}

// TestP2RowHandedIn: as little is changed of a change that is summed.
func TestP2RowHandedIn(t *testing.T) {
	source := rand.New(rand.NewSource(10))
	for range 200 {
		c := roomyChanges(drawnChanges(source, 1))
		was := openedChanges(c)
		Row(1, 2, c[0])
		if !equalTx(api.Tx{Changes: openedChanges(c)}, api.Tx{Changes: was}) {
			t.Fatalf("%+v, not %+v", openedChanges(c), was)
		}
	}
}

// TestP2NotKept: an answer stays as it is, whatever is written over what was handed in.
func TestP2NotKept(t *testing.T) {
	ledgers, added := someLedgers(t)
	for i, l := range ledgers {
		l, c := roomy(l), roomyChanges(added[i])
		next, x := does(l, c)
		closed, _ := Close(l)
		wasNext, wasTx, wasClosed := opened(next), openedTxs([]api.Tx{x}), opened(closed)
		spoil(l)
		spoilChanges(c)
		if !equal(opened(next), wasNext) || !equalTx(openedTxs([]api.Tx{x})[0], wasTx[0]) || !equal(opened(closed), wasClosed) {
			t.Fatalf("the %d. answer has changed", i)
		}
	}
}

// TestP2NotWrittenOver: an answer that is written over changes nothing of what was handed in, nor of another answer.
func TestP2NotWrittenOver(t *testing.T) {
	ledgers, added := someLedgers(t)
	for i, l := range ledgers {
		l, c := roomy(l), roomyChanges(added[i])
		wasLedger, wasChanges := opened(l), openedChanges(c)
		next, x := does(l, c)
		again, y := does(l, c)
		closed, _ := Close(l)
		spoil(next)
		spoilChanges(x.Changes)
		spoil(closed)
		if !equal(opened(l), wasLedger) || !equalTx(api.Tx{Changes: openedChanges(c)}, api.Tx{Changes: wasChanges}) {
			t.Fatalf("the %d. ledger, or what is added to it, has changed", i)
		}
		wantNext, wantTx := does(ledgers[i], added[i])
		if !equal(again, wantNext) || !equalTx(y, wantTx) {
			t.Fatalf("the %d. ledger: another answer has changed", i)
		}
	}
}

// claims are the places in memory that lists have.
type claims map[any]bool

func claim[T any](t *testing.T, c claims, l []T) {
	t.Helper()
	for i := range whole(l) {
		p := &whole(l)[i]
		if c[p] {
			t.Fatalf("two lists share %+v", *p)
		}
		c[p] = true
	}
}

func claimChanges(t *testing.T, c claims, l []api.Change) {
	t.Helper()
	claim(t, c, l)
	for _, x := range l {
		claim(t, c, x.Row)
	}
}

func claimTxs(t *testing.T, c claims, l []api.Tx) {
	t.Helper()
	claim(t, c, l)
	for _, x := range l {
		claimChanges(t, c, x.Changes)
	}
}

// TestP2AnswersShareNothing: no two lists of an answer, their spare room too, have a place in memory that is one.
func TestP2AnswersShareNothing(t *testing.T) {
	ledgers, added := someLedgers(t)
	for i, l := range ledgers {
		next, x := does(l, added[i])
		c := make(claims)
		claimTxs(t, c, next.Open)
		claim(t, c, next.Blocks)
		claim(t, c, next.Txs)
		for _, txs := range next.Txs {
			claimTxs(t, c, txs)
		}
		claimChanges(t, c, x.Changes)
	}
}

// TestP2SharedWhenHandedIn: lists that are one when they are handed in are several in the answer.
func TestP2SharedWhenHandedIn(t *testing.T) {
	one := came(number(1), text("x"))
	l, x := Add(Ledger{}, []api.Change{one, one})
	l, y := Add(l, []api.Change{one})
	l, _ = Close(l)
	l, z := Add(l, x.Changes)
	for _, c := range []*api.Change{&one, &x.Changes[1], &y.Changes[0], &z.Changes[0], &l.Open[0].Changes[1], &l.Txs[0][0].Changes[0]} {
		if c.Row[0].N != 1 {
			t.Fatalf("%+v, %+v, %+v", one, x, l)
		}
		c.Row[0].N = 2
	}
	if l.Txs[0][0].Changes[1].Row[0].N != 1 || l.Txs[0][1].Changes[0].Row[0].N != 1 || l.Open[0].Changes[0].Row[0].N != 1 || z.Changes[1].Row[0].N != 1 {
		t.Fatalf("%+v, %+v", l, z)
	}
}

// TestP3TheSameAgain: the same calls answer the same, also of what stands in other memory.
func TestP3TheSameAgain(t *testing.T) {
	ledgers, added := someLedgers(t)
	for i, l := range ledgers {
		next, x := does(l, added[i])
		again, y := does(roomy(l), roomyChanges(added[i]))
		if !equal(next, again) || !equalTx(x, y) || !Same(next, again) {
			t.Fatalf("%+v, %+v, and then %+v, %+v", next, x, again, y)
		}
		d, e := Digest(l)
		if d2, e2 := Digest(roomy(l)); d != d2 || e != e2 {
			t.Fatalf("%+v, %v, and then %+v, %v", d, e, d2, e2)
		}
	}
}

// TestP7SideBySide: calls of many at a time, of one ledger.
func TestP7SideBySide(t *testing.T) {
	ledgers, added := someLedgers(t)
	var group sync.WaitGroup
	for range 8 {
		group.Go(func() {
			for i, l := range ledgers {
				next, x := does(l, added[i])
				again, y := does(clone(l), added[i])
				if !Same(next, again) || !equalTx(x, y) {
					t.Errorf("the %d. ledger", i)
					return
				}
			}
		})
	}
	group.Wait()
}

// oddLedgers are such as no calls lead to.
func oddLedgers() []Ledger {
	odd := api.Tx{Id: math.MaxInt, Changes: []api.Change{{}, {Op: -1, Table: strings.Repeat("x", 70000)}, came(api.Value{Kind: -7, N: 9, S: "s"}), came(slices.Repeat([]api.Value{text(strings.Repeat("y", 300))}, 400)...)}}
	many := slices.Repeat([]api.Tx{odd, {}}, 5)
	var full Ledger
	full.Open = many[:4]
	return []Ledger{
		full,
		{Next: math.MaxInt, Open: many[:3]},
		{Next: math.MinInt, Open: many},
		{Next: -1, Blocks: make([]Block, 3)},
		{Open: many, Blocks: []Block{{N: math.MaxInt, Count: -1}}, Txs: [][]api.Tx{nil, many, {}, nil}},
		{Txs: [][]api.Tx{nil, {}, many}},
	}
}

// TestP1AnyLedgers: all calls of all ledgers end, and leave what they are handed as it is.
func TestP1AnyLedgers(t *testing.T) {
	for i, l := range oddLedgers() {
		x := roomy(l)
		was := opened(x)
		for _, c := range [][]api.Change{nil, {}, some(1, 1), some(1, 100), oddLedgers()[1].Open[0].Changes} {
			next, y := Add(x, c)
			Root(y)
			Entry(y)
			for range 5 {
				next, _ = Add(next, c)
			}
			next, _ = Close(next)
			Digest(next)
			Same(next, x)
		}
		Close(x)
		Digest(x)
		if !equal(opened(x), was) {
			t.Errorf("the %d. ledger has changed", i)
		}
		if !Same(x, l) || !Same(x, x) {
			t.Errorf("the %d. ledger is not the same as itself", i)
		}
	}
}

// TestP1AnyChange: what is no row is summed all the same.
func TestP1AnyChange(t *testing.T) {
	for _, c := range oddLedgers()[1].Open[0].Changes {
		for _, n := range edges {
			if a, b := Row(n, -n, c), Row(n, -n, cloneChange(c)); !bytes.Equal(a[:], b[:]) {
				t.Errorf("%d: two sums of one change", n)
			}
		}
	}
}
