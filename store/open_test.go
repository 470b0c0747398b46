package store

import (
	"math"
	"math/rand"
	"slices"
	"strings"
	"testing"

	"ledgerline/api"
	"ledgerline/disk"
	"ledgerline/ledger"
	"ledgerline/sha"
	"ledgerline/txn"
)

// TestP1601Example: a new disk has no tables, no blocks, and opening it writes nothing.
func TestP1601Example(t *testing.T) {
	for _, pages := range []int{2, 3, 64, api.MaxPages} {
		d := blank(t, pages)
		d.Stop(1)
		s, e := Open(d)
		if e != api.OK || d.Dead() {
			t.Fatalf("%d pages: %v", pages, e)
		}
		is(t, s, d, &words{})
		if _, e := s.Digest(); e != api.ErrNone || d.Dead() {
			t.Errorf("Digest: %v", e)
		}
	}
}

// TestP1601WalErrors: of a disk that is dead, or whose pages are no log.
func TestP1601WalErrors(t *testing.T) {
	d := logged(t, "no record")
	d.Stop(1)
	d.Sync()
	if s, e := Open(d); e != api.ErrDead || s != nil {
		t.Errorf("%v, %v", s, e)
	}
	for _, head := range []string{numberBytes(-1), numberBytes(1) + numberBytes(1), numberBytes(64) + numberBytes(0), numberBytes(0) + numberBytes(1), numberBytes(1 << 40)} {
		d := blank(t, 2)
		if !d.Tamper(0, 0, []byte(head)) {
			t.Fatal("not written")
		}
		if s, e := Open(d); e != api.ErrBad || s != nil {
			t.Errorf("%x: %v, %v", head, s, e)
		}
	}
}

// fresh is a store over a new disk.
func fresh(t *testing.T, pages int) (*Store, *disk.Disk) {
	t.Helper()
	d := blank(t, pages)
	s, e := Open(d)
	ok(t, e)
	return s, d
}

// puts lets a session put rows; it is at work behind that.
func puts(t *testing.T, s *Store, session int, name string, rows ...[]api.Value) {
	t.Helper()
	db := s.DB()
	var e api.Errno
	if !slices.ContainsFunc(db.Works, func(w txn.Work) bool { return w.S == session }) {
		if db, e = txn.Begin(db, session); e != api.OK {
			t.Fatal(e)
		}
	}
	for _, r := range rows {
		if db, e = txn.Put(db, session, name, r); e != api.OK {
			t.Fatalf("put %v: %v", r, e)
		}
	}
	s.Set(db)
}

func takes(t *testing.T, s *Store, session int, name string, k api.Value) {
	t.Helper()
	db, e := txn.Take(s.DB(), session, name, k)
	if e != api.OK {
		t.Fatalf("take %v: %v", k, e)
	}
	s.Set(db)
}

// ok: a call that is to answer no error.
func ok(t *testing.T, e api.Errno) {
	t.Helper()
	if e != api.OK {
		t.Fatal(e)
	}
}

// done commits a session, that is to have this Id.
func done(t *testing.T, s *Store, session, want int) {
	t.Helper()
	if tx, e := s.Commit(session); tx != want || e != api.OK {
		t.Fatalf("Commit(%d): %d, %v, not %d", session, tx, e, want)
	}
}

// filled is a store in whose log each kind of record stands: tables that come and go, transactions that put and take, that close a block by themselves and do not, a block.
func filled(t *testing.T) (*Store, *disk.Disk) {
	t.Helper()
	s, d := fresh(t, 64)
	ok(t, s.Create(shape("t")))
	ok(t, s.Create(only("o")))
	ok(t, s.Create(byText("u")))
	puts(t, s, 0, "t", line(1, "one"), line(-2, "two"))
	done(t, s, 0, 0)
	_, e := s.Digest()
	ok(t, e)
	ok(t, s.Drop("u"))
	puts(t, s, 5, "o", line(7, "it's"))
	done(t, s, 5, 1)
	puts(t, s, 1, "t", line(3, ""))
	takes(t, s, 1, "t", number(1))
	done(t, s, 1, 2)
	puts(t, s, 1, "t", line(1, "again"))
	done(t, s, 1, 3)
	puts(t, s, 1, "t", line(4, "4"))
	puts(t, s, 1, "o", line(4, "4"))
	done(t, s, 1, 4)
	puts(t, s, 2, "t", line(5, "5"))
	done(t, s, 2, 5)
	return s, d
}

// TestP1601WrittenOut: each kind of record, byte by byte.
func TestP1601WrittenOut(t *testing.T) {
	s, d := fresh(t, 64)
	x := api.Schema{Name: "ab", Cols: []api.Col{{Name: "k", Kind: api.Int}, {Name: "v", Kind: api.Text, Null: true}}, Only: true}
	ok(t, s.Create(x))
	ok(t, s.Create(shape("u")))
	ok(t, s.Drop("u"))
	ab := []api.Value{number(258), text("hi")}
	puts(t, s, 0, "ab", ab, []api.Value{number(-1), {}})
	done(t, s, 0, 0)
	for k := range 2 {
		puts(t, s, 0, "ab", []api.Value{number(k), {}})
		done(t, s, 0, k+1)
	}
	_, e := s.Digest()
	ok(t, e)
	for k := range 4 {
		puts(t, s, 0, "ab", []api.Value{number(10 + k), {}})
		done(t, s, 0, k+3)
	}
	got := recordsOf(t, d)
	if len(got) != 11 {
		t.Fatalf("%d records", len(got))
	}
	is := func(i int, want string) {
		t.Helper()
		if got[i] != want {
			t.Errorf("%d: %x, not %x", i, got[i], want)
		}
	}
	const nine = "\x00\x00\x00\x00\x00\x00\x00"
	is(0, "\x01\x18\x00"+"\x02\x00ab"+"\x02"+"\x01\x00k\x02\x00"+"\x01\x00v\x03\x01"+"\x00"+nine+"\x01")
	is(2, "\x02\x01\x00u")
	row1 := "\x02\x02\x02\x01" + nine[1:] + "\x03\x02\x00hi"
	row2 := "\x02\x02" + strings.Repeat("\xff", 8) + "\x00"
	leaf := func(seq byte, row string) api.Hash {
		return sha.Sum([]byte("\x00" + "\x00" + nine + string([]byte{seq}) + nine + "\x01" + "\x02\x00ab" + string([]byte{byte(len(row)), 0}) + row))
	}
	one, two := leaf(0, row1), leaf(1, row2)
	root := sha.Sum([]byte{1}, one[:], two[:])
	change := func(row string, h api.Hash) string {
		return "\x01" + "\x02\x00ab" + string([]byte{byte(len(row)), 0}) + row + hashBytes(h)
	}
	is(3, "\x03"+"\x00"+nine+"\x02"+change(row1, one)+change(row2, two)+hashBytes(root)+"\x00")
	blocks := s.Ledger().Blocks
	is(6, "\x04\x01"+nine+hashBytes(ledger.Hash(blocks[0])))
	for i := range 3 {
		if b := got[7+i]; b[len(b)-1] != 0 || b[1] != byte(3+i) {
			t.Errorf("%x", b)
		}
	}
	if b, want := got[10], "\x01"+hashBytes(ledger.Hash(blocks[1])); !strings.HasSuffix(b, want) || b[1] != 6 {
		t.Errorf("%x", b)
	}
	if len(blocks) != 2 || blocks[0].Count != 3 || blocks[1].Count != 4 || blocks[1].Prev != ledger.Hash(blocks[0]) {
		t.Errorf("%+v", blocks)
	}
}

// TestP1601DoneOneByOne: the store that is opened is the one that was left; so is that of each of the records with those ahead of it.
func TestP1601DoneOneByOne(t *testing.T) {
	s, d := filled(t)
	records := recordsOf(t, d)
	w, is := wantOpen(records)
	if !is || len(records) != 11 {
		t.Fatalf("%q", records)
	}
	if show(w.db) != show(s.DB()) || show(w.ledger) != show(s.Ledger()) {
		t.Errorf("%+v, %+v", w.db, w.ledger)
	}
	opens(t, d, w)
	var all state
	for n, record := range records {
		if !does(t, records[:n]) {
			t.Errorf("the first %d are refused", n)
		}
		was := show(all)
		next, e := all.redo([]byte(record))
		if e != api.OK || show(all) != was {
			t.Errorf("%d: %v, or the state ahead of it was changed", n, e)
		}
		all = next
	}
}

// refused: of a log of these records Open answers ErrBad, and no store.
func refused(t *testing.T, records ...string) {
	t.Helper()
	if does(t, records) {
		t.Errorf("not refused: %q", records[len(records)-1])
	}
}

// accepted: a log of these records can be opened.
func accepted(t *testing.T, records ...string) {
	t.Helper()
	if !does(t, records) {
		t.Errorf("refused: %q", records[len(records)-1])
	}
}

// TestP1601EachByte: whichever byte of a record is another one, Open answers what the words say of it.
func TestP1601EachByte(t *testing.T) {
	_, d := filled(t)
	records := recordsOf(t, d)
	for i, b := range records {
		for at := range len(b) {
			for _, turn := range []byte{1, 2, 4, 128, 255} {
				other := []byte(b)
				other[at] ^= turn
				does(t, append(slices.Clone(records[:i]), string(other)))
			}
		}
	}
}

// TestP1601EachLength: no record that is cut, or has a byte more, is one.
func TestP1601EachLength(t *testing.T) {
	_, d := filled(t)
	records := recordsOf(t, d)
	for i, b := range records {
		for n := range len(b) {
			refused(t, append(slices.Clone(records[:i]), b[:n])...)
		}
		for _, more := range []string{"\x00", "\x01", "\xff", b} {
			refused(t, append(slices.Clone(records[:i]), b+more)...)
		}
	}
}

// TestP1601Kinds: there are four kinds of records.
func TestP1601Kinds(t *testing.T) {
	refused(t, "")
	for kind := range 256 {
		for _, rest := range []string{"", "\x00", textBytes(""), textBytes("t"), strings.Repeat("\x00", 100)} {
			refused(t, string([]byte{byte(kind)})+rest)
		}
	}
}

// TestP1601Tables: what txn.Create or Drop refuse, and bytes that are no shape.
func TestP1601Tables(t *testing.T) {
	a := wantTable(shape("t"))
	accepted(t, a, wantTable(shape("u")), wantDrop("t"), a)
	refused(t, a, a)
	refused(t, wantDrop("t"))
	refused(t, a, wantDrop("u"))
	refused(t, a, wantDrop("t"), wantDrop("t"))
	refused(t, wantDrop(""))
	var eight []string
	for i := range api.MaxTables {
		eight = append(eight, wantTable(shape(string('a'+rune(i)))))
	}
	accepted(t, eight...)
	refused(t, append(slices.Clone(eight), a)...)
	accepted(t, append(slices.Clone(eight), wantDrop("c"), a)...)
	for _, x := range []api.Schema{{}, shape("T"), shape("table"), shape(""), {Name: "t"}, {Name: "t", Cols: shape("t").Cols, Key: 3}, {Name: "t", Cols: shape("t").Cols, Key: 1}} {
		refused(t, wantTable(x))
	}
	refused(t, "\x01"+textBytes(""))
	refused(t, "\x01"+textBytes(string(a[3:])+"\x00"))
	refused(t, a[:1]+a[3:])
}

// steps is a log of a table t, of one, o, to which rows are added alone, and of transactions, all of whose sums are right; no block is closed by them.
func steps(txs ...api.Tx) []string {
	l := []string{wantTable(shape("t")), wantTable(only("o"))}
	for _, x := range txs {
		l = append(l, wantTx(x)+"\x00")
	}
	return l
}

func came(name string, r ...api.Value) api.Change {
	return api.Change{Table: name, Op: api.Put, Row: r}
}

func went(name string, r ...api.Value) api.Change {
	return api.Change{Table: name, Op: api.Take, Row: r}
}

// TestP1601Changes: what table.Put or Take refuse, a Take of a table that says Only, or of another row than stood there.
func TestP1601Changes(t *testing.T) {
	a, b := line(1, "a"), line(2, "b")
	first := api.Tx{Changes: []api.Change{came("t", a...), came("o", a...)}}
	second := func(c ...api.Change) []string { return steps(first, api.Tx{Id: 1, Changes: c}) }
	accepted(t, steps(first)...)
	for _, c := range [][]api.Change{
		{came("t", b...)}, {went("t", a...)}, {came("o", b...)},
		{went("t", a...), came("t", a...)}, {went("t", a...), came("t", line(1, "other")...), went("t", line(1, "other")...)},
		{came("t", b...), went("t", b...), went("t", a...)},
	} {
		accepted(t, second(c...)...)
	}
	for _, c := range [][]api.Change{
		{came("t", a...)}, {came("t", line(1, "other")...)}, {came("o", a...)},
		{came("u", b...)}, {came("", b...)}, {came("T", b...)}, {came("tt", b...)}, {went("u", a...)},
		{came("t")}, {came("t", b[:2]...)}, {came("t", append(b, api.Value{})...)}, {came("t", api.Value{}, text(""), api.Value{})}, {came("t", text("2"), text(""), api.Value{})}, {came("t", number(2), number(2), api.Value{})},
		{went("t", b...)}, {went("t")}, {went("t", a[:1]...)}, {went("t", a[:2]...)}, {went("t", append(a, api.Value{})...)}, {went("t", line(1, "b")...)}, {went("t", number(1), api.Value{}, api.Value{})}, {went("t", number(1), text("a"), truth(0))},
		{went("t", api.Value{}, text("a"), api.Value{})}, {went("t", text("1"), text("a"), api.Value{})}, {went("t", truth(1), text("a"), api.Value{})},
		{went("o", a...)}, {came("o", b...), went("o", b...)},
		{went("t", a...), went("t", a...)}, {came("t", b...), came("t", b...)}, {came("t", b...), came("t", a...)},
		{{Table: "t", Row: b}, came("t", b...)}, {{Table: "t", Op: 3, Row: b}}, {{Table: "t", Op: 255, Row: b}},
	} {
		refused(t, second(c...)...)
	}
}

// TestP1601ByText: the key need not be the first column.
func TestP1601ByText(t *testing.T) {
	a := line(1, "a")
	log := func(c ...api.Change) []string {
		return []string{wantTable(byText("t")), wantTx(api.Tx{Changes: append([]api.Change{came("t", a...)}, c...)}) + "\x00"}
	}
	accepted(t, log(came("t", line(1, "b")...), went("t", a...))...)
	refused(t, log(came("t", line(2, "a")...))...)
	refused(t, log(went("t", line(2, "a")...))...)
	refused(t, log(went("t", a[:1]...))...)
	refused(t, log(went("t"))...)
}

// TestP1601Many: a table has at most 200 rows, but a record may have more changes than a session.
func TestP1601Many(t *testing.T) {
	var all []api.Change
	for k := range api.MaxRows + 1 {
		all = append(all, came("t", line(k, "")...))
	}
	for _, n := range []int{1, api.MaxChange, api.MaxChange + 1, api.MaxRows} {
		accepted(t, steps(api.Tx{Changes: all[:n]})...)
	}
	refused(t, steps(api.Tx{Changes: all})...)
	refused(t, steps(api.Tx{Changes: all[:200]}, api.Tx{Id: 1, Changes: all[200:]})...)
	there := slices.Concat(all[:100], slices.Repeat([]api.Change{went("t", line(0, "")...), all[0]}, 77), []api.Change{went("t", line(0, "")...)})
	if len(there) != 255 {
		t.Fatal(len(there))
	}
	accepted(t, steps(api.Tx{Changes: there})...)
}

// TestP1601Ids: an Id is the ledger's next one.
func TestP1601Ids(t *testing.T) {
	tx := func(id, key int) api.Tx { return api.Tx{Id: id, Changes: []api.Change{came("t", line(key, "")...)}} }
	accepted(t, steps(tx(0, 1), tx(1, 2), tx(2, 3))...)
	for _, id := range []int{math.MinInt, -1, 1, 2, 255, 256, 1 << 32, math.MaxInt} {
		refused(t, steps(tx(id, 1))...)
		refused(t, steps(tx(0, 1), tx(id+1, 2))...)
	}
	refused(t, steps(tx(0, 1), tx(0, 2))...)
}

// TestP1601Sums: a change's sum, a transaction's root are theirs, at that place, of that Id.
func TestP1601Sums(t *testing.T) {
	c := []api.Change{came("t", line(1, "a")...), came("t", line(2, "b")...)}
	tx := api.Tx{Changes: c}
	record := func(one, two, root api.Hash) []string {
		return append(steps(), "\x03"+numberBytes(0)+"\x02"+wantChange(c[0], one)+wantChange(c[1], two)+hashBytes(root)+"\x00")
	}
	one, two, root := ledger.Row(0, 0, c[0]), ledger.Row(0, 1, c[1]), ledger.Root(tx)
	accepted(t, record(one, two, root)...)
	refused(t, record(two, one, root)...)
	refused(t, record(ledger.Row(1, 0, c[0]), two, root)...)
	refused(t, record(ledger.Row(0, 1, c[0]), two, root)...)
	refused(t, record(one, ledger.Row(0, 0, c[1]), root)...)
	refused(t, record(api.Hash{}, two, root)...)
	refused(t, record(one, two, api.Hash{})...)
	refused(t, record(one, two, ledger.Entry(tx))...)
	refused(t, record(one, two, ledger.Root(api.Tx{Id: 1, Changes: c}))...)
	refused(t, record(one, two, ledger.Root(api.Tx{Changes: c[:1]}))...)
}

// TestP1601Closes: the fourth transaction in none closes a block, and says its sum; no other one does.
func TestP1601Closes(t *testing.T) {
	var l ledger.Ledger
	var log []string
	for k := range 9 {
		next, tx := ledger.Add(l, []api.Change{came("t", line(k, "")...)})
		b := wantTx(tx)
		ahead := append(steps(), log...)
		if len(next.Blocks) == len(l.Blocks) {
			log = append(log, b+"\x00")
			refused(t, append(ahead, b+"\x01"+hashBytes(api.Hash{}))...)
			closed, _ := ledger.Close(next)
			refused(t, append(ahead, b+"\x01"+hashBytes(ledger.Hash(closed.Blocks[len(closed.Blocks)-1])))...)
			refused(t, append(ahead, b+"\x01")...)
			refused(t, append(ahead, b+"\x02")...)
			refused(t, append(ahead, b+"\xff")...)
		} else {
			sum := hashBytes(ledger.Hash(next.Blocks[len(l.Blocks)]))
			log = append(log, b+"\x01"+sum)
			refused(t, append(ahead, b+"\x00")...)
			refused(t, append(ahead, b+"\x00"+sum)...)
			refused(t, append(ahead, b+"\x02"+sum)...)
			refused(t, append(ahead, b+"\x01"+sum[1:])...)
			refused(t, append(ahead, b+"\x01"+hashBytes(api.Hash{}))...)
		}
		accepted(t, append(steps(), log...)...)
		l = next
	}
	if len(l.Blocks) != 2 || len(l.Open) != 1 {
		t.Errorf("%+v", l)
	}
}

// TestP1601Blocks: a block that is closed has transactions, and says the next number and its sum.
func TestP1601Blocks(t *testing.T) {
	refused(t, wantBlock(1, api.Hash{}))
	refused(t, wantBlock(0, api.Hash{}))
	tx := func(id int) api.Tx { return api.Tx{Id: id, Changes: []api.Change{came("t", line(id, "")...)}} }
	l, _ := ledger.Add(ledger.Ledger{}, tx(0).Changes)
	l, _ = ledger.Close(l)
	one := ledger.Hash(l.Blocks[0])
	ahead := steps(tx(0))
	accepted(t, append(ahead, wantBlock(1, one))...)
	for _, n := range []int{math.MinInt, -1, 0, 2, 257, math.MaxInt} {
		refused(t, append(ahead, wantBlock(n, one))...)
	}
	refused(t, append(ahead, wantBlock(1, api.Hash{}))...)
	refused(t, append(ahead, wantBlock(1, l.Blocks[0].Root))...)
	ahead = append(ahead, wantBlock(1, one))
	refused(t, append(ahead, wantBlock(1, one))...)
	refused(t, append(ahead, wantBlock(2, one))...)
	ahead = append(ahead, wantTx(tx(1))+"\x00")
	l, _ = ledger.Add(l, tx(1).Changes)
	l, _ = ledger.Close(l)
	accepted(t, append(ahead, wantBlock(2, ledger.Hash(l.Blocks[1])))...)
	refused(t, append(ahead, wantBlock(2, one))...)
	refused(t, append(ahead, wantBlock(1, ledger.Hash(l.Blocks[1])))...)
}

// TestP1601ByChance: logs of records that are laid out, doubled, left out, mixed, put together of parts.
func TestP1601ByChance(t *testing.T) {
	source := rand.New(rand.NewSource(16))
	_, d := filled(t)
	records := recordsOf(t, d)
	var fine int
	for range 3000 {
		l := slices.Clone(records[:1+source.Intn(len(records))])
		for range 1 + source.Intn(2) {
			i, j := source.Intn(len(l)), source.Intn(len(l))
			switch source.Intn(5) {
			case 0:
				l[i], l[j] = l[j], l[i]
			case 1:
				l = slices.Insert(l, i, records[source.Intn(len(records))])
			case 2:
				l = slices.Delete(l, i, i+1)
			case 3:
				a, b := source.Intn(len(l[i])+1), source.Intn(len(l[j])+1)
				l[i] = l[i][:a] + l[j][b:]
			case 4:
				b := []byte(l[i])
				if len(b) > 0 {
					b[source.Intn(min(len(b), 40))] += byte(1 + source.Intn(3))
				}
				l[i] = string(b)
			}
			if len(l) == 0 {
				break
			}
		}
		if does(t, l) {
			fine++
		}
	}
	if fine == 0 {
		t.Error("all were refused")
	}
}
