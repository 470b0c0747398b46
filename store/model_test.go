package store

import (
	"encoding/binary"
	"fmt"
	"math/rand"
	"slices"
	"testing"

	"ledgerline/api"
	"ledgerline/disk"
	"ledgerline/ledger"
	"ledgerline/row"
	"ledgerline/schema"
	"ledgerline/table"
	"ledgerline/txn"
	"ledgerline/wal"
)

// The document's words (chapter 16), over the faces of the layers below: records as they are written, what Open asks of them one by one, and what each call does.

func numberBytes(n int) string {
	return string(binary.LittleEndian.AppendUint64(nil, uint64(n)))
}

func textBytes(s string) string {
	return string(binary.LittleEndian.AppendUint16(nil, uint16(len(s)))) + s
}

func hashBytes(h api.Hash) string { return string(h[:]) }

func wantTable(x api.Schema) string {
	return "\x01" + textBytes(string(schema.Bytes(x)))
}

func wantDrop(name string) string { return "\x02" + textBytes(name) }

// wantChange is what a record says of a change, with any sum.
func wantChange(c api.Change, sum api.Hash) string {
	return string([]byte{byte(c.Op)}) + textBytes(c.Table) + textBytes(string(row.Bytes(c.Row))) + hashBytes(sum)
}

// wantTx is a transaction's record up to where it says whether it closes a block.
func wantTx(t api.Tx) string {
	b := "\x03" + numberBytes(t.Id) + string([]byte{byte(len(t.Changes))})
	for i, c := range t.Changes {
		b += wantChange(c, ledger.Row(t.Id, i, c))
	}
	return b + hashBytes(ledger.Root(t))
}

func wantBlock(n int, h api.Hash) string {
	return "\x04" + numberBytes(n) + hashBytes(h)
}

// cursor reads from the front; short: bytes lacked.
type cursor struct {
	rest  string
	short bool
}

func (c *cursor) take(n int) string {
	if n > len(c.rest) {
		c.short, c.rest = true, ""
		return string(make([]byte, n))
	}
	b := c.rest[:n]
	c.rest = c.rest[n:]
	return b
}

func (c *cursor) number() int { return int(binary.LittleEndian.Uint64([]byte(c.take(8)))) }

func (c *cursor) byte() int { return int(c.take(1)[0]) }

func (c *cursor) text() string { return c.take(int(binary.LittleEndian.Uint16([]byte(c.take(2))))) }

func (c *cursor) hash() api.Hash { return api.Hash([]byte(c.take(32))) }

func (c *cursor) whole() bool { return !c.short && c.rest == "" }

// words are what a store is to be: all that it answers, and the records of its log.
type words struct {
	db      txn.DB
	ledger  ledger.Ledger
	records []string
	room    int // bytes that the log has for more
}

// wantOpen does records one by one; false: ErrBad.
func wantOpen(records []string) (*words, bool) {
	w := &words{}
	for _, b := range records {
		if !w.redo(b) {
			return nil, false
		}
		w.records = append(w.records, b)
	}
	return w, true
}

func (w *words) redo(record string) bool {
	c := &cursor{rest: record}
	switch c.byte() {
	case 1:
		b := c.text()
		x, e := schema.Parse([]byte(b))
		if !c.whole() || e != api.OK {
			return false
		}
		w.db, e = txn.Create(w.db, x)
		return e == api.OK
	case 2:
		name := c.text()
		if !c.whole() {
			return false
		}
		var e api.Errno
		w.db, e = txn.Drop(w.db, name)
		return e == api.OK
	case 3:
		return w.redoTx(c)
	case 4:
		n, h := c.number(), c.hash()
		if !c.whole() {
			return false
		}
		l, e := ledger.Close(w.ledger)
		w.ledger = l
		return e == api.OK && n == len(l.Blocks) && h == ledger.Hash(l.Blocks[n-1])
	}
	return false
}

func (w *words) redoTx(c *cursor) bool {
	t := api.Tx{Id: c.number()}
	var sums []api.Hash
	for range c.byte() {
		op, name, b := c.byte(), c.text(), c.text()
		r, e := row.Parse([]byte(b))
		if e != api.OK || op != api.Put && op != api.Take {
			return false
		}
		t.Changes = append(t.Changes, api.Change{Table: name, Op: op, Row: r})
		sums = append(sums, c.hash())
	}
	root, closes := c.hash(), c.byte()
	var h api.Hash
	if closes == 1 {
		h = c.hash()
	}
	if !c.whole() || closes > 1 || t.Id != w.ledger.Next || root != ledger.Root(t) {
		return false
	}
	for i, x := range t.Changes {
		if sums[i] != ledger.Row(t.Id, i, x) || !w.redoChange(x) {
			return false
		}
	}
	was := len(w.ledger.Blocks)
	w.ledger, _ = ledger.Add(w.ledger, t.Changes)
	if closes == 0 {
		return len(w.ledger.Blocks) == was
	}
	return len(w.ledger.Blocks) == was+1 && h == ledger.Hash(w.ledger.Blocks[was])
}

func (w *words) redoChange(c api.Change) bool {
	for i, x := range w.db.Tables {
		if x.S.Name != c.Table {
			continue
		}
		if c.Op == api.Put {
			next, e := table.Put(x, c.Row)
			w.db.Tables[i] = next
			return e == api.OK
		}
		if x.S.Only || len(c.Row) <= x.S.Key {
			return false
		}
		next, r, e := table.Take(x, c.Row[x.S.Key])
		w.db.Tables[i] = next
		return e == api.OK && row.Same(r, c.Row)
	}
	return false
}

// append is the log's: ErrFull, if there is no room.
func (w *words) append(record string) api.Errno {
	if 8+len(record) > w.room {
		return api.ErrFull
	}
	w.room -= 8 + len(record)
	w.records = append(w.records, record)
	return api.OK
}

func (w *words) create(x api.Schema) api.Errno {
	next, e := txn.Create(w.db, x)
	if e != api.OK {
		return e
	}
	if e := w.append(wantTable(x)); e != api.OK {
		return e
	}
	w.db = next
	return api.OK
}

func (w *words) drop(name string) api.Errno {
	next, e := txn.Drop(w.db, name)
	if e != api.OK {
		return e
	}
	if e := w.append(wantDrop(name)); e != api.OK {
		return e
	}
	w.db = next
	return api.OK
}

func (w *words) commit(session int) (int, api.Errno) {
	db, changes, e := txn.Commit(w.db, session)
	if e != api.OK {
		return 0, e
	}
	if len(changes) == 0 {
		w.db = db
		return -1, api.OK
	}
	l, t := ledger.Add(w.ledger, changes)
	record := wantTx(t)
	if n := len(w.ledger.Blocks); len(l.Blocks) > n {
		record += "\x01" + hashBytes(ledger.Hash(l.Blocks[n]))
	} else {
		record += "\x00"
	}
	if e := w.append(record); e != api.OK {
		w.db, _ = txn.Rollback(w.db, session)
		return 0, e
	}
	w.db, w.ledger = db, l
	return t.Id, api.OK
}

func (w *words) digest() (api.Digest, api.Errno) {
	if len(w.ledger.Open) > 0 {
		l, _ := ledger.Close(w.ledger)
		n := len(l.Blocks)
		if e := w.append(wantBlock(n, ledger.Hash(l.Blocks[n-1]))); e != api.OK {
			return api.Digest{}, e
		}
		w.ledger = l
	}
	return ledger.Digest(w.ledger)
}

// stays is the DB without what is at work.
func (w *words) stays() txn.DB {
	db := w.db
	for _, x := range w.db.Works {
		db, _ = txn.Rollback(db, x.S)
	}
	return db
}

// show writes anything out: a list that is nil as one that is empty.
func show(x any) string { return fmt.Sprintf("%+v", x) }

// is holds all that a store answers, and its disk's records, against the words.
func is(t *testing.T, s *Store, d *disk.Disk, w *words) {
	t.Helper()
	if got, want := show(s.DB()), show(w.db); got != want {
		t.Fatalf("DB: %s, not %s", got, want)
	}
	if got, want := show(s.Ledger()), show(w.ledger); got != want {
		t.Fatalf("Ledger: %s, not %s", got, want)
	}
	if d.Dead() {
		return
	}
	if got := recordsOf(t, d); !slices.Equal(got, w.records) {
		t.Fatalf("records: %x, not %x", got, w.records)
	}
}

// opens opens a disk anew, and holds the store against what is to stay.
func opens(t *testing.T, d *disk.Disk, w *words) *Store {
	t.Helper()
	s, e := Open(d)
	if e != api.OK {
		t.Fatalf("Open: %v", e)
	}
	is(t, s, d, &words{db: w.stays(), ledger: w.ledger, records: w.records})
	return s
}

func recordsOf(t *testing.T, d *disk.Disk) []string {
	t.Helper()
	_, l, e := wal.Open(d)
	if e != api.OK {
		t.Fatalf("wal.Open: %v", e)
	}
	var all []string
	for _, b := range l {
		all = append(all, string(b))
	}
	return all
}

func blank(t *testing.T, pages int) *disk.Disk {
	t.Helper()
	d, e := disk.New(pages)
	if e != api.OK {
		t.Fatal(e)
	}
	return d
}

// logged is a disk whose log has these records.
func logged(t *testing.T, records ...string) *disk.Disk {
	t.Helper()
	room := 0
	for _, b := range records {
		room += 8 + len(b)
	}
	d := blank(t, 2+room/api.Page)
	l, _, e := wal.Open(d)
	for _, b := range records {
		if e == api.OK {
			e = l.Append([]byte(b))
		}
	}
	if e != api.OK {
		t.Fatal(e)
	}
	return d
}

// does opens a log of these records, and holds what is answered against the words.
func does(t *testing.T, records []string) bool {
	t.Helper()
	d := logged(t, records...)
	s, e := Open(d)
	w, ok := wantOpen(records)
	switch {
	case ok && e == api.OK:
		is(t, s, d, w)
	case ok || e != api.ErrBad || s != nil:
		t.Fatalf("Open of %q: %v, %v; by the words %v", records, s, e, ok)
	}
	return ok
}

// Drawn things; each source draws the same ones always.

func number(n int) api.Value { return api.Value{Kind: api.Int, N: n} }

func truth(n int) api.Value { return api.Value{Kind: api.Bool, N: n} }

func text(s string) api.Value { return api.Value{Kind: api.Text, S: s} }

// line is a row that fits each of shapes.
func line(key int, s string) []api.Value {
	return []api.Value{number(key), text(s), {}}
}

// shape is a table's; the names of which shapes there are tell them apart.
func shape(name string) api.Schema {
	return api.Schema{Name: name, Cols: []api.Col{{Name: "k", Kind: api.Int}, {Name: "v", Kind: api.Text, Null: true}, {Name: "b", Kind: api.Bool, Null: true}}}
}

func only(name string) api.Schema {
	x := shape(name)
	x.Only = true
	return x
}

// byText is a table whose rows are told apart by their second column.
func byText(name string) api.Schema {
	x := shape(name)
	x.Cols[1].Null = false
	x.Key = 1
	return x
}

func drawnShape(source *rand.Rand) api.Schema {
	name := []string{"a", "b", "c", "d", "e", "f", "g", "h", "i", "j", "A", "table"}[source.Intn(12)]
	switch source.Intn(5) {
	case 0:
		return only(name)
	case 1:
		return byText(name)
	}
	return shape(name)
}

func drawnRow(source *rand.Rand) []api.Value {
	r := line(source.Intn(8), string("xyz'\x00"[source.Intn(5)]))
	switch source.Intn(6) {
	case 0:
		r[1] = api.Value{}
	case 1:
		r[2] = truth(source.Intn(2))
	case 2:
		r[source.Intn(3)] = number(source.Intn(1000) - 500) // it need not fit
	}
	return r
}

// run is a store that calls go on with by chance, and its words.
type run struct {
	s       *Store
	d       *disk.Disk
	w       *words
	digests []api.Digest
}

func begun(t *testing.T, pages int) *run {
	t.Helper()
	d := blank(t, pages)
	s, e := Open(d)
	if e != api.OK {
		t.Fatalf("Open: %v", e)
	}
	return &run{s: s, d: d, w: &words{room: (pages - 1) * api.Page}}
}

// session lets a session go on: what is at work comes to the store by Set alone.
func (x *run) session(source *rand.Rand) {
	n, name := source.Intn(4), string('a'+rune(source.Intn(10)))
	if tables := x.w.db.Tables; len(tables) > 0 && source.Intn(8) > 0 {
		name = tables[source.Intn(len(tables))].S.Name
	}
	db := x.s.DB()
	switch source.Intn(12) {
	case 0, 1:
		db, _ = txn.Begin(db, n)
	case 2:
		db, _, _ = txn.Rows(db, n, name)
	case 3, 4:
		r := drawnRow(source)
		db, _ = txn.Take(db, n, name, r[source.Intn(2)])
	case 5:
		db, _ = txn.Save(db, n, "m")
	case 6:
		db, _ = txn.Back(db, n, "m")
	case 7:
		if source.Intn(3) == 0 {
			db, _ = txn.Rollback(db, n)
		}
	default:
		db, _ = txn.Put(db, n, name, drawnRow(source))
	}
	x.s.Set(db)
	x.w.db = db
}

// call is one of the store's own calls: what it answers, and what the words do; both are told as text.
type call struct {
	name string
	do   func(s *Store) string
	want func(w *words) string
}

func answer(x any, e api.Errno) string { return fmt.Sprintf("%+v, %v", x, e) }

func creates(x api.Schema) call {
	return call{"create " + x.Name, func(s *Store) string { return answer("", s.Create(x)) }, func(w *words) string { return answer("", w.create(x)) }}
}

func drops(name string) call {
	return call{"drop " + name, func(s *Store) string { return answer("", s.Drop(name)) }, func(w *words) string { return answer("", w.drop(name)) }}
}

func commits(session int) call {
	return call{fmt.Sprint("commit ", session), func(s *Store) string { return answer(s.Commit(session)) }, func(w *words) string { return answer(w.commit(session)) }}
}

func digests() call {
	return call{"digest", func(s *Store) string { return answer(s.Digest()) }, func(w *words) string { return answer(w.digest()) }}
}

func drawnCall(source *rand.Rand, w *words) call {
	switch n := source.Intn(12); {
	case n < 2:
		return creates(drawnShape(source))
	case n < 3:
		return drops(string('a' + rune(source.Intn(10))))
	case n < 4:
		return digests()
	}
	if works := w.db.Works; len(works) > 0 && source.Intn(10) > 0 {
		return commits(works[source.Intn(len(works))].S)
	}
	return commits(source.Intn(9) - 1)
}

// calls makes a call, and holds what is answered and what is then against the words.
func (x *run) calls(t *testing.T, c call) {
	t.Helper()
	if got, want := c.do(x.s), c.want(x.w); got != want {
		t.Fatalf("%s: %s, not %s", c.name, got, want)
	}
	is(t, x.s, x.d, x.w)
	x.keep(t)
}

// keep keeps the digest that is to be had, and holds all that were kept against the blocks.
func (x *run) keep(t *testing.T) {
	t.Helper()
	if d, e := ledger.Digest(x.w.ledger); e == api.OK {
		x.digests = append(x.digests, d)
	}
	fits(t, x.s, x.digests)
}

// fits holds digests that were handed out against a store's blocks.
func fits(t *testing.T, s *Store, digests []api.Digest) {
	t.Helper()
	blocks := s.Ledger().Blocks
	for _, d := range digests {
		if d.Block < 1 || d.Block > len(blocks) || ledger.Hash(blocks[d.Block-1]) != d.Hash {
			t.Fatalf("%+v does not fit %+v", d, blocks)
		}
	}
}

// copied is the words as they are now: calls that go on with the one leave the other as it is.
func (w *words) copied() *words {
	next := *w
	next.records = slices.Clone(w.records)
	return &next
}
