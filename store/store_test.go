package store

import (
	"fmt"
	"math"
	"math/rand"
	"slices"
	"strings"
	"testing"

	"ledgerline/api"
	"ledgerline/ledger"
	"ledgerline/row"
	"ledgerline/txn"
)

// TestP1601Set: what is laid is the DB, with all that is at work; nothing of that stands in the log.
func TestP1601Set(t *testing.T) {
	s, d := fresh(t, 64)
	ok(t, s.Create(shape("t")))
	was := recordsOf(t, d)
	db, e := txn.Begin(s.DB(), 3)
	ok(t, e)
	s.Set(db)
	if got := s.DB(); !txn.Same(got, db) || len(got.Works) != 1 {
		t.Errorf("%+v", got)
	}
	db, e = txn.Put(db, 3, "t", line(1, "a"))
	ok(t, e)
	db, e = txn.Save(db, 3, "m")
	ok(t, e)
	db, e = txn.Begin(db, 4)
	ok(t, e)
	db, _, e = txn.Rows(db, 4, "t")
	if e != api.ErrWait {
		t.Fatal(e)
	}
	s.Set(db)
	if got := s.DB(); !txn.Same(got, db) || len(got.L.Waits) != 1 {
		t.Errorf("%+v", got)
	}
	if got := recordsOf(t, d); !slices.Equal(got, was) || !ledger.Same(s.Ledger(), ledger.Ledger{}) {
		t.Errorf("Set changed the log, or the ledger: %q", got)
	}
	y, e := Open(d)
	ok(t, e)
	if got := y.DB(); len(got.Works) != 0 || len(got.Tables[0].Rows) != 0 || len(got.L.Holds) != 0 {
		t.Errorf("what is at work stayed: %+v", got)
	}
}

func TestP1602Create(t *testing.T) {
	x := begun(t, 64)
	for _, s := range []api.Schema{shape("t"), shape("t"), only("t"), shape("T"), {Name: "u"}, {Name: "u", Cols: shape("u").Cols, Key: 3}, {Name: "u", Cols: shape("u").Cols, Key: 1}, only("u"), byText("a")} {
		x.calls(t, creates(s))
		opens(t, x.d, x.w)
	}
	for i := range 6 {
		x.calls(t, creates(shape(fmt.Sprint("x", i))))
	}
	if len(x.w.db.Tables) != api.MaxTables || x.s.Create(shape("y")) != api.ErrMany || x.s.Create(shape("t")) != api.ErrIs {
		t.Errorf("%+v", x.w.db)
	}
	x.calls(t, drops("a"))
	puts(t, x.s, 0, "t", line(1, ""))
	x.w.db = x.s.DB()
	x.calls(t, creates(shape("y")))
	if x.s.Create(shape("y")) != api.ErrBusy || x.s.Create(shape("t")) != api.ErrIs || x.s.Create(api.Schema{}) != api.ErrName {
		t.Error("not as txn.Create has it")
	}
	x.calls(t, commits(0))
	x.calls(t, creates(shape("y")))
	opens(t, x.d, x.w)
}

func TestP1602Drop(t *testing.T) {
	x := begun(t, 64)
	for _, name := range []string{"t", "", "T", "table"} {
		if e := x.s.Drop(name); e != api.ErrNone {
			t.Errorf("%q: %v", name, e)
		}
	}
	x.calls(t, creates(shape("t")))
	x.calls(t, creates(shape("u")))
	puts(t, x.s, 7, "t", line(1, ""))
	x.w.db = x.s.DB()
	for _, name := range []string{"t", "u", "v"} {
		x.calls(t, drops(name))
	}
	if x.s.Drop("t") != api.ErrBusy || x.s.Drop("v") != api.ErrNone {
		t.Error("not as txn.Drop has it")
	}
	x.calls(t, commits(7))
	x.calls(t, drops("t"))
	opens(t, x.d, x.w)
	x.calls(t, drops("t"))
	x.calls(t, creates(only("t")))
	opens(t, x.d, x.w)
	if got := x.s.DB().Tables; len(got) != 2 || len(got[0].Rows) != 0 || !got[0].S.Only {
		t.Errorf("%+v", got)
	}
}

// TestP1602NotAtWork: no number of a session that is not at work can be committed.
func TestP1602NotAtWork(t *testing.T) {
	s, d := filled(t)
	puts(t, s, 6, "t", line(60, ""))
	was, records := s.DB(), recordsOf(t, d)
	for _, n := range []int{math.MinInt, -2, -1, 0, 1, 5, 7, 8, 9, 1 << 32, math.MaxInt} {
		if tx, e := s.Commit(n); tx != 0 || e != api.ErrNone {
			t.Errorf("%d: %d, %v", n, tx, e)
		}
	}
	if !txn.Same(s.DB(), was) || !slices.Equal(recordsOf(t, d), records) {
		t.Error("something was done")
	}
	done(t, s, 6, 6)
	if tx, e := s.Commit(6); tx != 0 || e != api.ErrNone {
		t.Errorf("%d, %v", tx, e)
	}
}

// TestP1602WithoutChanges: a session that changed nothing, or nothing that it did not undo, leaves no record, but ends.
func TestP1602WithoutChanges(t *testing.T) {
	s, d := filled(t)
	records, l := recordsOf(t, d), s.Ledger()
	rows := len(s.DB().Tables[1].Rows)
	db, e := txn.Begin(s.DB(), 0)
	ok(t, e)
	s.Set(db)
	done(t, s, 0, -1)
	db, e = txn.Begin(db, 1)
	ok(t, e)
	db, e = txn.Save(db, 1, "m")
	ok(t, e)
	db, e = txn.Put(db, 1, "t", line(90, ""))
	ok(t, e)
	db, e = txn.Back(db, 1, "m")
	ok(t, e)
	db, _, e = txn.Rows(db, 1, "o")
	ok(t, e)
	s.Set(db)
	done(t, s, 1, -1)
	got := s.DB()
	if len(got.Works) != 1 || got.Works[0].S != 0 || len(got.L.Holds) != 0 || len(got.Tables[1].Rows) != rows {
		t.Errorf("%+v", got)
	}
	d.Stop(1)
	done(t, s, 0, -1)
	if d.Dead() || !ledger.Same(s.Ledger(), l) || !slices.Equal(recordsOf(t, d), records) {
		t.Error("something was written")
	}
}

// TestP1602Ids: transactions are numbered as they are committed, whichever sessions they are of.
func TestP1602Ids(t *testing.T) {
	s, d := fresh(t, 64)
	ok(t, s.Create(shape("a")))
	ok(t, s.Create(shape("b")))
	ok(t, s.Create(shape("c")))
	puts(t, s, 2, "a", line(1, "first begun"))
	puts(t, s, 1, "b", line(1, ""), line(2, ""))
	puts(t, s, 7, "c", line(1, ""))
	done(t, s, 7, 0)
	puts(t, s, 7, "c", line(2, ""))
	done(t, s, 1, 1)
	done(t, s, 2, 2)
	done(t, s, 7, 3)
	l := s.Ledger()
	if len(l.Blocks) != 1 || len(l.Open) != 0 || l.Next != 4 {
		t.Fatalf("%+v", l)
	}
	for i, want := range []api.Change{came("c", line(1, "")...), came("b", line(1, "")...), came("a", line(1, "first begun")...), came("c", line(2, "")...)} {
		x := l.Txs[0][i]
		if c := x.Changes[0]; x.Id != i || c.Table != want.Table || c.Op != want.Op || !row.Same(c.Row, want.Row) {
			t.Errorf("%d: %+v", i, x)
		}
	}
	w, _ := wantOpen(recordsOf(t, d))
	opens(t, d, w)
}

// TestP1602Greatest: a transaction of as many changes as there may be, of rows as great as there may be.
func TestP1602Greatest(t *testing.T) {
	x := api.Schema{Name: "abcdefghijkl"}
	r := []api.Value{number(0)}
	for i := range api.MaxCols {
		x.Cols = append(x.Cols, api.Col{Name: fmt.Sprint("column_", i), Kind: api.Text})
		r = append(r[:i], text(strings.Repeat("\x00", api.MaxText)), text(""))
	}
	x.Cols[0].Kind, r = api.Int, r[:api.MaxCols]
	s, d := fresh(t, 1000)
	ok(t, s.Create(x))
	for id := range 2 {
		for k := range api.MaxChange {
			r[0] = number(1000*id - k)
			puts(t, s, 1, x.Name, r)
		}
		done(t, s, 1, id)
	}
	w, is := wantOpen(recordsOf(t, d))
	if !is || len(w.db.Tables[0].Rows) != 2*api.MaxChange {
		t.Fatal("not what was committed")
	}
	opens(t, d, w)
}

func TestP1602Digest(t *testing.T) {
	x := begun(t, 64)
	x.calls(t, digests())
	x.calls(t, creates(shape("t")))
	x.calls(t, digests())
	for k := range 11 {
		puts(t, x.s, 0, "t", line(k, ""))
		x.w.db = x.s.DB()
		x.calls(t, commits(0))
		if k == 0 || k == 2 || k == 6 {
			records := len(x.w.records)
			x.calls(t, digests())
			x.calls(t, digests())
			if more := len(x.w.records) - records; more != 1 && k != 6 || more != 0 && k == 6 {
				t.Errorf("%d: %d records more", k, more)
			}
		}
		opens(t, x.d, x.w)
	}
	var counts []int
	for _, b := range x.w.ledger.Blocks {
		counts = append(counts, b.Count)
	}
	if !slices.Equal(counts, []int{1, 2, 4, 4}) {
		t.Errorf("%v", counts)
	}
	// while a session is at work, too: it goes on as it was
	puts(t, x.s, 0, "t", line(50, ""))
	done(t, x.s, 0, 11)
	puts(t, x.s, 3, "t", line(60, ""))
	was := x.s.DB()
	if d, e := x.s.Digest(); e != api.OK || d.Block != 5 || !txn.Same(x.s.DB(), was) {
		t.Errorf("%+v, %v", d, e)
	}
	done(t, x.s, 3, 12)
}

// TestP1602ByChance: whatever calls come, all is as the words say, and what is opened anew, what stays of it.
func TestP1602ByChance(t *testing.T) {
	source := rand.New(rand.NewSource(1602))
	answers := make(map[string]int)
	for range 60 {
		x := begun(t, []int{8, 30, 60, 200}[source.Intn(4)])
		for range 3 {
			x.calls(t, creates(drawnShape(source)))
		}
		for range 200 {
			if source.Intn(4) > 0 {
				x.session(source)
				continue
			}
			c := drawnCall(source, x.w)
			before := len(x.w.ledger.Blocks)
			x.calls(t, c)
			if len(x.w.ledger.Blocks) > before {
				answers["block"]++
			}
			if source.Intn(4) == 0 {
				opens(t, x.d, x.w)
			}
		}
		opens(t, x.d, x.w)
		answers["transactions"] += x.w.ledger.Next
		answers["rows"] += strings.Count(show(x.w.stays().Tables), "Kind:2")
	}
	if answers["block"] < 20 || answers["transactions"] < 100 || answers["rows"] < 100 {
		t.Errorf("little was tried: %v", answers)
	}
}

// TestP1602Full: wherever the log has no room any more, nothing is done, and the session is taken back.
func TestP1602Full(t *testing.T) {
	met := make(map[string]int)
	for pages := 2; pages < 40; pages++ {
		x := begun(t, pages)
		calls := func(c call) {
			t.Helper()
			records := len(x.w.records)
			want := c.want(x.w.copied())
			x.calls(t, c)
			if strings.HasSuffix(want, api.ErrFull.Error()) {
				met[strings.Fields(c.name)[0]]++
				if len(x.w.records) != records {
					t.Fatal("a record was written")
				}
			}
		}
		calls(creates(shape("t")))
		for k := range 20 {
			if len(x.w.db.Tables) == 0 {
				break
			}
			puts(t, x.s, 1, "t", line(k, "the text of a row"))
			x.w.db = x.s.DB()
			calls(commits(1))
			if k%3 == 1 {
				calls(digests())
			}
			calls(creates(only("o")))
			if k%2 == 1 {
				calls(drops("o"))
			}
		}
		opens(t, x.d, x.w)
	}
	for _, name := range []string{"create", "drop", "commit", "digest"} {
		if met[name] == 0 {
			t.Errorf("no %s met a full log: %v", name, met)
		}
	}
}

// TestP1602FullTakenBack: whose transaction does not come into the log loses its rows and its locks, and nobody else does.
func TestP1602FullTakenBack(t *testing.T) {
	s, d := fresh(t, 4)
	ok(t, s.Create(shape("t")))
	ok(t, s.Create(shape("u")))
	puts(t, s, 1, "t", line(1, ""), line(2, ""), line(3, ""))
	puts(t, s, 2, "u", line(4, ""))
	db, _, e := txn.Rows(s.DB(), 2, "t")
	if e != api.ErrWait {
		t.Fatal(e)
	}
	s.Set(db)
	if tx, e := s.Commit(1); tx != 0 || e != api.ErrFull {
		t.Fatalf("%d, %v", tx, e)
	}
	want, e := txn.Rollback(db, 1)
	ok(t, e)
	if got := s.DB(); !txn.Same(got, want) || len(got.Works) != 1 || len(got.Tables[0].Rows) != 0 || len(got.Tables[1].Rows) != 1 {
		t.Errorf("%+v", got)
	}
	if !ledger.Same(s.Ledger(), ledger.Ledger{}) || len(recordsOf(t, d)) != 2 {
		t.Error("something was committed")
	}
	if tx, e := s.Commit(1); tx != 0 || e != api.ErrNone {
		t.Errorf("%d, %v", tx, e)
	}
	if _, rows, e := txn.Rows(s.DB(), 2, "t"); e != api.OK || len(rows) != 0 {
		t.Errorf("%v, %v", rows, e)
	}
}

// scene is a store in which a call is about to be made that writes.
type scene struct {
	name string
	make func() *run
	call call
}

// scenes are calls of each kind, with records of unlike lengths.
func scenes(t *testing.T) []scene {
	// after is a store in which so many transactions were committed, the first one in a block if there are more, and session 2 put so many rows that are not committed.
	after := func(txs, rows int) func() *run {
		return func() *run {
			x := begun(t, 40)
			x.calls(t, creates(shape("t")))
			x.calls(t, creates(only("u")))
			for k := range txs {
				if k == 1 {
					x.calls(t, digests())
				}
				puts(t, x.s, 1, "t", line(k, ""))
				x.w.db = x.s.DB()
				x.calls(t, commits(1))
			}
			for k := range rows {
				puts(t, x.s, 2, "u", line(k, "a row"))
			}
			x.w.db = x.s.DB()
			return x
		}
	}
	return []scene{
		{"a table", after(2, 0), creates(shape("v"))},
		{"a table that goes", after(3, 0), drops("t")},
		{"the first transaction", after(0, 1), commits(2)},
		{"a transaction", after(3, 3), commits(2)},
		{"a transaction that closes a block", after(4, 2), commits(2)},
		{"the first block", after(1, 0), digests()},
		{"a block", after(3, 0), digests()},
		{"a block beside a session", after(2, 2), digests()},
	}
}

// goes lets the power go at the n-th operation of the scene's call, and answers the store's words as they are if the call did nothing, and if it did all; false: the call was over ahead of that.
func (c scene) goes(t *testing.T, n int) (x *run, nothing, all *words, gone bool) {
	t.Helper()
	x = c.make()
	nothing, all = x.w.copied(), x.w.copied()
	nothing.room = 0 // as if there were none
	want := strings.TrimSuffix(c.call.want(nothing), api.ErrFull.Error()) + api.ErrDead.Error()
	c.call.want(all)
	x.d.Stop(n)
	got := c.call.do(x.s)
	if gone = x.d.Dead(); gone && got != want {
		t.Fatalf("%s, %d: %s, not %s", c.name, n, got, want)
	}
	return x, nothing, all, gone
}

// TestP1602Dead: where the power goes within a call, it answers just that; nothing was done, and the session is taken back.
func TestP1602Dead(t *testing.T) {
	for _, c := range scenes(t) {
		n := 1
		for ; ; n++ {
			x, nothing, _, gone := c.goes(t, n)
			if !gone {
				break
			}
			is(t, x.s, x.d, nothing)
			fits(t, x.s, x.digests)
			was := show(x.s.Ledger())
			if e := x.s.Create(shape("w")); e != api.ErrDead && e != api.ErrBusy {
				t.Errorf("%s, %d: %v", c.name, n, e)
			}
			if d, e := x.s.Digest(); len(nothing.ledger.Open) > 0 && (e != api.ErrDead || d != (api.Digest{})) || show(x.s.Ledger()) != was {
				t.Errorf("%s, %d: %+v, %v", c.name, n, d, e)
			}
		}
		if n < 5 {
			t.Errorf("%s: the power went at %d places", c.name, n-1)
		}
	}
}

// TestP1603EachCrash: wherever the power goes within a call, and whatever stays of what was not synced: what is opened is all that was answered, or that and the call that was cut off; digests fit, and all goes on.
func TestP1603EachCrash(t *testing.T) {
	source := rand.New(rand.NewSource(1603))
	for _, c := range scenes(t) {
		outcomes := make(map[bool]int)
		gone := true
		for n := 1; gone; n++ {
			for draw := range 40 {
				var x *run
				var nothing, all *words
				x, nothing, all, gone = c.goes(t, n)
				x.d.Crash(picks(source, draw))
				is := len(recordsOf(t, x.d)) == len(all.records)
				outcomes[is]++
				if !is && !gone {
					t.Fatalf("%s: what was answered is not there", c.name)
				}
				x.w = nothing
				if is {
					x.w = all
				}
				x.s = opens(t, x.d, x.w)
				fits(t, x.s, x.digests)
				x.goesOn(t)
			}
		}
		if outcomes[false] == 0 || outcomes[true] == 0 {
			t.Errorf("%s: %v", c.name, outcomes)
		}
	}
}

// picks are all of one kind at first, then drawn ones.
func picks(source *rand.Rand, draw int) []int {
	l := make([]int, 30)
	for i := range l {
		if l[i] = draw; draw > 3 {
			l[i] = source.Intn(4)
		}
	}
	return l
}

// goesOn: a store that was opened anew goes on as any other.
func (x *run) goesOn(t *testing.T) {
	t.Helper()
	x.w.db, x.w.room = x.w.stays(), 20*api.Page
	x.calls(t, creates(shape("w")))
	puts(t, x.s, 4, "w", line(1, ""))
	x.w.db = x.s.DB()
	x.calls(t, commits(4))
	x.calls(t, digests())
	opens(t, x.d, x.w)
}

// TestP1603ByChance: the same of many calls, many crashes.
func TestP1603ByChance(t *testing.T) {
	source := rand.New(rand.NewSource(16033))
	outcomes := make(map[string]int)
	for range 25 {
		x := begun(t, 300)
		for range 3 {
			x.calls(t, creates(drawnShape(source)))
		}
		for range 250 {
			if source.Intn(4) > 0 {
				x.session(source)
				continue
			}
			c := drawnCall(source, x.w)
			if source.Intn(3) > 0 {
				x.calls(t, c)
				continue
			}
			before, after := x.w.copied(), x.w.copied()
			c.want(after)
			x.d.Stop(1 + source.Intn(8))
			c.do(x.s)
			outcome := "nothing was asked of the disk, or all of it done"
			if x.d.Dead() {
				outcome = "nothing stayed"
			}
			x.d.Crash(picks(source, 4))
			if len(recordsOf(t, x.d)) == len(after.records) {
				before = after
			}
			if outcome == "nothing stayed" && before == after {
				outcome = "all stayed"
			}
			outcomes[outcome]++
			x.w = before
			x.s = opens(t, x.d, x.w)
			x.w.db = x.w.stays()
			x.keep(t)
		}
	}
	if len(outcomes) != 3 {
		t.Errorf("not all was tried: %v", outcomes)
	}
}
