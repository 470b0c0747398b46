package store

import (
	"fmt"
	"math"
	"math/rand"
	"reflect"
	"strings"
	"sync"
	"testing"

	"ledgerline/api"
	"ledgerline/ledger"
	"ledgerline/lock"
	"ledgerline/table"
	"ledgerline/txn"
)

// lists tells each list within x, its spare room as a part of it.
func lists(x reflect.Value, tell func(reflect.Value)) {
	switch x.Kind() {
	case reflect.Slice:
		x = x.Slice(0, x.Cap())
		for i := range x.Len() {
			lists(x.Index(i), tell)
		}
		tell(x)
	case reflect.Struct:
		for i := range x.NumField() {
			lists(x.Field(i), tell)
		}
	}
}

// spoil writes over all that x has in lists.
func spoil(x any) {
	lists(reflect.ValueOf(x), func(l reflect.Value) {
		for i := range l.Len() {
			l.Index(i).SetZero()
		}
	})
}

// roomy answers x in new lists, each with spare room.
func roomy[T any](x T) T {
	return withRoom(reflect.ValueOf(x)).Interface().(T)
}

func withRoom(x reflect.Value) reflect.Value {
	next := reflect.New(x.Type()).Elem()
	switch x.Kind() {
	case reflect.Slice:
		next = reflect.MakeSlice(x.Type(), x.Len(), x.Len()+3)
		for i := range x.Len() {
			next.Index(i).Set(withRoom(x.Index(i)))
		}
	case reflect.Struct:
		for i := range x.NumField() {
			next.Field(i).Set(withRoom(x.Field(i)))
		}
	default:
		next.Set(x)
	}
	return next
}

// memory tells where each element of each list of x is.
func memory(x any) map[string]int {
	where := make(map[string]int)
	lists(reflect.ValueOf(x), func(l reflect.Value) {
		for i := range l.Len() {
			where[fmt.Sprint(l.Type(), l.Index(i).Addr().Pointer())]++
		}
	})
	return where
}

// roomySpace shows x with all its spare room.
func roomySpace(x any) string {
	var b strings.Builder
	lists(reflect.ValueOf(x), func(l reflect.Value) { b.WriteString(show(l.Interface())) })
	return b.String()
}

// atWork is a store with all that there may be: rows, sessions at work, marks, locks, waits, open transactions, blocks.
func atWork(t *testing.T) *Store {
	t.Helper()
	s, _ := filled(t)
	puts(t, s, 3, "t", line(40, "at work"))
	takes(t, s, 3, "t", number(4))
	db, e := txn.Save(s.DB(), 3, "m")
	ok(t, e)
	db, e = txn.Begin(db, 2)
	ok(t, e)
	db, _, e = txn.Rows(db, 2, "o")
	ok(t, e)
	db, _, e = txn.Rows(db, 2, "t")
	if e != api.ErrWait {
		t.Fatal(e)
	}
	s.Set(db)
	return s
}

// TestP2Answers: what is answered may be written over; no two answers, no two lists of one, share anything.
func TestP2Answers(t *testing.T) {
	s := atWork(t)
	for _, answers := range []func() any{func() any { return s.DB() }, func() any { return s.Ledger() }} {
		a, b := answers(), answers()
		want := show(a)
		if show(b) != want {
			t.Fatalf("%s, not %s", show(b), want)
		}
		of, elements := memory(a), 0
		for where, n := range of {
			elements++
			if n != 1 {
				t.Errorf("two lists share %s", where)
			}
		}
		for where := range memory(b) {
			if of[where] != 0 {
				t.Errorf("two answers share %s", where)
			}
		}
		if elements < 20 {
			t.Errorf("%d elements", elements)
		}
		spoil(a)
		if show(b) != want || show(answers()) != want {
			t.Error("an answer that was written over changed others")
		}
	}
}

// TestP2AnswersStay: what was answered stays as it is, whatever calls come.
func TestP2AnswersStay(t *testing.T) {
	source := rand.New(rand.NewSource(2))
	x := begun(t, 200)
	x.calls(t, creates(shape("a")))
	x.calls(t, creates(only("b")))
	for range 150 {
		db, l := x.s.DB(), x.s.Ledger()
		wasDB, wasLedger := show(db), show(l)
		x.session(source)
		x.calls(t, drawnCall(source, x.w))
		if show(db) != wasDB || show(l) != wasLedger {
			t.Fatal("a call wrote over what was answered")
		}
	}
}

// TestP2HandedIn: what is handed in is not changed, its spare room too, and not kept.
func TestP2HandedIn(t *testing.T) {
	s := atWork(t)
	db := roomy(s.DB())
	was, want := roomySpace(db), show(db)
	s.Set(db)
	if roomySpace(db) != was {
		t.Error("Set changed what it was handed")
	}
	spoil(db)
	if show(s.DB()) != want {
		t.Error("Set kept what it was handed")
	}
	y, d := fresh(t, 64)
	x := roomy(byText("t"))
	was, want = roomySpace(x), show(x)
	ok(t, y.Create(x))
	if roomySpace(x) != was {
		t.Error("Create changed what it was handed")
	}
	spoil(x)
	if got := show(y.DB().Tables[0].S); got != want {
		t.Errorf("Create kept what it was handed: %s", got)
	}
	ok(t, y.Create(shape("u")))
	opens(t, d, &words{db: y.DB(), records: []string{wantTable(byText("t")), wantTable(shape("u"))}})
}

// TestP2SetGoesOn: of a DB that was handed in, others go on; the store has it as it was, and so does the log.
func TestP2SetGoesOn(t *testing.T) {
	s, d := fresh(t, 64)
	ok(t, s.Create(shape("t")))
	db, e := txn.Begin(s.DB(), 0)
	ok(t, e)
	db, e = txn.Put(db, 0, "t", line(1, "a"))
	ok(t, e)
	s.Set(db)
	db.Works[0].Log[0].Row[1].S = "other"
	db.Tables[0].Rows[0][1].S = "other"
	db.Works[0].S = 5
	done(t, s, 0, 0)
	c := s.Ledger().Open[0].Changes[0]
	if c.Row[1].S != "a" || s.DB().Tables[0].Rows[0][1].S != "a" {
		t.Errorf("%+v", c)
	}
	w, _ := wantOpen([]string{wantTable(shape("t")), wantTx(api.Tx{Changes: []api.Change{came("t", line(1, "a")...)}}) + "\x00"})
	opens(t, d, w)
}

// pagesOf is all that a disk's pages say.
func pagesOf(t *testing.T, x *run) string {
	t.Helper()
	var b strings.Builder
	for page := range x.d.Pages() {
		p, e := x.d.Read(page)
		ok(t, e)
		b.Write(p)
	}
	return b.String()
}

// TestP3TheSameAgain: the same calls in the same order answer and write the same.
func TestP3TheSameAgain(t *testing.T) {
	var first string
	for again := range 3 {
		source := rand.New(rand.NewSource(3))
		x := begun(t, 60)
		x.calls(t, creates(shape("a")))
		for range 200 {
			x.session(source)
			x.calls(t, drawnCall(source, x.w))
		}
		all := show(x.s.DB()) + show(x.s.Ledger()) + pagesOf(t, x)
		if again == 0 {
			first = all
		}
		if all != first {
			t.Fatal("not the same")
		}
	}
}

// TestP7SideBySide: several stores, one call of each by turns, do not touch one another.
func TestP7SideBySide(t *testing.T) {
	var all []*run
	var sources []*rand.Rand
	for i := range 4 {
		x := begun(t, 60)
		x.calls(t, creates(shape("a")))
		all, sources = append(all, x), append(sources, rand.New(rand.NewSource(int64(i))))
	}
	for range 100 {
		for i, x := range all {
			x.session(sources[i])
			x.calls(t, drawnCall(sources[i], x.w))
		}
	}
	for _, x := range all {
		is(t, x.s, x.d, x.w)
	}
}

// TestP7OfOneDisk: of two stores that one disk was opened to, the one does not hear of what the other does.
func TestP7OfOneDisk(t *testing.T) {
	s, d := filled(t)
	w, _ := wantOpen(recordsOf(t, d))
	y := opens(t, d, w)
	puts(t, s, 0, "t", line(70, ""))
	if len(y.DB().Works) != 0 {
		t.Error("a session of the one is at work in the other")
	}
	done(t, s, 0, 6)
	is(t, y, d, &words{db: w.db, ledger: w.ledger, records: recordsOf(t, d)})
}

// TestBeside: DB and Ledger may be asked from beside calls that are at work: each answers a state as a whole.
func TestBeside(t *testing.T) {
	s, _ := fresh(t, 500)
	ok(t, s.Create(shape("t")))
	stop := make(chan struct{})
	var asking sync.WaitGroup
	for range 3 {
		asking.Go(func() {
			least := 0
			for {
				rows := len(s.DB().Tables[0].Rows)
				l := s.Ledger()
				n := 0
				for _, x := range append(l.Txs, l.Open) {
					n += len(x)
				}
				if rows < least || rows%2 != 0 || n != l.Next || len(l.Txs) != len(l.Blocks) {
					t.Errorf("%d rows behind %d, %+v", rows, least, l)
				}
				least = rows
				select {
				case <-stop:
					return
				default:
				}
			}
		})
	}
	for k := range 50 {
		puts(t, s, 0, "t", line(2*k, ""), line(2*k+1, ""))
		done(t, s, 0, k)
		if k%5 == 0 {
			_, e := s.Digest()
			ok(t, e)
		}
	}
	close(stop)
	asking.Wait()
}

// oddStates are some that no calls lead to.
func oddStates() []txn.DB {
	odd := table.Table{S: api.Schema{Name: "t", Key: 9}, Rows: [][]api.Value{{}, {number(1)}, nil}}
	long := strings.Repeat("long", 20000)
	c := []api.Change{{}, came("t"), went("u", number(1)), {Table: long, Op: math.MinInt, Row: []api.Value{{Kind: -7, N: 9, S: long}}}}
	many := api.Change{Table: "t", Op: api.Put, Row: make([]api.Value, 1000)}
	return []txn.DB{
		{},
		{Tables: []table.Table{odd, odd, {}}},
		{Tables: make([]table.Table, 20)},
		{Works: []txn.Work{{S: -1, Log: c}, {S: 0}, {S: 0, Log: c}, {S: math.MaxInt}}},
		{Tables: []table.Table{odd}, Works: []txn.Work{{S: 0, Log: []api.Change{many}, Marks: []txn.Mark{{At: -5}, {At: 99}}}}},
		{Works: []txn.Work{{S: 1, Log: make([]api.Change, 300)}, {S: 0, Log: c[:1]}}},
		{L: lock.Locks{Holds: []lock.Hold{{S: 0}, {S: 0, X: true}, {S: -1}}, Waits: []lock.Hold{{S: 1}}}},
	}
}

// TestP1AnyStates: whatever was set, all calls end, and what is handed in stays as it is.
func TestP1AnyStates(t *testing.T) {
	for _, odd := range oddStates() {
		for _, x := range []*run{begun(t, 2), begun(t, 2000)} {
			ok(t, x.s.Create(api.Schema{Name: "t", Cols: []api.Col{{Name: "k", Kind: api.Int}}}))
			odd := roomy(odd)
			was := roomySpace(odd)
			x.s.Set(odd)
			for _, n := range []int{0, -1, 1, math.MaxInt, 7} {
				x.s.Commit(n)
				x.s.DB()
				x.s.Ledger()
				x.s.Digest()
				x.s.Create(shape("z"))
				x.s.Create(api.Schema{Name: "y", Cols: make([]api.Col, 300)})
				x.s.Drop("t")
				x.s.Drop("")
			}
			if roomySpace(odd) != was {
				t.Errorf("%+v was changed", odd)
			}
			Open(x.d)
		}
	}
}

// TestP1LongRecord: what does not go into a record is taken back as any other.
func TestP1LongRecord(t *testing.T) {
	s, d := fresh(t, 2000)
	db := txn.DB{Works: []txn.Work{{S: 0, Log: []api.Change{{Table: strings.Repeat("t", 70000)}}}}}
	s.Set(db)
	if tx, e := s.Commit(0); tx != 0 || e != api.ErrLong || len(s.DB().Works) != 0 || len(recordsOf(t, d)) != 0 {
		t.Errorf("%d, %v", tx, e)
	}
}

// TestP1AnyPages: whatever the pages say, Open ends, and answers a store or an error.
func TestP1AnyPages(t *testing.T) {
	source := rand.New(rand.NewSource(1))
	fine := 0
	_, written := filled(t)
	records := recordsOf(t, written)
	for range 4000 {
		d := logged(t, records...)
		for range 1 + source.Intn(3) {
			b := make([]byte, 1+source.Intn(3))
			source.Read(b)
			d.Tamper(source.Intn(30), source.Intn(64), b)
		}
		s, e := Open(d)
		if (s == nil) == (e == api.OK) || e != api.OK && e != api.ErrBad {
			t.Fatalf("%v, %v", s, e)
		}
		if e == api.OK {
			fine++
			w, is := wantOpen(recordsOf(t, d))
			if !is {
				t.Fatal("a store, where the words have none")
			}
			opens(t, d, w)
		}
	}
	if fine == 0 {
		t.Error("none could be opened")
	}
}

// TestP1NotOpened: a store that Open did not answer has nothing, and takes nothing.
func TestP1NotOpened(t *testing.T) {
	var s Store
	if e := s.Create(shape("t")); e == api.OK || len(s.DB().Tables) != 0 {
		t.Errorf("%v, %+v", e, s.DB())
	}
	if e := s.Drop("t"); e != api.ErrNone {
		t.Error(e)
	}
	if d, e := s.Digest(); e != api.ErrNone || d != (api.Digest{}) {
		t.Errorf("%+v, %v", d, e)
	}
	db, e := txn.Begin(txn.DB{Tables: []table.Table{{S: shape("t")}}}, 0)
	ok(t, e)
	db, e = txn.Put(db, 0, "t", line(1, ""))
	ok(t, e)
	s.Set(db)
	if tx, e := s.Commit(0); tx != 0 || e == api.OK || len(s.DB().Works) != 0 || !ledger.Same(s.Ledger(), ledger.Ledger{}) {
		t.Errorf("%d, %v", tx, e)
	}
}
