package txn

import (
	"math"
	"math/rand"
	"slices"
	"strings"
	"sync"
	"testing"

	"ledgerline/api"
	"ledgerline/lock"
	"ledgerline/schema"
	"ledgerline/table"
)

func number(n int) api.Value { return api.Value{Kind: api.Int, N: n} }

func text(s string) api.Value { return api.Value{Kind: api.Text, S: s} }

// line is a row of a table of that shape.
func line(k int, v string) []api.Value { return []api.Value{number(k), text(v)} }

// shape is a table's: a key, a text.
func shape(name string) api.Schema {
	return api.Schema{Name: name, Cols: []api.Col{{Name: "k", Kind: api.Int}, {Name: "v", Kind: api.Text, Null: true}}}
}

// only is a table's whose rows may be added alone.
func only(name string) api.Schema {
	s := shape(name)
	s.Only = true
	return s
}

// read is a session's hold without X, or its wait for one; write is one with X.
func read(s int, name string) lock.Hold { return lock.Hold{S: s, Table: name} }

func write(s int, name string) lock.Hold { return lock.Hold{S: s, Table: name, X: true} }

// locks are those of these holds, and these waits.
func locks(holds []lock.Hold, waits ...lock.Hold) lock.Locks {
	return lock.Locks{Holds: holds, Waits: waits}
}

func list(h ...lock.Hold) []lock.Hold { return h }

// of is a table of that shape and these rows.
func of(s api.Schema, rows ...[]api.Value) table.Table { return table.Table{S: s, Rows: rows} }

func came(name string, r []api.Value) api.Change {
	return api.Change{Table: name, Op: api.Put, Row: r}
}

func went(name string, r []api.Value) api.Change {
	return api.Change{Table: name, Op: api.Take, Row: r}
}

// Calls.
func creates(s api.Schema) call             { return call{face: "create", shape: s} }
func drops(name string) call                { return call{face: "drop", name: name} }
func begins(s int) call                     { return call{face: "begin", s: s} }
func holds(s int, name string, x bool) call { return call{face: "hold", s: s, name: name, x: x} }
func reads(s int, name string) call         { return call{face: "rows", s: s, name: name} }
func saves(s int, name string) call         { return call{face: "save", s: s, name: name} }
func goesBack(s int, name string) call      { return call{face: "back", s: s, name: name} }
func commits(s int) call                    { return call{face: "commit", s: s} }
func rollsBack(s int) call                  { return call{face: "rollback", s: s} }
func takes(s int, name string, k int) call {
	return call{face: "take", s: s, name: name, key: number(k)}
}
func puts(s int, name string, k int) call         { return putsRow(s, name, line(k, name)) }
func putsRow(s int, n string, r []api.Value) call { return call{face: "put", s: s, name: n, row: r} }

// after is what these calls, each of which must answer no error, make of d.
func after(t *testing.T, d DB, calls ...call) DB {
	t.Helper()
	for _, c := range calls {
		next, x := c.do(d)
		if x.e != api.OK {
			t.Fatalf("%+v of %+v: %v", c, d, x.e)
		}
		d = next
	}
	return d
}

// tables is a state of tables of these names, without rows.
func tables(t *testing.T, names ...string) DB {
	t.Helper()
	var d DB
	for _, name := range names {
		d = after(t, d, creates(shape(name)))
	}
	return d
}

// begun is a state of tables of these names, with so many sessions at work.
func begun(t *testing.T, sessions int, names ...string) DB {
	t.Helper()
	d := tables(t, names...)
	for s := range sessions {
		d = after(t, d, begins(s))
	}
	return d
}

// does holds a call's error, and the state that it answers, against these, and answers that state.
func does(t *testing.T, d DB, c call, wantE api.Errno, want DB) DB {
	t.Helper()
	was := show(d)
	next, x := c.do(d)
	if x.e != wantE || show(next) != show(want) {
		t.Fatalf("%+v of\n%+v:\n%v\n%+v\nnot\n%v\n%+v", c, d, x.e, next, wantE, want)
	}
	if x.e != api.OK && len(x.rows)+len(x.changes) > 0 {
		t.Fatalf("%+v: %+v beside %v", c, x, x.e)
	}
	if show(d) != was {
		t.Fatalf("%+v changed what it was handed: %+v, not %s", c, d, was)
	}
	return next
}

// refused: the call answers that error, and the state that it was handed.
func refused(t *testing.T, d DB, wantE api.Errno, calls ...call) {
	t.Helper()
	for _, c := range calls {
		does(t, d, c, wantE, d)
	}
}

// rowsOf are a table's rows, whoever holds it.
func rowsOf(d DB, name string) [][]api.Value {
	for _, x := range d.Tables {
		if x.S.Name == name {
			return x.Rows
		}
	}
	return nil
}

// hasKeys: these are the keys of a table's rows.
func hasKeys(t *testing.T, d DB, name string, want ...int) {
	t.Helper()
	var got []int
	for _, r := range rowsOf(d, name) {
		got = append(got, r[0].N)
	}
	if !slices.Equal(got, want) {
		t.Fatalf("%s has the keys %v, not %v", name, got, want)
	}
}

func TestP1301Create(t *testing.T) {
	var d DB
	d = does(t, d, creates(shape("m")), api.OK, DB{Tables: []table.Table{of(shape("m"))}})
	d = does(t, d, creates(only("x")), api.OK, DB{Tables: []table.Table{of(shape("m")), of(only("x"))}})
	d = does(t, d, creates(shape("b")), api.OK, DB{Tables: []table.Table{of(shape("b")), of(shape("m")), of(only("x"))}})
	d = after(t, d, begins(2), puts(2, "b", 5), puts(2, "x", 7), commits(2))
	does(t, d, creates(shape("n")), api.OK, DB{Tables: []table.Table{of(shape("b"), line(5, "b")), of(shape("m")), of(shape("n")), of(only("x"), line(7, "x"))}})
}

// TestP1301CreateInOrder: in the order of names, in whatever order they are made.
func TestP1301CreateInOrder(t *testing.T) {
	inOrder := []string{"a", "a0", "a9", "a_", "aa", "ab", "b", "ba"}
	source := rand.New(rand.NewSource(1))
	for range 50 {
		d := tables(t)
		for _, i := range source.Perm(len(inOrder)) {
			d = after(t, d, creates(shape(inOrder[i])))
		}
		for i, x := range d.Tables {
			if x.S.Name != inOrder[i] {
				t.Fatalf("%+v", d.Tables)
			}
		}
	}
}

// TestP1301CreateRefused: the first error of those that apply.
func TestP1301CreateRefused(t *testing.T) {
	few, full := []string{"a", "b"}, []string{"a", "b", "c", "d", "e", "f", "g", "h"}
	for _, c := range []struct {
		names []string
		busy  bool
		name  string
		want  api.Errno
	}{
		{few, false, "b", api.ErrIs},
		{few, true, "a", api.ErrIs},
		{full, false, "h", api.ErrIs},
		{full, true, "a", api.ErrIs},
		{full, false, "i", api.ErrMany},
		{full, true, "aa", api.ErrMany},
		{few, true, "c", api.ErrBusy},
		{nil, true, "c", api.ErrBusy},
	} {
		d := tables(t, c.names...)
		if c.busy {
			d = after(t, d, begins(5))
		}
		refused(t, d, c.want, creates(shape(c.name)))
		wrong := []api.Schema{{}, {Name: c.name}, shape(strings.ToUpper(c.name)), shape("table"), shape(c.name), shape(c.name), shape(c.name), shape(c.name)}
		wrong[4].Key = 2
		wrong[5].Cols = append(wrong[5].Cols, wrong[5].Cols[0])
		wrong[6].Cols[0].Null = true
		wrong[7].Cols[1].Kind = 4
		for _, s := range wrong {
			if schema.Check(s) == api.OK {
				t.Fatalf("%+v is not wrong", s)
			}
			refused(t, d, schema.Check(s), creates(s))
		}
	}
	d := tables(t, full[:7]...)
	after(t, d, creates(shape("h")), drops("a"), creates(shape("i")))
}

func TestP1301Drop(t *testing.T) {
	d := after(t, tables(t, "a", "b", "c"), begins(0), puts(0, "a", 1), puts(0, "c", 3), commits(0))
	a, b, c := of(shape("a"), line(1, "a")), of(shape("b")), of(shape("c"), line(3, "c"))
	does(t, d, drops("a"), api.OK, DB{Tables: []table.Table{b, c}})
	does(t, d, drops("b"), api.OK, DB{Tables: []table.Table{a, c}})
	d = does(t, d, drops("c"), api.OK, DB{Tables: []table.Table{a, b}})
	refused(t, d, api.ErrNone, drops("c"), drops(""), drops("A"), drops("aa"))
	busy := after(t, d, begins(7))
	refused(t, busy, api.ErrNone, drops("c"))
	refused(t, busy, api.ErrBusy, drops("a"), drops("b"))
	d = does(t, d, drops("a"), api.OK, DB{Tables: []table.Table{b}})
	d = does(t, d, drops("b"), api.OK, DB{})
	refused(t, d, api.ErrNone, drops("b"))
	does(t, d, creates(shape("a")), api.OK, tables(t, "a")) // without rows again
}

// TestP1301Busy: as soon as nobody is at work any more, tables may come and go.
func TestP1301Busy(t *testing.T) {
	d := begun(t, 2, "a")
	for _, end := range []call{commits(0), rollsBack(1)} {
		refused(t, d, api.ErrBusy, creates(shape("b")), drops("a"))
		d = after(t, d, end)
	}
	after(t, d, creates(shape("b")), drops("a"))
}

func TestP1301Begin(t *testing.T) {
	d := tables(t, "a")
	for _, s := range []int{-1, -8, 8, 9, 256, math.MinInt, math.MaxInt} {
		refused(t, d, api.ErrArg, begins(s))
	}
	var at []Work
	for _, s := range []int{3, 7, 0, 5, 1, 2, 6, 4} {
		at = append(at, Work{S: s})
		slices.SortFunc(at, func(a, b Work) int { return a.S - b.S })
		d = does(t, d, begins(s), api.OK, DB{Tables: d.Tables, Works: at})
		for _, w := range at {
			refused(t, d, api.ErrIs, begins(w.S))
		}
		refused(t, d, api.ErrArg, begins(-1), begins(8))
	}
	d = after(t, d, puts(5, "a", 5), commits(5), begins(5)) // anew: without changes
	if show(d.Works) != show(at) {
		t.Fatalf("%+v", d.Works)
	}
}

// TestP1301NotAtWork: all calls of a session that is not at work, whatever else would be wrong.
func TestP1301NotAtWork(t *testing.T) {
	d := after(t, tables(t, "a", "b"), begins(1), begins(2), puts(1, "a", 1), saves(1, "m"))
	for _, s := range []int{0, 3, 7, 8, 9, -1, -2, math.MinInt, math.MaxInt} {
		for _, face := range ofSession() {
			for _, name := range []string{"a", "b", "c", "m", "key", ""} {
				refused(t, d, api.ErrNone, call{face: face, s: s, name: name, x: true, row: line(2, "x"), key: number(1)})
			}
		}
	}
	d = after(t, d, commits(1))
	refused(t, d, api.ErrNone, commits(1), rollsBack(1), goesBack(1, "m"), saves(1, "n"), puts(1, "a", 3), reads(1, "a"), holds(1, "a", false))
}

func TestP1302Hold(t *testing.T) {
	d := begun(t, 3, "a", "b")
	with := func(l lock.Locks) DB { return DB{Tables: d.Tables, Works: d.Works, L: l} }
	refused(t, d, api.ErrNone, holds(0, "c", false), holds(0, "c", true), holds(1, "", true), holds(1, "A", true))
	x := does(t, d, holds(2, "a", false), api.OK, with(locks(list(read(2, "a")))))
	x = does(t, x, holds(1, "a", false), api.OK, with(locks(list(read(2, "a"), read(1, "a")))))
	x = does(t, x, holds(1, "b", true), api.OK, with(locks(list(read(2, "a"), read(1, "a"), write(1, "b")))))
	refused(t, x, api.OK, holds(1, "b", false), holds(1, "b", true), holds(2, "a", false))
	x = does(t, x, holds(0, "a", true), api.ErrWait, with(locks(x.L.Holds, write(0, "a"))))
	x = does(t, x, holds(2, "b", false), api.ErrWait, with(locks(x.L.Holds, write(0, "a"), read(2, "b"))))
	x = does(t, x, holds(0, "b", true), api.ErrWait, with(locks(x.L.Holds, read(2, "b"), write(0, "b"))))
	refused(t, x, api.ErrNone, holds(0, "c", true)) // it waits on
	x = after(t, x, commits(1))
	// Who waited asks again.
	x = does(t, x, holds(2, "a", true), api.OK, DB{Tables: d.Tables, Works: x.Works, L: locks(list(write(2, "a")), write(0, "b"))})
	does(t, x, holds(0, "b", true), api.OK, DB{Tables: d.Tables, Works: x.Works, L: locks(list(write(2, "a"), write(0, "b")))})
}

// TestP1302Example: two put into one table: the second one waits, and gets it when the first one ends.
func TestP1302Example(t *testing.T) {
	for _, end := range []call{commits(0), rollsBack(0)} {
		d := after(t, begun(t, 2, "a"), puts(0, "a", 1))
		d = does(t, d, puts(1, "a", 2), api.ErrWait, DB{Tables: d.Tables, Works: d.Works, L: locks(d.L.Holds, write(1, "a"))})
		d = does(t, d, puts(1, "a", 2), api.ErrWait, d)
		d = after(t, d, end, puts(1, "a", 2), commits(1))
		if end.face == "commit" {
			hasKeys(t, d, "a", 1, 2)
		} else {
			hasKeys(t, d, "a", 2)
		}
	}
}

// TestP1302WaitOfAll: Put, Take and Rows answer Hold's wait, and do nothing.
func TestP1302WaitOfAll(t *testing.T) {
	d := after(t, begun(t, 2, "a", "b"), puts(0, "a", 1), reads(0, "b"))
	waits := func(h lock.Hold) DB { return DB{Tables: d.Tables, Works: d.Works, L: locks(d.L.Holds, h)} }
	does(t, d, puts(1, "a", 2), api.ErrWait, waits(write(1, "a")))
	does(t, d, puts(1, "a", 1), api.ErrWait, waits(write(1, "a")))
	does(t, d, takes(1, "a", 1), api.ErrWait, waits(write(1, "a")))
	does(t, d, reads(1, "a"), api.ErrWait, waits(read(1, "a")))
	does(t, d, puts(1, "b", 2), api.ErrWait, waits(write(1, "b")))
	does(t, d, takes(1, "b", 2), api.ErrWait, waits(write(1, "b")))
	after(t, d, reads(1, "b"))
}

// TestP1302TakenBack: the greater one of two is taken back, and the one that asks gets what it asked for.
func TestP1302TakenBack(t *testing.T) {
	d := after(t, tables(t, "a", "b", "c"), begins(1), puts(1, "a", 1), puts(1, "c", 3), commits(1), begins(1), begins(6), begins(3))
	d = after(t, d, puts(1, "a", 11), puts(3, "c", 33), puts(6, "b", 2), saves(6, "m"), puts(6, "b", 22), takes(6, "b", 2))
	d = does(t, d, takes(6, "a", 1), api.ErrWait, DB{Tables: d.Tables, Works: d.Works, L: locks(d.L.Holds, write(6, "a"))})
	works := []Work{{S: 1, Log: []api.Change{came("a", line(11, "a"))}}, {S: 3, Log: []api.Change{came("c", line(33, "c"))}}}
	left := []table.Table{of(shape("a"), line(1, "a"), line(11, "a")), of(shape("b")), of(shape("c"), line(3, "c"), line(33, "c"))}
	does(t, d, holds(1, "b", false), api.OK, DB{Tables: left, Works: works, L: locks(list(write(1, "a"), write(3, "c"), read(1, "b")))})
	left[1].Rows = [][]api.Value{line(2, "x")}
	works[0].Log = append(works[0].Log, came("b", line(2, "x")))
	does(t, d, putsRow(1, "b", line(2, "x")), api.OK, DB{Tables: left, Works: works, L: locks(list(write(1, "a"), write(3, "c"), write(1, "b")))})
}

// TestP1302Lost: the one that asks is the greatest one: it is taken back itself.
func TestP1302Lost(t *testing.T) {
	d := after(t, tables(t, "a", "b"), begins(2), puts(2, "b", 1), commits(2), begins(2), begins(5), begins(0))
	d = after(t, d, puts(2, "a", 2), takes(5, "b", 1), puts(5, "b", 5))
	d = does(t, d, reads(2, "b"), api.ErrWait, DB{Tables: d.Tables, Works: d.Works, L: locks(d.L.Holds, read(2, "b"))})
	d = does(t, d, puts(0, "a", 0), api.ErrWait, DB{Tables: d.Tables, Works: d.Works, L: locks(d.L.Holds, read(2, "b"), write(0, "a"))})
	want := DB{
		Tables: []table.Table{of(shape("a"), line(2, "a")), of(shape("b"), line(1, "b"))},
		Works:  []Work{{S: 0}, {S: 2, Log: []api.Change{came("a", line(2, "a"))}}},
		L:      locks(list(write(2, "a")), read(2, "b"), write(0, "a")),
	}
	for _, c := range []call{holds(5, "a", false), holds(5, "a", true), puts(5, "a", 5), takes(5, "a", 2), reads(5, "a")} {
		lost := does(t, d, c, api.ErrLost, want)
		refused(t, lost, api.ErrNone, c, commits(5), rollsBack(5))
		after(t, lost, reads(2, "b"), begins(5))
	}
}

// TestP1302SeveralTakenBack: one after the other, the greatest one first, as long as there is a ring.
func TestP1302SeveralTakenBack(t *testing.T) {
	d := after(t, begun(t, 8, "a", "b", "c"), puts(0, "b", 1), puts(6, "c", 6))
	d = after(t, d, reads(4, "a"), reads(6, "a"), reads(5, "a"))
	for _, c := range []call{reads(6, "b"), reads(4, "b"), puts(5, "b", 5), puts(7, "c", 7)} {
		d, _ = c.do(d)
	}
	works := []Work{{S: 0, Log: []api.Change{came("b", line(1, "b")), came("a", line(2, "a"))}}, {S: 1}, {S: 2}, {S: 3}, {S: 7}}
	left := []table.Table{of(shape("a"), line(2, "a")), of(shape("b"), line(1, "b")), of(shape("c"))}
	got := does(t, d, puts(0, "a", 2), api.OK, DB{Tables: left, Works: works, L: locks(list(write(0, "b"), write(0, "a")), write(7, "c"))})
	after(t, got, puts(7, "c", 7))
}

// TestP1302WaitsAfterAll: a ring is gone, but one that waits for nothing still has what is asked for.
func TestP1302WaitsAfterAll(t *testing.T) {
	d := after(t, begun(t, 6, "a", "b"), puts(0, "b", 1), reads(4, "a"), reads(2, "a"), reads(5, "a"))
	for _, c := range []call{puts(5, "b", 5), puts(2, "b", 5)} {
		d, _ = c.do(d)
	}
	works := []Work{d.Works[0], {S: 1}, {S: 3}, {S: 4}}
	d = does(t, d, holds(0, "a", true), api.ErrWait, DB{Tables: d.Tables, Works: works, L: locks(list(write(0, "b"), read(4, "a")), write(0, "a"))})
	after(t, d, commits(4), puts(0, "a", 1))
}

// TestP1302LostAfterAnother: a greater one is taken back first, then the one that asks, as it is the greatest one of the ring that is left.
func TestP1302LostAfterAnother(t *testing.T) {
	d := after(t, begun(t, 8, "a", "b", "c"), reads(1, "a"), reads(7, "a"), puts(5, "b", 5), puts(7, "c", 7))
	for _, c := range []call{reads(7, "b"), reads(1, "b")} {
		d, _ = c.do(d)
	}
	works := []Work{{S: 0}, {S: 1}, {S: 2}, {S: 3}, {S: 4}, {S: 6}}
	does(t, d, takes(5, "a", 1), api.ErrLost, DB{Tables: tables(t, "a", "b", "c").Tables, Works: works, L: locks(list(read(1, "a")), read(1, "b"))})
}

// TestP1302TwoThatRead: two read one table, then both want to write it.
func TestP1302TwoThatRead(t *testing.T) {
	d := after(t, begun(t, 2, "a"), reads(0, "a"), reads(1, "a"))
	zero := does(t, d, puts(0, "a", 1), api.ErrWait, DB{Tables: d.Tables, Works: d.Works, L: locks(d.L.Holds, write(0, "a"))})
	does(t, zero, puts(1, "a", 1), api.ErrLost, DB{Tables: d.Tables, Works: []Work{{S: 0}}, L: locks(list(read(0, "a")), write(0, "a"))})
	one := does(t, d, puts(1, "a", 1), api.ErrWait, DB{Tables: d.Tables, Works: d.Works, L: locks(d.L.Holds, write(1, "a"))})
	log := []api.Change{came("a", line(1, "a"))}
	does(t, one, puts(0, "a", 1), api.OK, DB{Tables: []table.Table{of(shape("a"), line(1, "a"))}, Works: []Work{{S: 0, Log: log}}, L: locks(list(write(0, "a")))})
}

func TestP1303Put(t *testing.T) {
	d := begun(t, 1, "a", "b")
	log := []api.Change{came("b", line(5, "x"))}
	d = does(t, d, putsRow(0, "b", line(5, "x")), api.OK, DB{
		Tables: []table.Table{of(shape("a")), of(shape("b"), line(5, "x"))},
		Works:  []Work{{Log: log}},
		L:      locks(list(write(0, "b"))),
	})
	null := []api.Value{number(-3), {}}
	d = does(t, d, putsRow(0, "b", null), api.OK, DB{
		Tables: []table.Table{of(shape("a")), of(shape("b"), null, line(5, "x"))},
		Works:  []Work{{Log: append(log, came("b", null))}},
		L:      d.L,
	})
	refused(t, d, api.ErrIs, putsRow(0, "b", line(5, "y")), putsRow(0, "b", line(-3, "y")))
	refused(t, d, api.ErrNone, puts(0, "c", 1))
	// The lock stays behind an error.
	withLock := DB{Tables: d.Tables, Works: d.Works, L: locks(list(write(0, "b"), write(0, "a")))}
	for e, rows := range map[api.Errno][][]api.Value{
		api.ErrArg:  {nil, {number(1)}, {number(1), text("x"), text("y")}, {{Kind: api.Int, N: 1, S: "x"}, {}}},
		api.ErrKind: {{text("x"), text("y")}, {number(1), number(2)}, {{Kind: 9}, {}}},
		api.ErrNull: {{{}, text("x")}},
		api.ErrLong: {line(1, strings.Repeat("x", api.MaxText+1))},
	} {
		for _, r := range rows {
			does(t, d, putsRow(0, "a", r), e, withLock)
			refused(t, withLock, e, putsRow(0, "a", r))
		}
	}
}

func TestP1303Take(t *testing.T) {
	d := after(t, tables(t, "a"), begins(0), putsRow(0, "a", line(1, "x")), putsRow(0, "a", line(2, "y")), putsRow(0, "a", line(3, "z")), commits(0), begins(4))
	log := []api.Change{went("a", line(2, "y"))}
	d = does(t, d, takes(4, "a", 2), api.OK, DB{
		Tables: []table.Table{of(shape("a"), line(1, "x"), line(3, "z"))},
		Works:  []Work{{S: 4, Log: log}},
		L:      locks(list(write(4, "a"))),
	})
	refused(t, d, api.ErrNone, takes(4, "a", 2), takes(4, "a", 0), takes(4, "b", 1))
	refused(t, d, api.ErrNone, call{face: "take", s: 4, name: "a", key: api.Value{}}, call{face: "take", s: 4, name: "a", key: text("x")})
	d = does(t, d, putsRow(4, "a", line(2, "w")), api.OK, DB{
		Tables: []table.Table{of(shape("a"), line(1, "x"), line(2, "w"), line(3, "z"))},
		Works:  []Work{{S: 4, Log: append(log, came("a", line(2, "w")))}},
		L:      d.L,
	})
	does(t, d, takes(4, "a", 2), api.OK, DB{
		Tables: []table.Table{of(shape("a"), line(1, "x"), line(3, "z"))},
		Works:  []Work{{S: 4, Log: append(log, came("a", line(2, "w")), went("a", line(2, "w")))}},
		L:      d.L,
	})
	// The lock stays behind an error.
	d = begun(t, 1, "a")
	does(t, d, takes(0, "a", 1), api.ErrNone, DB{Tables: d.Tables, Works: d.Works, L: locks(list(write(0, "a")))})
}

// TestP1303Only: such a table's rows may be put, not taken, whether they are there or not; but a Put of one is undone.
func TestP1303Only(t *testing.T) {
	d := after(t, DB{}, creates(only("o")), begins(0), begins(1))
	locked := DB{Tables: d.Tables, Works: d.Works, L: locks(list(write(0, "o")))}
	does(t, d, takes(0, "o", 1), api.ErrOnly, locked)
	put := after(t, d, puts(0, "o", 1), saves(0, "m"), puts(0, "o", 2))
	refused(t, put, api.ErrOnly, takes(0, "o", 1), takes(0, "o", 3))
	refused(t, put, api.ErrIs, puts(0, "o", 1))
	waits := DB{Tables: put.Tables, Works: put.Works, L: locks(put.L.Holds, write(1, "o"))}
	does(t, put, takes(1, "o", 1), api.ErrWait, waits)
	hasKeys(t, after(t, put, goesBack(0, "m")), "o", 1)
	does(t, put, rollsBack(0), api.OK, DB{Tables: d.Tables, Works: []Work{{S: 1}}})
	hasKeys(t, after(t, put, commits(0)), "o", 1, 2)
}

// TestP1303Many: the 60th change is the last one, whether it is a Put or a Take; with room again, changes go on.
func TestP1303Many(t *testing.T) {
	d := after(t, DB{}, creates(only("o")), creates(shape("a")), creates(shape("b")), begins(0), begins(1), puts(1, "b", 1))
	for k := range 30 {
		d = after(t, d, puts(0, "a", k))
	}
	d = after(t, d, saves(0, "m"))
	for k := range 29 {
		d = after(t, d, takes(0, "a", k))
	}
	for _, last := range []call{puts(0, "a", 99), takes(0, "a", 29), puts(0, "o", 1)} {
		x := after(t, d, last)
		if len(x.Works[0].Log) != api.MaxChange {
			t.Fatalf("%d changes", len(x.Works[0].Log))
		}
		refused(t, x, api.ErrMany, puts(0, "a", 98), putsRow(0, "a", nil), takes(0, "a", 29), takes(0, "a", 77))
		refused(t, x, api.ErrNone, puts(0, "c", 98), takes(0, "c", 29))
		does(t, x, puts(0, "o", 2), api.ErrMany, after(t, x, holds(0, "o", true)))
		does(t, x, takes(0, "o", 2), api.ErrOnly, after(t, x, holds(0, "o", true)))
		waits := DB{Tables: x.Tables, Works: x.Works, L: locks(x.L.Holds, write(0, "b"))}
		does(t, x, puts(0, "b", 2), api.ErrWait, waits)
		does(t, x, takes(0, "b", 2), api.ErrWait, waits)
		after(t, x, reads(0, "a"), goesBack(0, "m"), puts(0, "a", 98))
		after(t, x, commits(0), begins(0), puts(0, "a", 98))
	}
}

// full is a state with a table a of 200 rows, 0 to 398, all even.
func full(t *testing.T) DB {
	t.Helper()
	d := tables(t, "a", "b")
	for k := range api.MaxRows {
		if k%50 == 0 {
			d = after(t, d, begins(0))
		}
		d = after(t, d, puts(0, "a", 2*k))
		if k%50 == 49 {
			d = after(t, d, commits(0))
		}
	}
	return d
}

// TestP1303FullTable: no row more, and what was taken has room when it is undone.
func TestP1303FullTable(t *testing.T) {
	was := full(t)
	d := after(t, was, begins(0))
	does(t, d, puts(0, "a", 1), api.ErrMany, DB{Tables: was.Tables, Works: d.Works, L: locks(list(write(0, "a")))})
	d = after(t, d, takes(0, "a", 100), puts(0, "a", 101), takes(0, "a", 398), puts(0, "a", 399), takes(0, "a", 101), puts(0, "a", 100), takes(0, "a", 0), puts(0, "a", -1))
	refused(t, d, api.ErrMany, puts(0, "a", 1))
	does(t, d, rollsBack(0), api.OK, was)
}

func TestP1303Rows(t *testing.T) {
	d := after(t, begun(t, 3, "a", "b"), puts(0, "a", 2), puts(0, "a", 1), puts(0, "a", 3), commits(0))
	for i, s := range []int{1, 2, 1} {
		next, rows, e := Rows(d, s, "a")
		if e != api.OK || show(rows) != show([][]api.Value{line(1, "a"), line(2, "a"), line(3, "a")}) || len(next.L.Holds) != min(i+1, 2) {
			t.Fatalf("%+v, %v, %+v", rows, e, next.L)
		}
		d = next
	}
	if show(d.L) != show(locks(list(read(1, "a"), read(2, "a")))) {
		t.Fatalf("%+v", d.L)
	}
	next, rows, e := Rows(d, 1, "b")
	if e != api.OK || len(rows) != 0 || len(next.L.Holds) != 3 {
		t.Fatalf("%+v, %v", rows, e)
	}
	refused(t, d, api.ErrNone, reads(1, "c"))
	// It reads what it wrote itself.
	d = after(t, d, commits(2), takes(1, "a", 2), puts(1, "a", 7))
	_, rows, e = Rows(d, 1, "a")
	if e != api.OK || show(rows) != show([][]api.Value{line(1, "a"), line(3, "a"), line(7, "a")}) {
		t.Fatalf("%+v, %v", rows, e)
	}
	if _, rows, _ = Rows(after(t, full(t), begins(3)), 3, "a"); len(rows) != api.MaxRows {
		t.Errorf("%d rows", len(rows))
	}
}

func TestP1304Save(t *testing.T) {
	d := after(t, begun(t, 2, "a"), puts(1, "a", 1))
	marks := []Mark{{"m", 1}}
	work := func() []Work { return []Work{{}, {S: 1, Log: d.Works[1].Log, Marks: marks}} }
	d = does(t, d, saves(1, "m"), api.OK, DB{Tables: d.Tables, Works: work(), L: d.L})
	marks = append(marks, Mark{"m", 1})
	d = does(t, d, saves(1, "m"), api.OK, DB{Tables: d.Tables, Works: work(), L: d.L})
	d = after(t, d, puts(1, "a", 2), takes(1, "a", 1))
	marks = append(marks, Mark{"a", 3})
	d = does(t, d, saves(1, "a"), api.OK, DB{Tables: d.Tables, Works: work(), L: d.L})
	for i := 3; i < 10; i++ {
		marks = append(marks, Mark{"m", 3})
		d = does(t, d, saves(1, "m"), api.OK, DB{Tables: d.Tables, Works: work(), L: d.L})
	}
	refused(t, d, api.ErrMany, saves(1, "m"), saves(1, "other"))
	refused(t, d, api.ErrName, saves(1, "key"), saves(1, "M"))
	refused(t, d, api.ErrNone, saves(2, "m"), saves(2, "key"))
	after(t, d, saves(0, "m")) // another one's do not count
	after(t, d, goesBack(1, "a"), saves(1, "m"))
	after(t, d, commits(1), begins(1), saves(1, "m"))
}

// TestP1304SaveName: what is a name, and what is none.
func TestP1304SaveName(t *testing.T) {
	d := begun(t, 1)
	for _, name := range []string{"a", "z", "a1", "a_", "abcdefghijkl", "tables", "k", "savepoin"} {
		after(t, d, saves(0, name), goesBack(0, name))
	}
	wrong := []string{"", "1a", "_a", "A", "aB", "a b", "abcdefghijklm", "é", "a\x00", "\xff", " a", "a-b"}
	for _, word := range strings.Fields("and begin bool by commit count create delete desc drop false from group insert int into is join key limit max min not null on only or order primary rollback savepoint select set sum table text to true update values where") {
		wrong = append(wrong, word)
	}
	for _, name := range wrong {
		refused(t, d, api.ErrName, saves(0, name))
		refused(t, d, api.ErrNone, goesBack(0, name))
	}
}

func TestP1304Back(t *testing.T) {
	d := after(t, begun(t, 2, "a", "b"), puts(0, "a", 1), saves(0, "m"), puts(0, "a", 2), saves(0, "n"), takes(0, "a", 1), saves(0, "m"), puts(0, "b", 4), takes(0, "a", 2), puts(0, "a", 1), saves(0, "p"))
	all := d.Works[0]
	at := func(changes, marks int) Work { return Work{Log: all.Log[:changes], Marks: all.Marks[:marks]} }
	state := func(w Work, a, b [][]api.Value) DB {
		return DB{Tables: []table.Table{of(shape("a"), a...), of(shape("b"), b...)}, Works: []Work{w, {S: 1}}, L: d.L}
	}
	both, two := [][]api.Value{line(1, "a"), line(2, "a")}, [][]api.Value{line(2, "a")}
	does(t, d, goesBack(0, "p"), api.OK, d)
	m := does(t, d, goesBack(0, "m"), api.OK, state(at(3, 3), two, nil))
	does(t, m, goesBack(0, "m"), api.OK, m) // it is there still: again
	refused(t, m, api.ErrNone, goesBack(0, "p"))
	for _, from := range []DB{d, m} {
		n := does(t, from, goesBack(0, "n"), api.OK, state(at(2, 2), both, nil))
		refused(t, n, api.ErrNone, goesBack(0, "p"))
		does(t, n, goesBack(0, "m"), api.OK, state(at(1, 1), [][]api.Value{line(1, "a")}, nil))
	}
	refused(t, d, api.ErrNone, goesBack(0, "x"), goesBack(0, ""), goesBack(1, "m"), goesBack(2, "m"), goesBack(0, "M"))
	// It goes on from there.
	x := after(t, m, puts(0, "b", 5), puts(0, "a", 1), saves(0, "q"))
	if show(x.Works[0].Marks) != show(append(slices.Clone(all.Marks[:3]), Mark{"q", 5})) {
		t.Errorf("%+v", x.Works[0].Marks)
	}
	hasKeys(t, x, "b", 5)
	_, changes, _ := Commit(x, 0)
	if show(changes) != show(append(slices.Clone(all.Log[:3]), came("b", line(5, "b")), came("a", line(1, "a")))) {
		t.Errorf("%+v", changes)
	}
}

// TestP1304BackKeepsLocks: also of a table that is as it was, and what the session waits for.
func TestP1304BackKeepsLocks(t *testing.T) {
	d := after(t, begun(t, 2, "a", "b", "c"), puts(1, "c", 1), saves(0, "m"), puts(0, "a", 1), reads(0, "b"))
	d, _ = holds(0, "c", true).do(d)
	l := locks(list(write(1, "c"), write(0, "a"), read(0, "b")), write(0, "c"))
	d = does(t, d, goesBack(0, "m"), api.OK, DB{Tables: rollsBackTables(t, d), Works: []Work{{Marks: []Mark{{"m", 0}}}, d.Works[1]}, L: l})
	if _, e := Put(d, 1, "a", line(1, "x")); e != api.ErrLost {
		t.Errorf("%v", e)
	}
}

// rollsBackTables are d's tables when session 0 is taken back.
func rollsBackTables(t *testing.T, d DB) []table.Table {
	t.Helper()
	return after(t, d, rollsBack(0)).Tables
}

func TestP1304Commit(t *testing.T) {
	d := after(t, begun(t, 3, "a", "b"), puts(1, "a", 2), puts(1, "a", 1), takes(1, "a", 2), saves(1, "m"), reads(0, "b"), reads(1, "b"))
	d, _ = puts(1, "b", 1).do(d)
	d, _ = reads(2, "a").do(d)
	next, changes, e := Commit(d, 1)
	if e != api.OK || show(changes) != show([]api.Change{came("a", line(2, "a")), came("a", line(1, "a")), went("a", line(2, "a"))}) {
		t.Fatalf("%+v, %v", changes, e)
	}
	d = does(t, d, commits(1), api.OK, DB{Tables: []table.Table{of(shape("a"), line(1, "a")), of(shape("b"))}, Works: []Work{{}, {S: 2}}, L: locks(list(read(0, "b")), read(2, "a"))})
	if !Same(next, d) {
		t.Fatalf("%+v, not %+v", next, d)
	}
	d = after(t, d, commits(0), commits(2))
	if len(d.Works)+len(d.L.Holds)+len(d.L.Waits) != 0 {
		t.Fatalf("%+v", d)
	}
	// One that did nothing.
	next, changes, e = Commit(after(t, d, begins(4)), 4)
	if e != api.OK || len(changes) != 0 || show(next) != show(d) {
		t.Fatalf("%+v, %v, %+v", changes, e, next)
	}
	refused(t, d, api.ErrNone, commits(0), commits(-1), commits(8))
}

func TestP1304Rollback(t *testing.T) {
	was := after(t, tables(t, "a", "b"), begins(0), puts(0, "a", 1), puts(0, "a", 2), puts(0, "b", 1), commits(0), begins(3))
	d := after(t, was, begins(0), takes(0, "a", 1), putsRow(0, "a", line(1, "new")), takes(0, "b", 1), saves(0, "m"), takes(0, "a", 1), takes(0, "a", 2), puts(0, "a", 3))
	d = does(t, d, reads(3, "a"), api.ErrWait, DB{Tables: d.Tables, Works: d.Works, L: locks(d.L.Holds, read(3, "a"))})
	x := does(t, d, rollsBack(0), api.OK, DB{Tables: was.Tables, Works: []Work{{S: 3}}, L: locks(nil, read(3, "a"))})
	after(t, x, reads(3, "a"))
	does(t, after(t, was, begins(5)), rollsBack(5), api.OK, was) // one that did nothing
	refused(t, was, api.ErrNone, rollsBack(0), rollsBack(5), rollsBack(8), rollsBack(-1))
	// Its own wait is gone as well.
	d, _ = reads(0, "a").do(after(t, was, begins(0), holds(3, "a", true)))
	does(t, d, rollsBack(0), api.OK, after(t, was, holds(3, "a", true)))
}

// TestP1304Same: each of these states is unlike all others.
func TestP1304Same(t *testing.T) {
	a, o, b := of(shape("a")), of(only("a")), of(shape("b"))
	change := func(name string, op int, k int) Work {
		return Work{S: 1, Log: []api.Change{{Table: name, Op: op, Row: line(k, "x")}}}
	}
	works := func(w ...Work) DB { return DB{Works: w} }
	all := []DB{
		{},
		{Tables: []table.Table{a}},
		{Tables: []table.Table{b}},
		{Tables: []table.Table{o}},
		{Tables: []table.Table{a, b}},
		{Tables: []table.Table{b, a}},
		{Tables: []table.Table{a, a}},
		{Tables: []table.Table{of(shape("a"), line(1, "x"))}},
		{Tables: []table.Table{of(shape("a"), line(2, "x"))}},
		{Tables: []table.Table{of(shape("a"), line(1, "y"))}},
		works(Work{}),
		works(Work{S: 1}),
		works(Work{}, Work{S: 1}),
		works(Work{S: 1}, Work{}),
		works(change("a", api.Put, 1)),
		works(change("a", api.Take, 1)),
		works(change("b", api.Put, 1)),
		works(change("a", api.Put, 2)),
		works(Work{S: 1, Log: []api.Change{{Table: "a", Op: api.Put}}}),
		works(Work{S: 1, Log: slices.Concat(change("a", api.Put, 1).Log, change("a", api.Put, 2).Log)}),
		works(Work{S: 1, Log: slices.Concat(change("a", api.Put, 2).Log, change("a", api.Put, 1).Log)}),
		works(Work{S: 1, Marks: []Mark{{"a", 1}}}),
		works(Work{S: 1, Marks: []Mark{{"b", 1}}}),
		works(Work{S: 1, Marks: []Mark{{"a", 2}}}),
		works(Work{S: 1, Marks: []Mark{{"a", 1}, {"b", 1}}}),
		works(Work{S: 1, Marks: []Mark{{"b", 1}, {"a", 1}}}),
		{L: locks(list(read(1, "a")))},
		{L: locks(list(write(1, "a")))},
		{L: locks(nil, read(1, "a"))},
		{L: locks(list(read(1, "a"), read(2, "a")))},
		{L: locks(list(read(2, "a"), read(1, "a")))},
		{Tables: []table.Table{a}, Works: []Work{{S: 1}}, L: locks(list(read(1, "a")))},
	}
	for i, x := range all {
		for j, y := range all {
			if Same(x, clone(y)) != (i == j) {
				t.Errorf("%+v and %+v: %v", x, y, i != j)
			}
		}
	}
	empty := DB{Tables: []table.Table{}, Works: []Work{}, L: lock.Locks{Holds: list(), Waits: []lock.Hold{}}}
	if !Same(DB{}, empty) || !Same(empty, DB{}) {
		t.Error("no list is unlike an empty one")
	}
	if !Same(works(Work{Log: []api.Change{{}}}), works(Work{Log: []api.Change{{Row: []api.Value{}}}, Marks: []Mark{}})) {
		t.Error("no list is unlike an empty one, further inside")
	}
}

// TestP1305TakenBack: whatever a session did, what it leaves when it is taken back is what was there when it began.
func TestP1305TakenBack(t *testing.T) {
	source := rand.New(rand.NewSource(5))
	was := after(t, tables(t, "a", "b"), begins(0), puts(0, "a", 3), puts(0, "a", 1), puts(0, "b", 2), commits(0))
	for range 100 {
		d := after(t, was, begins(0))
		for range 40 {
			c := someCall(source, 1, 1, 5)
			if c.face == "commit" || c.face == "rollback" {
				continue
			}
			c.name = []string{"a", "b"}[source.Intn(2)]
			d, _ = c.do(d)
		}
		does(t, d, rollsBack(0), api.OK, was)
	}
}

// clone is d in other memory.
func clone(d DB) DB {
	d.Tables = slices.Clone(d.Tables)
	for i, x := range d.Tables {
		d.Tables[i].S.Cols = slices.Clone(x.S.Cols)
		d.Tables[i].Rows = cloneRows(x.Rows)
	}
	d.Works = slices.Clone(d.Works)
	for i, w := range d.Works {
		d.Works[i].Log = cloneChanges(w.Log)
		d.Works[i].Marks = slices.Clone(w.Marks)
	}
	d.L = lock.Locks{Holds: slices.Clone(d.L.Holds), Waits: slices.Clone(d.L.Waits)}
	return d
}

func cloneRows(rows [][]api.Value) [][]api.Value {
	rows = slices.Clone(rows)
	for i, r := range rows {
		rows[i] = slices.Clone(r)
	}
	return rows
}

func cloneChanges(log []api.Change) []api.Change {
	log = slices.Clone(log)
	for i, c := range log {
		log[i].Row = slices.Clone(c.Row)
	}
	return log
}

// roomyList is l with room beyond its end, which is filled.
func roomyList[T any](l []T, fill T) []T {
	room := append(slices.Clone(l), fill, fill, fill)
	return room[:len(l)]
}

// whole is l with its spare room.
func whole[T any](l []T) []T { return l[:cap(l)] }

// roomy is d with room beyond the end of all its lists.
func roomy(d DB) DB {
	d = clone(d)
	for i, x := range d.Tables {
		d.Tables[i].S.Cols = roomyList(x.S.Cols, api.Col{Name: "spare"})
		for j, r := range x.Rows {
			x.Rows[j] = roomyList(r, text("spare"))
		}
		d.Tables[i].Rows = roomyList(x.Rows, line(99, "spare"))
	}
	for i, w := range d.Works {
		for j, c := range w.Log {
			w.Log[j].Row = roomyList(c.Row, text("spare"))
		}
		d.Works[i].Log = roomyList(w.Log, went("spare", line(99, "spare")))
		d.Works[i].Marks = roomyList(w.Marks, Mark{"spare", 9})
	}
	d.Tables = roomyList(d.Tables, of(shape("spare"), line(99, "spare")))
	d.Works = roomyList(d.Works, Work{S: 9, Log: []api.Change{came("spare", line(99, "spare"))}})
	d.L = lock.Locks{Holds: roomyList(d.L.Holds, write(9, "spare")), Waits: roomyList(d.L.Waits, write(9, "spare"))}
	return d
}

// opened is d with all that stands in its spare room.
func opened(d DB) DB {
	d.Tables = slices.Clone(whole(d.Tables))
	for i, x := range d.Tables {
		d.Tables[i].S.Cols = whole(x.S.Cols)
		d.Tables[i].Rows = openedRows(x.Rows)
	}
	d.Works = slices.Clone(whole(d.Works))
	for i, w := range d.Works {
		d.Works[i].Log = openedChanges(w.Log)
		d.Works[i].Marks = whole(w.Marks)
	}
	d.L = lock.Locks{Holds: whole(d.L.Holds), Waits: whole(d.L.Waits)}
	return d
}

func openedRows(rows [][]api.Value) [][]api.Value {
	rows = slices.Clone(whole(rows))
	for i, r := range rows {
		rows[i] = whole(r)
	}
	return rows
}

func openedChanges(log []api.Change) []api.Change {
	log = slices.Clone(whole(log))
	for i, c := range log {
		log[i].Row = whole(c.Row)
	}
	return log
}

// spoil writes over all of d, its spare room too, with n in it.
func spoil(d DB, n int) {
	for _, x := range whole(d.Tables) {
		spoilList(x.S.Cols, api.Col{Name: "spoilt", Kind: n})
		spoilRows(x.Rows, n)
	}
	for _, w := range whole(d.Works) {
		spoilChanges(w.Log, n)
		spoilList(w.Marks, Mark{"spoilt", n})
	}
	spoilList(d.Tables, of(shape("spoilt"), line(n, "spoilt")))
	spoilList(d.Works, Work{S: n})
	spoilList(d.L.Holds, write(n, "spoilt"))
	spoilList(d.L.Waits, write(n, "spoilt"))
}

func spoilRows(rows [][]api.Value, n int) {
	for _, r := range whole(rows) {
		spoilList(r, number(n))
	}
	spoilList(rows, line(n, "spoilt"))
}

func spoilChanges(log []api.Change, n int) {
	for _, c := range whole(log) {
		spoilList(c.Row, number(n))
	}
	spoilList(log, came("spoilt", line(n, "spoilt")))
}

func spoilList[T any](l []T, x T) {
	l = whole(l)
	for i := range l {
		l[i] = x
	}
}

// someStates are states that calls lead to, and a call for each.
func someStates(t *testing.T) (states []DB, calls []call) {
	t.Helper()
	byChance(t, 6, 12, 80, func(c call, was, is DB, x told) {
		states, calls = append(states, was), append(calls, c)
	})
	return states, calls
}

// TestP2HandedIn: what a call is handed stays as it is, its spare room too.
func TestP2HandedIn(t *testing.T) {
	states, calls := someStates(t)
	for i, d := range states {
		x, c := roomy(d), calls[i]
		c.row = roomyList(c.row, text("spare"))
		c.shape.Cols = roomyList(c.shape.Cols, api.Col{Name: "spare"})
		was := show(opened(x)) + show(whole(c.row)) + show(whole(c.shape.Cols))
		c.do(x)
		Same(x, d)
		if is := show(opened(x)) + show(whole(c.row)) + show(whole(c.shape.Cols)); is != was {
			t.Fatalf("%+v changed %s to %s", c, was, is)
		}
	}
}

// TestP2NotKept: an answer stays as it is, whatever is written over what was handed in.
func TestP2NotKept(t *testing.T) {
	states, calls := someStates(t)
	for i, d := range states {
		x, c := roomy(d), calls[i]
		c.row = roomyList(c.row, text("spare"))
		c.shape.Cols = roomyList(c.shape.Cols, api.Col{Name: "spare"})
		next, y := c.do(x)
		was := show(opened(next)) + show(openedRows(y.rows)) + show(openedChanges(y.changes))
		spoil(x, 77)
		spoilList(c.row, text("spoilt"))
		spoilList(c.shape.Cols, api.Col{Name: "spoilt"})
		if is := show(opened(next)) + show(openedRows(y.rows)) + show(openedChanges(y.changes)); is != was {
			t.Fatalf("%+v kept what it was handed: %s, not %s", c, is, was)
		}
	}
}

// TestP2AnswersShareNothing: what is written over one list of an answer, its spare room too, is in no other one.
func TestP2AnswersShareNothing(t *testing.T) {
	states, calls := someStates(t)
	for i, d := range states {
		next, y := calls[i].do(d)
		seen := make(map[*api.Value]bool)
		claim := func(r []api.Value) {
			for j := range whole(r) {
				p := &whole(r)[j]
				if seen[p] {
					t.Fatalf("%+v: two lists of the answer share a value", calls[i])
				}
				seen[p] = true
			}
		}
		for _, x := range next.Tables {
			for _, r := range x.Rows {
				claim(r)
			}
		}
		for _, w := range next.Works {
			for _, c := range w.Log {
				claim(c.Row)
			}
		}
		for _, r := range y.rows {
			claim(r)
		}
		for _, c := range y.changes {
			claim(c.Row)
		}
		was := show(next)
		spoilRows(y.rows, 55)
		spoilChanges(y.changes, 55)
		if show(next) != was {
			t.Fatalf("%+v: the state shares with what is told beside it", calls[i])
		}
	}
}

// TestP2ListsOfTheState: the lists of a state's tables and sessions are its own, one by one.
func TestP2ListsOfTheState(t *testing.T) {
	s := shape("a")
	d, _ := Create(DB{}, s)
	s.Name = "b"
	d, _ = Create(d, s) // one list of columns, handed in twice
	d = after(t, d, begins(0), begins(1))
	d.Tables[0].S.Cols[0].Name = "spoilt"
	if s.Cols[0].Name != "k" || d.Tables[1].S.Cols[0].Name != "k" {
		t.Fatalf("%+v, %+v", s, d.Tables)
	}
	shared := []Mark{{"m", 0}}
	d.Works[0].Marks, d.Works[1].Marks = shared, shared // what was handed in may share
	d = after(t, d, saves(0, "n"))
	d.Works[0].Marks[0].Name = "spoilt"
	if d.Works[1].Marks[0].Name != "m" || shared[0].Name != "m" {
		t.Fatalf("%+v", d.Works)
	}
}

// TestP3TheSameAgain: the same calls answer the same, also of a state in other memory.
func TestP3TheSameAgain(t *testing.T) {
	states, calls := someStates(t)
	for i, d := range states {
		next, x := calls[i].do(d)
		again, y := calls[i].do(roomy(d))
		if show(next) != show(again) || show(x) != show(y) || !Same(next, again) {
			t.Fatalf("%+v: %+v, %+v, and then %+v, %+v", calls[i], next, x, again, y)
		}
	}
}

// TestP5RefusedChangesNothing: behind an error other than a wait and a loss, all rows, sessions, changes and marks are as they were; only Hold's lock may be there.
func TestP5RefusedChangesNothing(t *testing.T) {
	refusals := 0
	byChance(t, 7, 40, 100, func(c call, was, is DB, x told) {
		if x.e == api.OK || x.e == api.ErrLost {
			return
		}
		refusals++
		if c.face == "put" || c.face == "take" || x.e == api.ErrWait {
			// Others may have been taken back.
			if len(is.Works) < len(was.Works) {
				return
			}
			was.L = is.L
		}
		if !Same(was, is) {
			t.Fatalf("%+v: %v, and %+v is %+v", c, x.e, was, is)
		}
	})
	if refusals == 0 {
		t.Error("nothing was refused")
	}
}

// TestP7SideBySide: calls of many at a time, of one state and of their own.
func TestP7SideBySide(t *testing.T) {
	states, calls := someStates(t)
	want := make([]string, len(states))
	for i, d := range states {
		next, x := calls[i].do(d)
		want[i] = show(next) + show(x)
	}
	var group sync.WaitGroup
	for range 8 {
		group.Go(func() {
			for i, d := range states {
				next, x := calls[i].do(d)
				if got := show(next) + show(x); got != want[i] {
					t.Errorf("%+v: %s, not %s", calls[i], got, want[i])
					return
				}
			}
		})
	}
	group.Wait()
}

// oddStates are states that no calls lead to.
func oddStates() []DB {
	noShape := table.Table{Rows: [][]api.Value{nil, line(1, "a")}}
	farKey := of(api.Schema{Name: "a", Key: 5}, nil, line(2, "x"), line(1, "x"))
	lowKey := of(api.Schema{Name: "a", Key: -1}, line(2, "x"))
	short := of(shape("a"), nil, []api.Value{}, []api.Value{{Kind: -7}})
	mixed := of(shape("a"), line(3, "x"), line(1, "x"), line(3, "y"))
	log := []api.Change{{}, {Table: "a"}, {Table: "a", Op: api.Put}, {Table: "a", Op: api.Take}, {Table: "a", Op: -4, Row: line(1, "x")}, went("gone", line(1, "x")), came("gone", nil), went("a", line(3, "x")), came("a", []api.Value{{Kind: 9}}), went("a", line(1, "x"))}
	marks := []Mark{{"m", -5}, {"n", 3}, {"p", 900}, {"", 1}, {"m", math.MinInt}, {"p", math.MaxInt}}
	works := []Work{{S: 5, Log: log, Marks: marks}, {S: 2, Log: log, Marks: marks[:2]}, {S: 5, Marks: marks[2:]}, {S: -1, Log: log}, {S: 0, Log: log[3:], Marks: marks}, {S: 99, Marks: marks}, {S: 2}, {S: 1}}
	rings := locks(list(write(2, "a"), write(3, "b"), write(2, "a"), read(1, "a"), write(5, "b"), write(-1, "a"), read(99, "c"), write(6, "a")), write(3, "a"), write(2, "b"), write(6, "b"), write(5, "a"), read(-1, "b"), write(99, "a"), write(1, "b"), write(3, "a"))
	var l []DB
	for _, x := range []table.Table{noShape, farKey, lowKey, short, mixed} {
		l = append(l, DB{Tables: []table.Table{of(shape("c")), x, of(shape("b")), x, of(shape("a"))}, Works: works, L: rings})
		l = append(l, DB{Tables: []table.Table{x}, Works: works[1:6], L: rings})
	}
	return append(l, DB{L: rings}, DB{Works: works}, DB{Tables: []table.Table{mixed}, L: rings})
}

// TestP1AnyStates: all calls of all states end, one behind the other too, and leave what they are handed as it is.
func TestP1AnyStates(t *testing.T) {
	for _, d := range oddStates() {
		for _, s := range []int{-1, 0, 1, 2, 3, 5, 6, 99, math.MinInt, math.MaxInt} {
			x := roomy(d)
			was := show(opened(x))
			for _, name := range []string{"", "a", "b", "c", "m", "p", "gone", "\xff"} {
				for _, face := range faces() {
					c := call{face: face, s: s, name: name, x: s%2 == 0, shape: shape(name), row: line(1, "x"), key: api.Value{Kind: s}}
					next, _ := c.do(x)
					next, _ = call{face: "back", s: 5, name: "m"}.do(next)
					next, _ = call{face: "rollback", s: s}.do(next)
					next, _ = call{face: "hold", s: 2, name: "b", x: true}.do(next)
					Same(next, d)
				}
			}
			if show(opened(x)) != was {
				t.Fatalf("%d: %s changed", s, was)
			}
		}
	}
}

// TestP1RingOfThoseNotAtWork: they cannot be taken back, but what they hold is freed, so that Hold ends.
func TestP1RingOfThoseNotAtWork(t *testing.T) {
	d := begun(t, 1, "a", "b")
	d.L = locks(list(write(0, "b"), write(6, "a")), write(6, "b"))
	if next, e := Hold(d, 0, "a", true); e != api.OK || len(next.L.Holds) != 2 {
		t.Errorf("%v, %+v", e, next)
	}
}
