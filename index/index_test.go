package index

import (
	"math"
	"math/rand"
	"slices"
	"strings"
	"sync"
	"testing"

	"ledgerline/api"
	"ledgerline/table"
	"ledgerline/value"
)

func boolean(n int) api.Value { return api.Value{Kind: api.Bool, N: n} }

func number(n int) api.Value { return api.Value{Kind: api.Int, N: n} }

func text(s string) api.Value { return api.Value{Kind: api.Text, S: s} }

func numbers(n ...int) []api.Value {
	var all []api.Value
	for _, x := range n {
		all = append(all, number(x))
	}
	return all
}

// validValues are values that may be, in order, the bounds of each kind among them.
func validValues() []api.Value {
	all := []api.Value{{}, boolean(0), boolean(1)}
	all = append(all, numbers(math.MinInt64, math.MinInt64+1, -256, -2, -1, 0, 1, 2, 255, 256, math.MaxInt32+1, math.MaxInt64-1, math.MaxInt64)...)
	for _, s := range []string{"", "\x00", "\x00\x00", "\x00\x01", "\x00\xff", "'", "a", "a\x00", "a\x00\x01", "a\x01", "ab", "b", strings.Repeat("\xff", 59), strings.Repeat("\xff", 60)} {
		all = append(all, text(s))
	}
	return all
}

// wrongValues are values that may not be.
func wrongValues() []api.Value {
	long := strings.Repeat("a", 61)
	return []api.Value{{Kind: -1}, {Kind: 4}, {Kind: 256}, {N: 1}, {S: "a"}, boolean(2), {Kind: api.Bool, S: "a"}, {Kind: api.Int, S: "a"}, {Kind: api.Text, N: 1}, text(long), {Kind: math.MinInt64, N: math.MinInt64, S: long}}
}

// shape is that of a table of three columns whose key is a number in the middle.
func shape() api.Schema {
	return api.Schema{Name: "t", Cols: []api.Col{{Name: "a", Kind: api.Text, Null: true}, {Name: "k", Kind: api.Int}, {Name: "c", Kind: api.Bool}}, Key: 1}
}

// line is a row of that shape; of an empty text nothing stands there.
func line(s string, key int) []api.Value {
	v := text(s)
	if s == "" {
		v = api.Value{}
	}
	return []api.Value{v, number(key), boolean(key & 1)}
}

// filled is a table of rows that are put in the order in which they come.
func filled(t *testing.T, s api.Schema, rows ...[]api.Value) table.Table {
	t.Helper()
	x := table.Table{S: s}
	for _, r := range rows {
		y, e := table.Put(x, r)
		if e != api.OK {
			t.Fatalf("%+v: %v", r, e)
		}
		x = y
	}
	return x
}

// words is what the document says of an index, as it stands: rows, of which an entry is told by its value and its key.
type words struct {
	column, key int
	rows        [][]api.Value
}

func (w *words) add(r []api.Value) {
	w.rows = append(w.rows, r)
}

func (w *words) drop(r []api.Value) {
	w.rows = slices.DeleteFunc(w.rows, func(x []api.Value) bool {
		return x[w.column] == r[w.column] && x[w.key] == r[w.key]
	})
}

func (w *words) keys(v api.Value) []api.Value {
	var keys []api.Value
	for _, r := range w.rows {
		if r[w.column] == v {
			keys = append(keys, r[w.key])
		}
	}
	slices.SortFunc(keys, value.Compare)
	return keys
}

func (w *words) from(v api.Value, most int) []api.Value {
	rows := slices.Clone(w.rows)
	slices.SortFunc(rows, func(a, b []api.Value) int {
		if c := value.Compare(a[w.column], b[w.column]); c != 0 {
			return c
		}
		return value.Compare(a[w.key], b[w.key])
	})
	var keys []api.Value
	for _, r := range rows {
		if value.Compare(r[w.column], v) >= 0 && len(keys) < most {
			keys = append(keys, r[w.key])
		}
	}
	return keys
}

func isKeys(t *testing.T, x *Index, v api.Value, want []api.Value) {
	t.Helper()
	if got := x.Keys(v); !slices.Equal(got, want) {
		t.Fatalf("keys of %+v: %+v, not %+v", v, got, want)
	}
}

func isFrom(t *testing.T, x *Index, v api.Value, most int, want []api.Value) {
	t.Helper()
	if got := x.From(v, most); !slices.Equal(got, want) {
		t.Fatalf("%d keys from %+v on: %+v, not %+v", most, v, got, want)
	}
}

func isLen(t *testing.T, x *Index, want int) {
	t.Helper()
	if got := x.Len(); got != want {
		t.Fatalf("%d entries, not %d", got, want)
	}
}

// isAsTheWordsSay asks x all that can be asked of these values.
func isAsTheWordsSay(t *testing.T, x *Index, w *words, values []api.Value) {
	t.Helper()
	n := len(w.rows)
	isLen(t, x, n)
	for _, v := range values {
		isKeys(t, x, v, w.keys(v))
		for _, most := range []int{math.MinInt64, -1, 0, 1, 2, n / 2, n - 1, n, n + 1, math.MaxInt64} {
			isFrom(t, x, v, most, w.from(v, most))
		}
	}
}

func TestP1101Build(t *testing.T) {
	x := filled(t, shape(), line("b", 5), line("a", 9), line("", 2), line("b", -1), line("c", 4), line("a", 3))
	texts := Build(x, 0)
	isLen(t, texts, 6)
	isKeys(t, texts, text("a"), numbers(3, 9))
	isKeys(t, texts, text("b"), numbers(-1, 5))
	isKeys(t, texts, text("c"), numbers(4))
	isKeys(t, texts, api.Value{}, numbers(2))
	isFrom(t, texts, api.Value{}, 10, numbers(2, 3, 9, -1, 5, 4))
	keys := Build(x, 1)
	isLen(t, keys, 6)
	isKeys(t, keys, number(4), numbers(4))
	isKeys(t, keys, number(6), nil)
	isFrom(t, keys, number(3), 10, numbers(3, 4, 5, 9))
	truths := Build(x, 2)
	isLen(t, truths, 6)
	isKeys(t, truths, boolean(0), numbers(2, 4))
	isKeys(t, truths, boolean(1), numbers(-1, 3, 5, 9))
	isFrom(t, truths, boolean(0), 3, numbers(2, 4, -1))
}

// TestP1101Example: of an empty table, no entries.
func TestP1101Example(t *testing.T) {
	for column := range 3 {
		for _, x := range []*Index{Build(table.Table{S: shape()}, column), Build(table.Table{S: shape(), Rows: [][]api.Value{}}, column)} {
			isAsTheWordsSay(t, x, &words{}, validValues())
		}
	}
}

func TestP1101Keys(t *testing.T) {
	x := Build(filled(t, shape(), line("a", 1), line("ab", 2), line("a\x00", 3), line("a\x00\x01", 4), line("b", 5), line("", 6)), 0)
	isKeys(t, x, text("a"), numbers(1))
	isKeys(t, x, text("ab"), numbers(2))
	isKeys(t, x, text("a\x00"), numbers(3))
	isKeys(t, x, text("a\x00\x01"), numbers(4))
	for _, v := range []api.Value{text(""), text("\x00"), text("aa"), text("a\x01"), text("abc"), text("c"), number(1), number(0), boolean(0), boolean(1)} {
		isKeys(t, x, v, nil)
	}
}

func TestP1101From(t *testing.T) {
	x := Build(filled(t, shape(), line("b", 1), line("b", -7), line("", 8), line("d", 0), line("", 5), line("d", math.MinInt64), line("d", math.MaxInt64)), 0)
	for _, c := range []struct {
		v    api.Value
		most int
		want []api.Value
	}{
		{api.Value{}, 7, numbers(5, 8, -7, 1, math.MinInt64, 0, math.MaxInt64)},
		{api.Value{}, math.MaxInt64, numbers(5, 8, -7, 1, math.MinInt64, 0, math.MaxInt64)},
		{api.Value{}, 6, numbers(5, 8, -7, 1, math.MinInt64, 0)},
		{api.Value{}, 1, numbers(5)},
		{boolean(0), 3, numbers(-7, 1, math.MinInt64)},
		{number(math.MaxInt64), 3, numbers(-7, 1, math.MinInt64)},
		{text(""), 2, numbers(-7, 1)},
		{text("b"), 1, numbers(-7)},
		{text("b"), 3, numbers(-7, 1, math.MinInt64)},
		{text("b\x00"), 9, numbers(math.MinInt64, 0, math.MaxInt64)},
		{text("c"), 1, numbers(math.MinInt64)},
		{text("d"), 2, numbers(math.MinInt64, 0)},
		{text("d"), 4, numbers(math.MinInt64, 0, math.MaxInt64)},
		{text("d\x00"), 4, nil},
		{text("e"), math.MaxInt64, nil},
		{text("b"), 0, nil},
		{text("b"), -1, nil},
		{api.Value{}, math.MinInt64, nil},
	} {
		isFrom(t, x, c.v, c.most, c.want)
	}
}

func TestP1101Add(t *testing.T) {
	x := Build(filled(t, shape(), line("b", 5)), 0)
	x.Add(line("a", 9))
	x.Add(line("b", 7))
	x.Add(line("b", -7))
	x.Add(line("c", 0))
	x.Add(line("", 1))
	isLen(t, x, 6)
	isKeys(t, x, text("b"), numbers(-7, 5, 7))
	isFrom(t, x, api.Value{}, 9, numbers(1, 9, -7, 5, 7, 0))
}

// TestP1101AddAgain: an entry is told by its value and its key alone, so that one which is there already is no other one.
func TestP1101AddAgain(t *testing.T) {
	x := Build(filled(t, shape(), line("b", 5), line("c", 6)), 0)
	x.Add(line("b", 5))
	isLen(t, x, 2)
	isKeys(t, x, text("b"), numbers(5))
	x.Drop(line("b", 5))
	isLen(t, x, 1)
	isKeys(t, x, text("b"), nil)
	x.Add(line("b", 5))
	isFrom(t, x, api.Value{}, 9, numbers(5, 6))
}

func TestP1101Drop(t *testing.T) {
	x := Build(filled(t, shape(), line("b", 1), line("a", 2), line("b", 3), line("", 4), line("b", 5)), 0)
	x.Drop(line("b", 3))
	isFrom(t, x, api.Value{}, 9, numbers(4, 2, 1, 5))
	x.Drop(line("", 4))
	isFrom(t, x, api.Value{}, 9, numbers(2, 1, 5))
	x.Drop(line("b", 5))
	isFrom(t, x, api.Value{}, 9, numbers(2, 1))
	x.Drop(line("a", 2))
	isKeys(t, x, text("a"), nil)
	x.Drop(line("b", 1))
	isLen(t, x, 0)
	isFrom(t, x, api.Value{}, 9, nil)
	x.Drop(line("b", 1))
	isLen(t, x, 0)
	x.Add(line("b", 1))
	isKeys(t, x, text("b"), numbers(1))
}

// TestP1101DropByEntry: what else stands in the row does not count.
func TestP1101DropByEntry(t *testing.T) {
	for _, r := range [][]api.Value{{text("b"), number(3), boolean(0)}, {text("b"), number(3), {}}, {text("b"), number(3)}, {text("b"), number(3), text("z"), number(9)}} {
		x := Build(filled(t, shape(), line("b", 1), line("b", 3)), 0)
		x.Drop(r)
		isLen(t, x, 1)
		isKeys(t, x, text("b"), numbers(1))
	}
}

// TestP1101DropOfNone: a row whose entry is not there, though its value is there, or its key, or that is too short to have one.
func TestP1101DropOfNone(t *testing.T) {
	x := Build(filled(t, shape(), line("b", 1), line("a", 2), line("b", 3), line("", 4)), 0)
	for _, r := range [][]api.Value{line("a", 1), line("b", 2), line("b", 4), line("", 3), line("c", 1), line("b", 5), {text("b"), text("1"), boolean(1)}, {text("b"), boolean(1), boolean(1)}, {text("b"), {}, boolean(1)}, {number(3), number(3), boolean(1)}, nil, {}, {text("b")}, {{}}} {
		x.Drop(r)
		isLen(t, x, 4)
		isFrom(t, x, api.Value{}, 9, numbers(4, 2, 1, 3))
	}
	first := api.Schema{Name: "t", Cols: []api.Col{{Name: "k", Kind: api.Int}, {Name: "a", Kind: api.Int, Null: true}}}
	x = Build(filled(t, first, []api.Value{number(1), {}}), 1)
	x.Drop(numbers(1))
	isKeys(t, x, api.Value{}, numbers(1))
}

// TestP1101OfTheKey: an index of the column by which rows are told apart.
func TestP1101OfTheKey(t *testing.T) {
	for kind := api.Bool; kind <= api.Text; kind++ {
		one := table.Table{S: api.Schema{Name: "one", Cols: []api.Col{{Name: "k", Kind: kind}}}}
		w := &words{}
		for _, v := range validValues() {
			if v.Kind == kind {
				w.add([]api.Value{v})
			}
		}
		isAsTheWordsSay(t, Build(filled(t, one.S, w.rows...), 0), w, validValues())
	}
}

// TestP1101OfEachKind: values and keys of all kinds that columns may be of, held against each other.
func TestP1101OfEachKind(t *testing.T) {
	all := validValues()
	source := rand.New(rand.NewSource(1))
	for kind := api.Bool; kind <= api.Text; kind++ {
		for keyKind := api.Bool; keyKind <= api.Text; keyKind++ {
			s := api.Schema{Name: "t", Cols: []api.Col{{Name: "k", Kind: keyKind}, {Name: "a", Kind: kind, Null: true}}}
			for range 20 {
				w := &words{column: 1, key: 0}
				for _, k := range all {
					v := all[source.Intn(len(all))]
					if k.Kind == keyKind && (v.Kind == kind || v.Kind == api.Null) {
						w.add([]api.Value{k, v})
					}
				}
				isAsTheWordsSay(t, Build(filled(t, s, w.rows...), 1), w, all)
			}
		}
	}
}

// TestP1101OfEachColumn: the column that is asked for is the one that counts, wherever it and the key stand.
func TestP1101OfEachColumn(t *testing.T) {
	source := rand.New(rand.NewSource(2))
	for key := range api.MaxCols {
		s := api.Schema{Name: "t", Key: key}
		for i := range api.MaxCols {
			s.Cols = append(s.Cols, api.Col{Name: string(rune('a' + i)), Kind: api.Int})
		}
		var rows [][]api.Value
		for k := range 20 {
			var r []api.Value
			for range api.MaxCols {
				r = append(r, number(source.Intn(5)))
			}
			r[key] = number(k * 7 % 20)
			rows = append(rows, r)
		}
		x := filled(t, s, rows...)
		for column := range api.MaxCols {
			isAsTheWordsSay(t, Build(x, column), &words{column: column, key: key, rows: rows}, numbers(-1, 0, 1, 2, 3, 4, 5, 19, 20))
		}
	}
}

// TestP1101OfMany: a full table.
func TestP1101OfMany(t *testing.T) {
	w := &words{column: 0, key: 1}
	for k := range api.MaxRows {
		w.add(line(strings.Repeat("x", k%7), k*77%api.MaxRows))
	}
	values := []api.Value{{}}
	for n := range 8 {
		values = append(values, text(strings.Repeat("x", n)))
	}
	x := Build(filled(t, shape(), w.rows...), 0)
	isAsTheWordsSay(t, x, w, values)
	isLen(t, x, 200)
}

// someValue draws one of few, so that several rows have it.
func someValue(source *rand.Rand) api.Value {
	return [...]api.Value{{}, text(""), text("\x00"), text("a"), text("a\x00"), text("ab"), text("b")}[source.Intn(7)]
}

// TestP1101AsTheWordsSay: over chance orders of calls.
func TestP1101AsTheWordsSay(t *testing.T) {
	source := rand.New(rand.NewSource(3))
	for range 100 {
		x, w := Build(table.Table{S: shape()}, 0), &words{column: 0, key: 1}
		for range 60 {
			k := number(source.Intn(12) - 6)
			taken := slices.IndexFunc(w.rows, func(r []api.Value) bool { return r[1] == k })
			r := []api.Value{someValue(source), k, boolean(source.Intn(2))}
			switch {
			case taken < 0 && source.Intn(3) > 0:
				x.Add(r)
				w.add(r)
			case taken >= 0 && source.Intn(2) > 0:
				r = slices.Clone(w.rows[taken])
				fallthrough
			default:
				x.Drop(r)
				w.drop(r)
			}
			isLen(t, x, len(w.rows))
			v, most := someValue(source), source.Intn(16)-2
			isKeys(t, x, v, w.keys(v))
			isFrom(t, x, v, most, w.from(v, most))
		}
		isAsTheWordsSay(t, x, w, validValues())
	}
}

// orders are all orders of rows.
func orders(rows [][]api.Value) [][][]api.Value {
	if len(rows) == 0 {
		return [][][]api.Value{nil}
	}
	var all [][][]api.Value
	for i, r := range rows {
		rest := slices.Delete(slices.Clone(rows), i, i+1)
		for _, o := range orders(rest) {
			all = append(all, append([][]api.Value{r}, o...))
		}
	}
	return all
}

// TestP1102WhateverOrder: built, or added in each order there is.
func TestP1102WhateverOrder(t *testing.T) {
	rows := [][]api.Value{line("a", 1), line("b", 2), line("a", 0), line("", 3), line("b", -1)}
	for column := range 3 {
		built := Build(filled(t, shape(), rows...), column)
		for _, order := range orders(rows) {
			x := Build(table.Table{S: shape()}, column)
			for _, r := range order {
				x.Add(r)
			}
			isAlike(t, x, built)
		}
	}
}

// isAlike holds all that two indexes answer against each other.
func isAlike(t *testing.T, a, b *Index) {
	t.Helper()
	isLen(t, a, b.Len())
	for _, v := range validValues() {
		isKeys(t, a, v, b.Keys(v))
		for most := range b.Len() + 2 {
			isFrom(t, a, v, most, b.From(v, most))
		}
	}
}

// TestP1102OnTheWay: what was added and dropped on the way does not count; nor does how many rows the table had that it was built from.
func TestP1102OnTheWay(t *testing.T) {
	source := rand.New(rand.NewSource(4))
	for size := range 20 {
		var rows [][]api.Value
		for _, k := range source.Perm(size) {
			rows = append(rows, []api.Value{someValue(source), number(k), boolean(k & 1)})
		}
		some := source.Intn(size + 1)
		for column := range 3 {
			built := Build(filled(t, shape(), rows...), column)
			x := Build(filled(t, shape(), rows[:some]...), column)
			for k := range 10 {
				x.Add(line("a", 100+k))
			}
			for _, i := range source.Perm(size - some) {
				x.Add(rows[some+i])
			}
			for _, k := range source.Perm(10) {
				x.Drop(line("a", 100+k))
			}
			isAlike(t, x, built)
		}
	}
}

// oddTables are tables that no calls lead to.
func oddTables() []table.Table {
	none := [][]api.Value{nil, {}, nil}
	odd := []table.Table{{}, {Rows: none}, {Rows: [][]api.Value{wrongValues()}}, {S: shape(), Rows: none}, {S: shape(), Rows: [][]api.Value{line("b", 9), line("a", 5), line("b", 9), line("a", 5)}}}
	for _, key := range []int{-1, 3, 4, math.MaxInt64, math.MinInt64} {
		x := table.Table{S: shape(), Rows: [][]api.Value{line("b", 1), line("a", 2)}}
		x.S.Key = key
		odd = append(odd, x)
	}
	mixed := table.Table{S: shape()}
	for i, v := range append(validValues(), wrongValues()...) {
		mixed.Rows = append(mixed.Rows, slices.Repeat([]api.Value{v}, i%5))
	}
	wide := table.Table{S: api.Schema{Cols: make([]api.Col, 1<<12), Key: 1 << 11}, Rows: [][]api.Value{make([]api.Value, 1<<12)}}
	many := table.Table{S: shape()}
	for k := range 1000 {
		many.Rows = append(many.Rows, line("x", -k))
	}
	return append(odd, mixed, wide, many)
}

// TestP1AnyIndex: each call ends, whatever it is handed.
func TestP1AnyIndex(t *testing.T) {
	values := append(validValues(), wrongValues()...)
	rows := [][]api.Value{nil, {}, make([]api.Value, 1<<12), line("a", 5)}
	for _, v := range values {
		rows = append(rows, []api.Value{v}, []api.Value{v, v}, []api.Value{{}, v, v, v})
	}
	for _, from := range oddTables() {
		for _, column := range []int{math.MinInt64, -1, 0, 1, 2, 3, 6, 1 << 11, math.MaxInt64} {
			x := Build(from, column)
			for i, r := range rows {
				x.Add(r)
				x.Drop(rows[len(rows)-1-i])
			}
			for _, v := range values {
				x.Keys(v)
				for _, most := range []int{math.MinInt64, -1, 0, 1, math.MaxInt64} {
					x.From(v, most)
				}
			}
			x.Len()
		}
	}
}

// TestP1OfNothing: an index that was not built has no entries.
func TestP1OfNothing(t *testing.T) {
	isAsTheWordsSay(t, new(Index), &words{}, validValues())
	x := new(Index)
	x.Drop(line("a", 1))
	isLen(t, x, 0)
	x.Add(line("a", 1))
	isLen(t, x, 1)
}

// roomy is r with spare room, in which something stands.
func roomy(r []api.Value) []api.Value {
	return append(slices.Clone(r), text("spare"), number(77))[:len(r)]
}

func spoil(l []api.Value) {
	for i := range l[:cap(l)] {
		l[:cap(l)][i] = text("spoiled")
	}
}

// TestP2HandedIn: it stays as it was, its spare room too, and is not kept.
func TestP2HandedIn(t *testing.T) {
	x := filled(t, shape(), line("b", 5), line("a", 9), line("", 2))
	for i, r := range x.Rows {
		x.Rows[i] = roomy(r)
	}
	x.Rows = append(x.Rows, line("y", 98), line("z", 99))[:3]
	built := Build(x, 0)
	for i, want := range [][]api.Value{line("", 2), line("b", 5), line("a", 9), line("y", 98), line("z", 99)} {
		r := x.Rows[:5][i]
		if !slices.Equal(r, want) || i < 3 && !slices.Equal(r[:cap(r)][3:5], []api.Value{text("spare"), number(77)}) {
			t.Errorf("row %d has changed: %+v", i, r[:cap(r)])
		}
	}
	added, dropped := roomy(line("a", 1)), roomy(line("b", 5))
	built.Add(added)
	built.Drop(dropped)
	if !slices.Equal(added[:5], append(line("a", 1), text("spare"), number(77))) || !slices.Equal(dropped[:5], append(line("b", 5), text("spare"), number(77))) {
		t.Error("a row has changed")
	}
	for _, r := range append(x.Rows, added, dropped) {
		spoil(r)
	}
	clear(x.Rows)
	isLen(t, built, 3)
	isFrom(t, built, api.Value{}, 9, numbers(2, 1, 9))
}

// TestP2Answers: what is done to an answer, its spare room too, nobody else can tell.
func TestP2Answers(t *testing.T) {
	x := Build(filled(t, shape(), line("b", 5), line("b", 9), line("", 2), line("b", 7)), 0)
	for range 2 {
		for _, call := range []func() []api.Value{
			func() []api.Value { return x.Keys(text("b")) },
			func() []api.Value { return x.From(text("a"), 3) },
			func() []api.Value { return x.From(text("b"), 9) },
		} {
			one, other := call(), call()
			spoil(one)
			if want := numbers(5, 7, 9); !slices.Equal(other, want) || !slices.Equal(call(), want) {
				t.Errorf("%+v: an answer shares memory", other)
			}
		}
		isFrom(t, x, api.Value{}, 1, numbers(2))
		isFrom(t, x, api.Value{}, 9, numbers(2, 5, 7, 9))
	}
	l := x.Keys(text("b"))
	x.Drop(line("b", 5))
	x.Add(line("b", 0))
	if !slices.Equal(l, numbers(5, 7, 9)) {
		t.Errorf("an answer has changed: %+v", l)
	}
}

// TestP3TheSameAgain: asking changes nothing.
func TestP3TheSameAgain(t *testing.T) {
	source := rand.New(rand.NewSource(5))
	var rows [][]api.Value
	for k := range 30 {
		rows = append(rows, []api.Value{someValue(source), number(k), boolean(0)})
	}
	x := Build(filled(t, shape(), rows...), 0)
	w := &words{column: 0, key: 1, rows: rows}
	for range 3 {
		isAsTheWordsSay(t, x, w, validValues())
	}
}

// TestP7OfOneTable: indexes of one table are each their own.
func TestP7OfOneTable(t *testing.T) {
	from := filled(t, shape(), line("a", 1), line("b", 2))
	x, y := Build(from, 0), Build(from, 0)
	x.Add(line("c", 3))
	x.Drop(line("a", 1))
	isFrom(t, x, api.Value{}, 9, numbers(2, 3))
	isFrom(t, y, api.Value{}, 9, numbers(1, 2))
	isFrom(t, Build(from, 0), api.Value{}, 9, numbers(1, 2))
	if !table.Same(from, filled(t, shape(), line("a", 1), line("b", 2))) {
		t.Error("the table has changed")
	}
}

// TestP7SideBySide: several indexes at once, and one that is asked from beside its changes: each answer is of the index as it was at one time.
func TestP7SideBySide(t *testing.T) {
	var all sync.WaitGroup
	faults := make([]int, 8)
	shared := Build(filled(t, shape(), line("a", -1)), 0)
	all.Go(func() {
		for k := range 500 {
			shared.Add(line("a", k))
		}
	})
	for i := range faults {
		all.Go(func() {
			own := Build(table.Table{S: shape()}, 0)
			for k := range 200 {
				own.Add(line("b", -k))
				if l := own.Keys(text("b")); len(l) != k+1 || l[0] != number(-k) || own.Len() != k+1 {
					faults[i]++
				}
				least := shared.Len()
				l := shared.Keys(text("a"))
				if len(l) < least || l[len(l)-1] != number(len(l)-2) || shared.Len() < len(l) {
					faults[i]++
				}
			}
		})
	}
	all.Wait()
	isLen(t, shared, 501)
	for i, n := range faults {
		if n > 0 {
			t.Errorf("%d: %d answers", i, n)
		}
	}
}
