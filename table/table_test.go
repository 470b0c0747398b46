package table

import (
	"math"
	"math/rand"
	"slices"
	"strings"
	"sync"
	"testing"

	"ledgerline/api"
	"ledgerline/row"
	"ledgerline/value"
)

func boolean(n int) api.Value { return api.Value{Kind: api.Bool, N: n} }

func number(n int) api.Value { return api.Value{Kind: api.Int, N: n} }

func text(s string) api.Value { return api.Value{Kind: api.Text, S: s} }

// validValues are values that may be, in order, the bounds of each kind among them.
func validValues() []api.Value {
	all := []api.Value{{}, boolean(0), boolean(1)}
	for _, n := range []int{math.MinInt64, math.MinInt64 + 1, -256, -2, -1, 0, 1, 2, 255, 256, math.MaxInt32 + 1, math.MaxInt64 - 1, math.MaxInt64} {
		all = append(all, number(n))
	}
	for _, s := range []string{"", "\x00", "\x00\x00", "\x00\x01", "'", "a", "a\x00", "ab", "b", strings.Repeat("\xff", 59), strings.Repeat("\xff", 60)} {
		all = append(all, text(s))
	}
	return all
}

// wrongValues are values that may not be.
func wrongValues() []api.Value {
	long := strings.Repeat("a", 61)
	return []api.Value{{Kind: -1}, {Kind: 4}, {N: 1}, {S: "a"}, boolean(2), {Kind: api.Bool, S: "a"}, {Kind: api.Int, S: "a"}, {Kind: api.Text, N: 1}, text(long), {Kind: math.MinInt64, N: math.MinInt64, S: long}}
}

// shape is that of a table of three columns whose key is a number in the middle.
func shape() api.Schema {
	return api.Schema{Name: "t", Cols: []api.Col{{Name: "a", Kind: api.Text, Null: true}, {Name: "k", Kind: api.Int}, {Name: "c", Kind: api.Bool}}, Key: 1}
}

// line is a row of that shape; what stands in it hangs on its key.
func line(key int) []api.Value {
	return []api.Value{text(strings.Repeat("x", key&7)), number(key), boolean(key & 1)}
}

// lines is a table of that shape with rows of these keys, which are in order. It is made without the package's calls.
func lines(keys ...int) Table {
	t := Table{S: shape()}
	for _, k := range keys {
		t.Rows = append(t.Rows, line(k))
	}
	return t
}

// upTo are the numbers from 0 on that are less than n.
func upTo(n int) []int {
	var all []int
	for i := range n {
		all = append(all, i)
	}
	return all
}

// ofKind is a table with one column.
func ofKind(kind int) Table {
	return Table{S: api.Schema{Name: "one", Cols: []api.Col{{Name: "k", Kind: kind}}}}
}

// equal holds two tables against each other field by field.
func equal(a, b Table) bool {
	return a.S.Name == b.S.Name && slices.Equal(a.S.Cols, b.S.Cols) && a.S.Key == b.S.Key && a.S.Only == b.S.Only && equalRows(a.Rows, b.Rows)
}

func equalRows(a, b [][]api.Value) bool {
	if len(a) != len(b) {
		return false
	}
	for i := range a {
		if !slices.Equal(a[i], b[i]) {
			return false
		}
	}
	return true
}

// roomy is t in memory of its own, each list of it with two elements of spare room, in which something stands.
func roomy(t Table) Table {
	t.S.Cols = append(slices.Clone(t.S.Cols), api.Col{Name: "spare"}, api.Col{Name: "room", Kind: 7})[:len(t.S.Cols)]
	rows := make([][]api.Value, 0, len(t.Rows)+2)
	for _, r := range t.Rows {
		rows = append(rows, roomyRow(r))
	}
	t.Rows = append(rows, roomyRow(line(98)), roomyRow(line(99)))[:len(t.Rows)]
	return t
}

func roomyRow(r []api.Value) []api.Value {
	return append(slices.Clone(r), text("spare"), number(77))[:len(r)]
}

// whole is t with all that stands in the spare room of its lists.
func whole(t Table) Table {
	t.S.Cols = t.S.Cols[:cap(t.S.Cols)]
	t.Rows = slices.Clone(t.Rows[:cap(t.Rows)])
	for i, r := range t.Rows {
		t.Rows[i] = r[:cap(r)]
	}
	return t
}

// clone is t in memory of its own.
func clone(t Table) Table {
	t.S.Cols = slices.Clone(t.S.Cols)
	t.Rows = cloneRows(t.Rows)
	return t
}

func cloneRows(rows [][]api.Value) [][]api.Value {
	rows = slices.Clone(rows)
	for i, r := range rows {
		rows[i] = slices.Clone(r)
	}
	return rows
}

// spoil writes over all of t's lists, their spare room too.
func spoil(t Table) {
	for i := range t.S.Cols[:cap(t.S.Cols)] {
		t.S.Cols[:cap(t.S.Cols)][i] = api.Col{Name: "spoiled", Kind: 9}
	}
	spoilRows(t.Rows)
}

func spoilRows(rows [][]api.Value) {
	rows = rows[:cap(rows)]
	for i, r := range rows {
		spoilRow(r)
		rows[i] = []api.Value{text("spoiled")}
	}
}

func spoilRow(r []api.Value) {
	for i := range r[:cap(r)] {
		r[:cap(r)][i] = text("spoiled")
	}
}

// keyOf is a row's key, in a table that may be.
func keyOf(t Table, r []api.Value) api.Value { return r[t.S.Key] }

// wantAt is the place of the row of key k; false: there is none.
func wantAt(t Table, k api.Value) (int, bool) {
	for i, r := range t.Rows {
		if value.Compare(keyOf(t, r), k) == 0 {
			return i, true
		}
	}
	return 0, false
}

// wantPut is the document's words as they stand.
func wantPut(t Table, r []api.Value) (Table, api.Errno) {
	if e := row.Fits(t.S, r); e != api.OK {
		return t, e
	}
	if _, is := wantAt(t, keyOf(t, r)); is {
		return t, api.ErrIs
	}
	if len(t.Rows) >= 200 {
		return t, api.ErrMany
	}
	var rows [][]api.Value
	for _, x := range t.Rows {
		if value.Compare(keyOf(t, x), keyOf(t, r)) < 0 {
			rows = append(rows, x)
		}
	}
	rows = append(rows, r)
	rows = append(rows, t.Rows[len(rows)-1:]...)
	return Table{S: t.S, Rows: rows}, api.OK
}

// wantTake is the document's words as they stand.
func wantTake(t Table, k api.Value) (Table, []api.Value, api.Errno) {
	at, is := wantAt(t, k)
	if !is {
		return t, nil, api.ErrNone
	}
	return Table{S: t.S, Rows: slices.Concat(t.Rows[:at], t.Rows[at+1:])}, t.Rows[at], api.OK
}

// wantRange is the document's words as they stand.
func wantRange(t Table, lo, hi api.Value) [][]api.Value {
	var rows [][]api.Value
	for _, r := range t.Rows {
		k := keyOf(t, r)
		if (lo.Kind == api.Null || value.Compare(k, lo) >= 0) && (hi.Kind == api.Null || value.Compare(k, hi) <= 0) {
			rows = append(rows, r)
		}
	}
	return rows
}

func isPut(t *testing.T, was Table, r []api.Value, want Table, wantE api.Errno) Table {
	t.Helper()
	got, e := Put(was, r)
	if e != wantE || !equal(got, want) {
		t.Fatalf("%+v put into %+v: %+v, %v, not %+v, %v", r, was, got, e, want, wantE)
	}
	return got
}

func isTaken(t *testing.T, was Table, k api.Value, want Table, wantR []api.Value, wantE api.Errno) Table {
	t.Helper()
	got, r, e := Take(was, k)
	if e != wantE || !equal(got, want) || !slices.Equal(r, wantR) || e != api.OK && r != nil {
		t.Fatalf("%+v taken from %+v: %+v, %+v, %v, not %+v, %+v, %v", k, was, got, r, e, want, wantR, wantE)
	}
	return got
}

func isGot(t *testing.T, from Table, k api.Value, want []api.Value, wantIs bool) {
	t.Helper()
	if r, is := Get(from, k); is != wantIs || !slices.Equal(r, want) || !is && r != nil {
		t.Errorf("%+v of %+v: %+v, %v", k, from, r, is)
	}
}

func isRange(t *testing.T, from Table, lo, hi api.Value, want [][]api.Value) {
	t.Helper()
	if got := Range(from, lo, hi); !equalRows(got, want) {
		t.Errorf("%+v to %+v of %+v: %+v, not %+v", lo, hi, from, got, want)
	}
}

func TestP1001Put(t *testing.T) {
	x := lines()
	for _, c := range []struct {
		key  int
		want []int
	}{{5, []int{5}}, {-3, []int{-3, 5}}, {9, []int{-3, 5, 9}}, {0, []int{-3, 0, 5, 9}}, {7, []int{-3, 0, 5, 7, 9}}, {math.MaxInt64, []int{-3, 0, 5, 7, 9, math.MaxInt64}}, {math.MinInt64, []int{math.MinInt64, -3, 0, 5, 7, 9, math.MaxInt64}}} {
		x = isPut(t, x, line(c.key), lines(c.want...), api.OK)
	}
}

// TestP1001PutOfEachKind: keys of each kind that a column may be of, put in an order that is not theirs.
func TestP1001PutOfEachKind(t *testing.T) {
	source := rand.New(rand.NewSource(1))
	for kind := api.Bool; kind <= api.Text; kind++ {
		want := ofKind(kind)
		for _, v := range validValues() {
			if v.Kind == kind {
				want.Rows = append(want.Rows, []api.Value{v})
			}
		}
		for range 50 {
			x := ofKind(kind)
			for _, i := range source.Perm(len(want.Rows)) {
				x, _ = Put(x, want.Rows[i])
			}
			if !equal(x, want) {
				t.Fatalf("kind %d: %+v", kind, x)
			}
		}
	}
}

// TestP1001PutOfEachKey: whichever column is the key, that one alone puts rows in order and tells them apart.
func TestP1001PutOfEachKey(t *testing.T) {
	for key := range api.MaxCols {
		s := api.Schema{Name: "t", Key: key}
		for i := range api.MaxCols {
			s.Cols = append(s.Cols, api.Col{Name: string(rune('a' + i)), Kind: api.Int})
		}
		r := func(k, others int) []api.Value {
			r := slices.Repeat([]api.Value{number(others)}, api.MaxCols)
			r[key] = number(k)
			return r
		}
		x := isPut(t, Table{S: s}, r(2, 1), Table{S: s, Rows: [][]api.Value{r(2, 1)}}, api.OK)
		x = isPut(t, x, r(1, 9), Table{S: s, Rows: [][]api.Value{r(1, 9), r(2, 1)}}, api.OK)
		x = isPut(t, x, r(3, 1), Table{S: s, Rows: [][]api.Value{r(1, 9), r(2, 1), r(3, 1)}}, api.OK)
		isPut(t, x, r(2, 5), x, api.ErrIs)
		isTaken(t, x, number(9), x, nil, api.ErrNone)
		isTaken(t, x, number(1), Table{S: s, Rows: [][]api.Value{r(2, 1), r(3, 1)}}, r(1, 9), api.OK)
	}
}

func TestP1001PutRefused(t *testing.T) {
	long := text(strings.Repeat("a", 61))
	for _, x := range []Table{lines(), lines(5), lines(-1, 5, 8), lines(upTo(200)...)} {
		for _, c := range []struct {
			r    []api.Value
			want api.Errno
		}{
			{nil, api.ErrArg}, {[]api.Value{}, api.ErrArg}, {line(5)[:2], api.ErrArg}, {append(line(5), number(1)), api.ErrArg},
			{[]api.Value{{Kind: 4}, number(5), boolean(0)}, api.ErrKind}, {[]api.Value{{N: 1}, number(5), boolean(0)}, api.ErrArg}, {[]api.Value{long, number(5), boolean(0)}, api.ErrLong},
			{[]api.Value{{}, {}, boolean(0)}, api.ErrNull}, {[]api.Value{{}, number(5), {}}, api.ErrNull},
			{[]api.Value{{}, text("5"), boolean(0)}, api.ErrKind}, {[]api.Value{number(1), number(5), boolean(0)}, api.ErrKind}, {[]api.Value{{}, number(5), boolean(2)}, api.ErrArg},
			{[]api.Value{{}, {}, {Kind: 9}}, api.ErrNull}, {[]api.Value{long, {}, {}}, api.ErrLong},
		} {
			isPut(t, x, c.r, x, c.want)
		}
	}
	isPut(t, lines(5), line(5), lines(5), api.ErrIs)
	isPut(t, lines(5), []api.Value{{}, number(5), boolean(0)}, lines(5), api.ErrIs)
	isPut(t, Table{}, line(5), Table{}, api.ErrArg)
}

// TestP1001PutOfManyRows: 200 are as many as there may be; a key that is there is told ahead of it.
func TestP1001PutOfManyRows(t *testing.T) {
	x := lines()
	for _, k := range rand.New(rand.NewSource(2)).Perm(200) {
		y, e := Put(x, line(k))
		if e != api.OK || len(y.Rows) != len(x.Rows)+1 {
			t.Fatalf("%d rows: %v", len(x.Rows), e)
		}
		x = y
	}
	if !equal(x, lines(upTo(200)...)) {
		t.Fatal("not in order")
	}
	for _, k := range []int{-1, 200, math.MaxInt64} {
		isPut(t, x, line(k), x, api.ErrMany)
	}
	for _, k := range []int{0, 100, 199} {
		isPut(t, x, line(k), x, api.ErrIs)
	}
	x = isTaken(t, x, number(100), lines(slices.Delete(upTo(200), 100, 101)...), line(100), api.OK)
	x = isPut(t, x, line(200), lines(slices.Delete(upTo(201), 100, 101)...), api.OK)
	isPut(t, x, line(100), x, api.ErrMany)
}

func TestP1001Take(t *testing.T) {
	x := lines(-3, 0, 5, 7, 9)
	x = isTaken(t, x, number(0), lines(-3, 5, 7, 9), line(0), api.OK)
	x = isTaken(t, x, number(9), lines(-3, 5, 7), line(9), api.OK)
	x = isTaken(t, x, number(-3), lines(5, 7), line(-3), api.OK)
	x = isTaken(t, x, number(7), lines(5), line(7), api.OK)
	x = isTaken(t, x, number(5), lines(), line(5), api.OK)
	isTaken(t, x, number(5), lines(), nil, api.ErrNone)
}

// TestP1001TakeExample: of an empty table.
func TestP1001TakeExample(t *testing.T) {
	for _, x := range []Table{lines(), ofKind(api.Bool), ofKind(api.Int), ofKind(api.Text), {S: shape(), Rows: [][]api.Value{}}} {
		for _, v := range validValues() {
			isTaken(t, x, v, x, nil, api.ErrNone)
		}
	}
}

// TestP1001TakeRefused: keys that lie between others, ahead of them or behind, or are of another kind.
func TestP1001TakeRefused(t *testing.T) {
	x := lines(-3, 0, 5, 7, 9)
	for _, k := range []api.Value{{}, boolean(0), boolean(1), number(-4), number(-1), number(1), number(8), number(10), number(math.MinInt64), number(math.MaxInt64), text(""), text("0"), text("5")} {
		isTaken(t, x, k, x, nil, api.ErrNone)
		isGot(t, x, k, nil, false)
	}
}

// TestP1001TakeOfOnly: that rows may be added alone, this layer does not ask.
func TestP1001TakeOfOnly(t *testing.T) {
	x := Table{S: shape()}
	x.S.Only = true
	one := Table{S: x.S, Rows: [][]api.Value{line(4)}}
	isTaken(t, isPut(t, x, line(4), one, api.OK), number(4), x, line(4), api.OK)
}

func TestP1001Get(t *testing.T) {
	for size := range 20 {
		x := lines()
		for k := range size {
			x.Rows = append(x.Rows, line(2*k))
		}
		for k := -1; k <= 2*size; k++ {
			if k >= 0 && k < 2*size && k%2 == 0 {
				isGot(t, x, number(k), line(k), true)
			} else {
				isGot(t, x, number(k), nil, false)
			}
		}
		for _, k := range []api.Value{{}, boolean(0), text("")} {
			isGot(t, x, k, nil, false)
		}
	}
	x := Table{S: shape(), Rows: [][]api.Value{{{}, number(1), boolean(0)}, {text("b"), number(2), boolean(1)}}}
	isGot(t, x, number(1), []api.Value{{}, number(1), boolean(0)}, true)
	isGot(t, x, number(2), []api.Value{text("b"), number(2), boolean(1)}, true)
	isGot(t, Table{}, api.Value{}, nil, false)
}

func TestP1001Range(t *testing.T) {
	x := lines(-3, 0, 5, 7, 9)
	for _, c := range []struct {
		lo, hi api.Value
		want   []int
	}{
		{api.Value{}, api.Value{}, []int{-3, 0, 5, 7, 9}},
		{number(0), api.Value{}, []int{0, 5, 7, 9}},
		{number(1), api.Value{}, []int{5, 7, 9}},
		{number(10), api.Value{}, nil},
		{api.Value{}, number(5), []int{-3, 0, 5}},
		{api.Value{}, number(6), []int{-3, 0, 5}},
		{api.Value{}, number(-4), nil},
		{number(-3), number(9), []int{-3, 0, 5, 7, 9}},
		{number(1), number(8), []int{5, 7}},
		{number(5), number(5), []int{5}},
		{number(6), number(6), nil},
		{number(9), number(0), nil},
		{number(7), number(5), nil},
		{boolean(1), text(""), []int{-3, 0, 5, 7, 9}},
		{text(""), api.Value{}, nil},
		{api.Value{}, boolean(1), nil},
		{text("z"), boolean(0), nil},
	} {
		isRange(t, x, c.lo, c.hi, lines(c.want...).Rows)
		isRange(t, lines(), c.lo, c.hi, nil)
	}
	isRange(t, Table{}, api.Value{}, api.Value{}, nil)
}

// TestP1001RangeOfEachPair: of tables of each kind, all bounds held against all keys.
func TestP1001RangeOfEachPair(t *testing.T) {
	all := validValues()
	for kind := api.Bool; kind <= api.Text; kind++ {
		for skip := range 3 {
			x := ofKind(kind)
			for i, v := range all {
				if v.Kind == kind && i%3 != skip {
					x.Rows = append(x.Rows, []api.Value{v})
				}
			}
			for _, lo := range all {
				for _, hi := range all {
					isRange(t, x, lo, hi, wantRange(x, lo, hi))
				}
			}
		}
	}
}

func isSame(t *testing.T, a, b Table, want bool) {
	t.Helper()
	if Same(a, b) != want || Same(b, a) != want {
		t.Errorf("%+v, %+v: not %v", a, b, want)
	}
}

func TestP1001Same(t *testing.T) {
	was := lines(-3, 0, 5)
	isSame(t, was, lines(-3, 0, 5), true)
	isSame(t, was, roomy(was), true)
	for i, change := range []func(x *Table){
		func(x *Table) { x.S.Name = "s" },
		func(x *Table) { x.S.Key = 0 },
		func(x *Table) { x.S.Only = true },
		func(x *Table) { x.S.Cols = x.S.Cols[:2] },
		func(x *Table) { x.S.Cols[0].Null = false },
		func(x *Table) { x.S.Cols[2].Name = "z" },
		func(x *Table) { x.S.Cols[2].Kind = 0 },
		func(x *Table) { x.Rows = nil },
		func(x *Table) { x.Rows = x.Rows[:2] },
		func(x *Table) { x.Rows = x.Rows[1:] },
		func(x *Table) { x.Rows = append(x.Rows, nil) },
		func(x *Table) { x.Rows = append(x.Rows, line(9)) },
		func(x *Table) { slices.Reverse(x.Rows) },
		func(x *Table) { x.Rows[0] = nil },
		func(x *Table) { x.Rows[1] = x.Rows[0] },
		func(x *Table) { x.Rows[2] = x.Rows[2][:2] },
		func(x *Table) { x.Rows[2] = append(x.Rows[2], api.Value{}) },
		func(x *Table) { slices.Reverse(x.Rows[1]) },
		func(x *Table) { x.Rows[0][0].S += "x" },
		func(x *Table) { x.Rows[1][0] = api.Value{} },
		func(x *Table) { x.Rows[1][1].N++ },
		func(x *Table) { x.Rows[2][2].N ^= 1 },
		func(x *Table) { x.Rows[2][2].Kind = api.Int },
		func(x *Table) { x.Rows[2][2].S = "x" },
		func(x *Table) { x.Rows[2][1].N += 1 << 32 },
	} {
		x := lines(-3, 0, 5)
		change(&x)
		if equal(was, x) {
			t.Fatalf("change %d: none", i)
		}
		isSame(t, was, x, false)
		isSame(t, x, clone(x), true)
	}
}

// TestP1001SameOfNothing: no list and an empty one are the same (P2); a row of nothing is a row.
func TestP1001SameOfNothing(t *testing.T) {
	none := Table{}
	empty := Table{S: api.Schema{Cols: []api.Col{}}, Rows: [][]api.Value{}}
	isSame(t, none, empty, true)
	isSame(t, none, Table{Rows: lines(1, 2).Rows[:0]}, true)
	isSame(t, none, Table{Rows: [][]api.Value{nil}}, false)
	isSame(t, Table{Rows: [][]api.Value{nil, {}}}, Table{Rows: [][]api.Value{{}, nil}}, true)
	isSame(t, Table{Rows: [][]api.Value{nil, {}}}, Table{Rows: [][]api.Value{{}}}, false)
	isSame(t, Table{Rows: [][]api.Value{{{}}}}, Table{Rows: [][]api.Value{{}}}, false)
}

// someShape draws one that may be; its columns are of any kinds.
func someShape(source *rand.Rand) api.Schema {
	s := api.Schema{Name: "t", Only: source.Intn(2) == 0}
	for i := range 1 + source.Intn(api.MaxCols) {
		s.Cols = append(s.Cols, api.Col{Name: string(rune('a' + i)), Kind: 1 + source.Intn(3), Null: source.Intn(2) == 0})
	}
	s.Key = source.Intn(len(s.Cols))
	s.Cols[s.Key].Null = false
	return s
}

// someValue draws one of few, so that many are there already.
func someValue(source *rand.Rand, kind int) api.Value {
	switch kind {
	case api.Bool:
		return boolean(source.Intn(2))
	case api.Int:
		return number(source.Intn(40) - 20)
	case api.Text:
		return text(strings.Repeat(string(rune('a'+source.Intn(3))), source.Intn(8)))
	}
	return api.Value{}
}

// someRow draws a row of that shape; now and then one that does not fit.
func someRow(source *rand.Rand, s api.Schema) []api.Value {
	var r []api.Value
	for _, c := range s.Cols {
		switch {
		case c.Null && source.Intn(3) == 0:
			r = append(r, api.Value{})
		case source.Intn(60) == 0:
			all := append(validValues(), wrongValues()...)
			r = append(r, all[source.Intn(len(all))])
		default:
			r = append(r, someValue(source, c.Kind))
		}
	}
	if source.Intn(60) == 0 {
		r = append(r, number(1))
	}
	return r
}

// TestP1001AsTheWordsSay: over chance orders of calls. What is answered is told by the words, call by call; and what is handed in stays as it was (P2).
func TestP1001AsTheWordsSay(t *testing.T) {
	source := rand.New(rand.NewSource(3))
	seen := map[api.Errno]int{}
	for range 150 {
		x := Table{S: someShape(source)}
		for range 150 {
			x = roomy(x)
			was := clone(whole(x))
			next := x
			if source.Intn(3) > 0 {
				r := someRow(source, x.S)
				want, e := wantPut(x, r)
				next = isPut(t, x, r, want, e)
				seen[e]++
			} else {
				k := someValue(source, source.Intn(9)%4)
				if source.Intn(4) > 0 {
					k = someValue(source, x.S.Cols[x.S.Key].Kind)
				}
				want, r, e := wantTake(x, k)
				isGot(t, x, k, r, e == api.OK)
				next = isTaken(t, x, k, want, r, e)
				seen[e]++
			}
			lo, hi := someValue(source, source.Intn(4)), someValue(source, source.Intn(4))
			isRange(t, x, lo, hi, wantRange(x, lo, hi))
			isSame(t, x, next, equal(x, next))
			if !equal(whole(x), was) {
				t.Fatalf("what was handed in has changed: %+v", x)
			}
			x = next
		}
	}
	for _, e := range []api.Errno{api.OK, api.ErrArg, api.ErrLong, api.ErrKind, api.ErrNull, api.ErrIs, api.ErrNone} {
		if seen[e] == 0 {
			t.Errorf("no call was drawn for %v", e)
		}
	}
}

func TestP1002InOrder(t *testing.T) {
	source := rand.New(rand.NewSource(4))
	for range 30 {
		x := Table{S: someShape(source)}
		there := map[api.Value][]api.Value{}
		for range 300 {
			if r := someRow(source, x.S); source.Intn(3) > 0 {
				y, e := Put(x, r)
				if e == api.OK {
					there[r[x.S.Key]] = r
				}
				x = y
			} else if len(r) > x.S.Key {
				y, _, e := Take(x, r[x.S.Key])
				if e == api.OK {
					delete(there, r[x.S.Key])
				}
				x = y
			}
			isInOrder(t, x)
			if len(x.Rows) != len(there) {
				t.Fatalf("%d rows, not %d", len(x.Rows), len(there))
			}
			for _, r := range x.Rows {
				if !slices.Equal(there[r[x.S.Key]], r) {
					t.Fatalf("%+v, not %+v", r, there[r[x.S.Key]])
				}
			}
		}
	}
}

// isInOrder: of each two neighbours the first one's key is the lesser.
func isInOrder(t *testing.T, x Table) {
	t.Helper()
	for i := 1; i < len(x.Rows); i++ {
		if value.Compare(keyOf(x, x.Rows[i-1]), keyOf(x, x.Rows[i])) >= 0 {
			t.Fatalf("row %d: %+v", i, x.Rows)
		}
	}
}

// TestP1002WhateverOrder: the same rows make the same table, in whatever order they came, and whatever was taken on the way.
func TestP1002WhateverOrder(t *testing.T) {
	source := rand.New(rand.NewSource(5))
	for size := range 30 {
		x := lines()
		for _, k := range source.Perm(2 * size) {
			x, _ = Put(x, line(k))
		}
		for _, k := range source.Perm(size) {
			x, _, _ = Take(x, number(2*k+1))
		}
		want := lines()
		for k := range size {
			want.Rows = append(want.Rows, line(2*k))
		}
		isSame(t, x, want, true)
	}
}

// oddTables are tables that no calls lead to.
func oddTables() []Table {
	none := [][]api.Value{nil, {}, nil}
	odd := []Table{{}, {Rows: none}, {Rows: [][]api.Value{wrongValues()}}, {S: shape(), Rows: none}, lines(9, 5, 7, 5, 5, -3), lines(upTo(1000)...)}
	for _, key := range []int{-1, 3, 4, math.MaxInt64, math.MinInt64} {
		x := lines(1, 2, 3)
		x.S.Key = key
		odd = append(odd, x)
	}
	mixed := Table{S: shape()}
	for i, v := range append(validValues(), wrongValues()...) {
		mixed.Rows = append(mixed.Rows, slices.Repeat([]api.Value{v}, i%4))
	}
	backward := clone(mixed)
	slices.Reverse(backward.Rows)
	nulls := Table{S: shape(), Rows: [][]api.Value{{{}, {}, boolean(0)}, line(2)}}
	nulls.S.Cols[1].Null = true
	wide := Table{S: api.Schema{Cols: make([]api.Col, 1<<12), Key: 1 << 11}, Rows: [][]api.Value{make([]api.Value, 1<<12)}}
	return append(odd, mixed, backward, nulls, wide)
}

// TestP1AnyTables: each call ends, whatever it is handed, and holds to P2.
func TestP1AnyTables(t *testing.T) {
	values := append(validValues(), wrongValues()...)
	var rows [][]api.Value
	for _, v := range values {
		rows = append(rows, []api.Value{v}, []api.Value{v, v, v}, []api.Value{{}, v, boolean(1)})
	}
	rows = append(rows, nil, line(4), make([]api.Value, 1<<12))
	for i, x := range oddTables() {
		x = roomy(x)
		was := clone(whole(x))
		var answers []Table
		for _, r := range rows {
			y, _ := Put(x, r)
			answers = append(answers, y)
		}
		for _, k := range values {
			y, r, _ := Take(x, k)
			answers = append(answers, y, Table{Rows: [][]api.Value{r}})
			g, _ := Get(x, k)
			answers = append(answers, Table{Rows: [][]api.Value{g}})
			for _, hi := range values {
				answers = append(answers, Table{Rows: Range(x, k, hi)})
			}
		}
		Same(x, was)
		for _, y := range answers {
			spoil(y)
		}
		if !equal(whole(x), was) {
			t.Errorf("odd table %d has changed", i)
		}
	}
}

// calls are all calls of the package that answer lists, those that answer errors among them.
func calls() []func(x Table, r []api.Value) Table {
	put := func(x Table, r []api.Value) Table { y, _ := Put(x, r); return y }
	take := func(k int) func(x Table, r []api.Value) Table {
		return func(x Table, r []api.Value) Table {
			y, row, e := Take(x, number(k))
			if e == api.OK {
				y.Rows = append(y.Rows[:len(y.Rows):len(y.Rows)], row) // all lists of the answer, as one table
			}
			return y
		}
	}
	return []func(x Table, r []api.Value) Table{
		put,
		func(x Table, r []api.Value) Table { return put(x, r[:1]) },
		func(x Table, r []api.Value) Table { return put(x, x.Rows[0]) },
		take(-3), take(0), take(9), take(1),
		func(x Table, r []api.Value) Table { y, _ := Get(x, number(0)); return Table{Rows: [][]api.Value{y}} },
		func(x Table, r []api.Value) Table { return Table{Rows: Range(x, api.Value{}, api.Value{})} },
		func(x Table, r []api.Value) Table { return Table{Rows: Range(x, number(0), number(5))} },
		func(x Table, r []api.Value) Table { return Table{Rows: Range(x, number(1), number(2))} },
	}
}

// TestP2AnswersAreNewMemory: what is done to an answer, its spare room too, does not touch what was handed in; nor the other way about.
func TestP2AnswersAreNewMemory(t *testing.T) {
	for i, call := range calls() {
		for _, key := range []int{-9, 3, 11} {
			x, r := roomy(lines(-3, 0, 5, 9)), roomyRow(line(key))
			was, wasR := clone(whole(x)), slices.Clone(r[:cap(r)])
			y := call(x, r)
			want := clone(y)
			if !equal(whole(x), was) || !slices.Equal(r[:cap(r)], wasR) {
				t.Errorf("call %d: what was handed in has changed", i)
			}
			other := call(x, r)
			spoil(other)
			if !equal(whole(x), was) || !slices.Equal(r[:cap(r)], wasR) || !equal(y, want) {
				t.Errorf("call %d: an answer shares memory", i)
			}
			spoil(x)
			spoilRow(r)
			if !equal(y, want) {
				t.Errorf("call %d: what was handed in is kept", i)
			}
		}
	}
}

// TestP2NoTwoListsShare: what is written to one list of an answer, its spare room too, is in no other one.
func TestP2NoTwoListsShare(t *testing.T) {
	for i, call := range calls() {
		x := lines(-3, 0, 5, 9)
		// One list as several rows, and rows that end where others begin, are handed in as any.
		all := slices.Concat(x.Rows...)
		for j := range x.Rows {
			x.Rows[j] = all[3*j : 3*j+3]
		}
		y := call(x, line(3))
		for j, r := range y.Rows {
			for k := range r[:cap(r)] {
				r[:cap(r)][k] = number(1000 + j)
			}
		}
		for j, r := range y.Rows {
			for _, v := range r[:cap(r)] {
				if v != number(1000+j) {
					t.Fatalf("call %d: row %d shares memory", i, j)
				}
			}
		}
	}
	one := line(1)
	got := Range(Table{S: shape(), Rows: [][]api.Value{one, one}}, api.Value{}, api.Value{})
	got[0][0] = text("z")
	if got[1][0] == text("z") {
		t.Error("two rows that were one list still are")
	}
}

// TestP3TheSameAgain: and nothing is left of one call in the next.
func TestP3TheSameAgain(t *testing.T) {
	source := rand.New(rand.NewSource(6))
	for range 300 {
		x := Table{S: someShape(source)}
		for range source.Intn(30) {
			x, _ = Put(x, someRow(source, x.S))
		}
		r := someRow(source, x.S)
		one, e := Put(x, r)
		Put(lines(1, 2), line(source.Intn(4)))
		other, e2 := Put(x, r)
		if e != e2 || !equal(one, other) {
			t.Fatalf("%+v put into %+v: two answers", r, x)
		}
		k := someValue(source, x.S.Cols[x.S.Key].Kind)
		one, r, e = Take(x, k)
		other, r2, e2 := Take(x, k)
		if e != e2 || !slices.Equal(r, r2) || !equal(one, other) {
			t.Fatalf("%+v taken from %+v: two answers", k, x)
		}
	}
}

// TestP7SideBySide: one table may be handed to many calls at once, as none of them changes it.
func TestP7SideBySide(t *testing.T) {
	var all sync.WaitGroup
	x := roomy(lines(upTo(50)...))
	faults := make([]int, 8)
	for i := range faults {
		all.Go(func() {
			for k := range 100 {
				y, e := Put(x, line(50+k))
				z, r, e2 := Take(y, number(50+k))
				if e != api.OK || e2 != api.OK || !equal(z, x) || !slices.Equal(r, line(50+k)) {
					faults[i]++
				}
			}
		})
	}
	all.Wait()
	for i, n := range faults {
		if n > 0 {
			t.Errorf("%d: %d answers", i, n)
		}
	}
}
