package row

import (
	"bytes"
	"math"
	"math/rand"
	"slices"
	"strings"
	"testing"

	"ledgerline/api"
	"ledgerline/value"
)

func boolean(n int) api.Value { return api.Value{Kind: api.Bool, N: n} }

func number(n int) api.Value { return api.Value{Kind: api.Int, N: n} }

func text(s string) api.Value { return api.Value{Kind: api.Text, S: s} }

// validValues are values that may be, of each kind, the bounds among them.
func validValues() []api.Value {
	all := []api.Value{{}, boolean(0), boolean(1)}
	for _, n := range []int{0, 1, -1, 2, 255, 256, 258, -256, math.MaxInt32 + 1, math.MaxInt64, math.MinInt64} {
		all = append(all, number(n))
	}
	for _, s := range []string{"", "a", "\x00", "'", "h\xff\xc3", "grün", "\x03\x00", strings.Repeat("a", 59), strings.Repeat("\xff", 60)} {
		all = append(all, text(s))
	}
	return all
}

// wrongValues are values that may not be.
func wrongValues() []api.Value {
	long := strings.Repeat("a", 61)
	return []api.Value{
		{Kind: -1}, {Kind: 4}, {Kind: 256, N: 1}, {Kind: math.MinInt64, S: "a"}, {Kind: 9, N: 7, S: long},
		{N: 1}, {S: "a"}, boolean(2), boolean(-1), {Kind: api.Bool, S: "a"}, {Kind: api.Int, S: "a"}, {Kind: api.Text, N: 1}, {Kind: api.Text, N: 1, S: long}, text(long), text(strings.Repeat("a", 70000)),
	}
}

// wantValueBytes is the document's words as they stand, byte by byte.
func wantValueBytes(v api.Value) []byte {
	b := []byte{byte(v.Kind)}
	switch v.Kind {
	case 1:
		b = append(b, byte(v.N))
	case 2:
		for i := range 8 {
			b = append(b, byte(uint64(v.N)>>(8*i)))
		}
	case 3:
		b = append(append(b, byte(len(v.S)), byte(len(v.S)>>8)), v.S...)
	}
	return b
}

func wantBytes(r []api.Value) []byte {
	b := []byte{byte(len(r))}
	for _, v := range r {
		b = append(b, wantValueBytes(v)...)
	}
	return b
}

// someRow draws a row of at most that many valid values.
func someRow(source *rand.Rand, most int) []api.Value {
	all := validValues()
	r := make([]api.Value, source.Intn(most+1))
	for i := range r {
		switch source.Intn(4) {
		case 0:
			r[i] = number(int(source.Uint64()) >> source.Intn(64))
		case 1:
			s := make([]byte, source.Intn(api.MaxText+1))
			source.Read(s)
			r[i] = text(string(s))
		default:
			r[i] = all[source.Intn(len(all))]
		}
	}
	return r
}

func TestP501BytesOfOneValue(t *testing.T) {
	for _, c := range []struct {
		v    api.Value
		want string
	}{
		{api.Value{}, "\x01\x00"},
		{boolean(0), "\x01\x01\x00"},
		{boolean(1), "\x01\x01\x01"},
		{number(0), "\x01\x02\x00\x00\x00\x00\x00\x00\x00\x00"},
		{number(258), "\x01\x02\x02\x01\x00\x00\x00\x00\x00\x00"},
		{number(-2), "\x01\x02\xfe\xff\xff\xff\xff\xff\xff\xff"},
		{number(math.MaxInt64), "\x01\x02\xff\xff\xff\xff\xff\xff\xff\x7f"},
		{number(math.MinInt64), "\x01\x02\x00\x00\x00\x00\x00\x00\x00\x80"},
		{text(""), "\x01\x03\x00\x00"},
		{text("hi"), "\x01\x03\x02\x00hi"},
		{text("\x00\xff"), "\x01\x03\x02\x00\x00\xff"},
		{text("ü"), "\x01\x03\x02\x00\xc3\xbc"},
		{text(strings.Repeat("a", 60)), "\x01\x03\x3c\x00" + strings.Repeat("a", 60)},
	} {
		if got := Bytes([]api.Value{c.v}); string(got) != c.want {
			t.Errorf("%+v: %x", c.v, got)
		}
	}
}

func TestP501BytesExample(t *testing.T) {
	for _, r := range [][]api.Value{nil, {}} {
		if got := Bytes(r); string(got) != "\x00" {
			t.Errorf("%x", got)
		}
	}
}

// TestP501BytesOfManyValues: rows of more values than a table has columns are written too.
func TestP501BytesOfManyValues(t *testing.T) {
	all := validValues()
	for size := range 256 {
		r := make([]api.Value, size)
		for i := range r {
			r[i] = all[(i+size)%len(all)]
		}
		if got := Bytes(r); !bytes.Equal(got, wantBytes(r)) {
			t.Errorf("%d values: %x", size, got)
		}
	}
}

func TestP501BytesAsTheWordsSay(t *testing.T) {
	source := rand.New(rand.NewSource(1))
	for range 500 {
		r := someRow(source, 255)
		if got := Bytes(r); !bytes.Equal(got, wantBytes(r)) {
			t.Fatalf("%+v: %x", r, got)
		}
	}
}

// isParsed tells whether b is parsed to want, or answers the error e and no row.
func isParsed(t *testing.T, b string, want []api.Value, e api.Errno) {
	t.Helper()
	got, got2 := Parse([]byte(b))
	if got2 != e || !slices.Equal(got, want) || e != api.OK && got != nil {
		t.Errorf("%x: %+v, %v, not %+v, %v", b, got, got2, want, e)
	}
}

func TestP501Parse(t *testing.T) {
	isParsed(t, "\x00", nil, api.OK)
	isParsed(t, "\x01\x00", []api.Value{{}}, api.OK)
	isParsed(t, "\x02\x01\x01\x01\x00", []api.Value{boolean(1), boolean(0)}, api.OK)
	isParsed(t, "\x01\x02\x02\x01\x00\x00\x00\x00\x00\x80", []api.Value{number(math.MinInt64 + 258)}, api.OK)
	isParsed(t, "\x03\x03\x02\x00\x00\xff\x00\x03\x00\x00", []api.Value{text("\x00\xff"), {}, text("")}, api.OK)
	isParsed(t, "\x06\x00\x01\x00\x02\xff\xff\xff\xff\xff\xff\xff\xff\x03\x01\x00x\x00\x01\x01", []api.Value{{}, boolean(0), number(-1), text("x"), {}, boolean(1)}, api.OK)
}

// TestP501ParseOfNothing: how many there are must be said.
func TestP501ParseOfNothing(t *testing.T) {
	for _, b := range [][]byte{nil, {}} {
		if r, e := Parse(b); e != api.ErrCut || r != nil {
			t.Errorf("%+v, %v", r, e)
		}
	}
}

func TestP501ParseOfTooMany(t *testing.T) {
	for n := range 256 {
		b := string([]byte{byte(n)})
		for _, rest := range []string{"", "\x00", "\xff", strings.Repeat("\x00", n), strings.Repeat("\x00", n+1), strings.Repeat("\xff", n)} {
			_, e := Parse([]byte(b + rest))
			if (e == api.ErrMany) != (n > 6) {
				t.Errorf("%d values, %d bytes: %v", n, len(rest), e)
			}
			if n > 6 {
				isParsed(t, b+rest, nil, api.ErrMany)
			}
		}
	}
}

// TestP501ParseOfKinds: a Kind above 3 is told wherever it stands, whatever lacks behind it, or is too much.
func TestP501ParseOfKinds(t *testing.T) {
	fronts := []string{"", "\x00", "\x01\x00", "\x01\x09", "\x02\x04\x05\x06\x07\x08\x09\x0a\x0b", "\x03\x01\x00\x07", "\x03\x3d\x00" + strings.Repeat("a", 61), "\x00\x00\x00\x00\x00"}
	counts := []int{0, 1, 1, 1, 1, 1, 1, 5}
	for kind := 4; kind < 256; kind++ {
		for i, front := range fronts {
			for n := counts[i] + 1; n <= 6; n++ {
				for _, rest := range []string{"", "\x00", "\xff", strings.Repeat("\x00", 70)} {
					isParsed(t, string([]byte{byte(n)})+front+string([]byte{byte(kind)})+rest, nil, api.ErrKind)
				}
			}
		}
	}
}

// TestP501ParseCutAheadOfAKind: what lacks ahead of a Kind is told, not what would stand there.
func TestP501ParseCutAheadOfAKind(t *testing.T) {
	isParsed(t, "\x02\x02\x09\x09\x09\x09\x09\x09\x09", nil, api.ErrCut)
	isParsed(t, "\x02\x03\x09\x09\x09\x09", nil, api.ErrCut)
	isParsed(t, "\x02\x03\x09", nil, api.ErrCut)
	isParsed(t, "\x02\x01", nil, api.ErrCut)
	isParsed(t, "\x02\x00", nil, api.ErrCut)
}

func TestP501ParseOfFronts(t *testing.T) {
	source := rand.New(rand.NewSource(2))
	for range 200 {
		b := string(wantBytes(someRow(source, api.MaxCols)))
		for size := range b {
			isParsed(t, b[:size], nil, api.ErrCut)
		}
	}
}

func TestP501ParseOfMoreBytes(t *testing.T) {
	source := rand.New(rand.NewSource(3))
	for range 200 {
		b := string(wantBytes(someRow(source, api.MaxCols)))
		for _, more := range []string{"\x00", "\x09", "\x00\x00", strings.Repeat("\xff", 100), b} {
			isParsed(t, b+more, nil, api.ErrMore)
		}
	}
}

func TestP501ParseOfValuesThatMayNotBe(t *testing.T) {
	for n := 2; n < 256; n++ {
		isParsed(t, "\x01\x01"+string([]byte{byte(n)}), nil, api.ErrArg)
		isParsed(t, "\x03\x00\x01"+string([]byte{byte(n)})+"\x00", nil, api.ErrArg)
	}
	for _, size := range []int{61, 62, 255, 256, 316, 65535} {
		long := string([]byte{3, byte(size), byte(size >> 8)}) + strings.Repeat("a", size)
		isParsed(t, "\x01"+long, nil, api.ErrLong)
		isParsed(t, "\x03\x01\x01"+long+"\x00", nil, api.ErrLong)
		isParsed(t, "\x02"+long+"\x01\x02", nil, api.ErrLong)
		isParsed(t, "\x02\x01\x02"+long, nil, api.ErrArg)
		isParsed(t, "\x01"+long+"\x00", nil, api.ErrMore)
		isParsed(t, "\x02"+long, nil, api.ErrCut)
		isParsed(t, "\x02"+long+"\x04", nil, api.ErrKind)
	}
	isParsed(t, "\x01\x01\x02\x00", nil, api.ErrMore)
	isParsed(t, "\x02\x01\x02\x01", nil, api.ErrCut)
	isParsed(t, "\x02\x01\x02\x04", nil, api.ErrKind)
}

// wantParse is the document's words as they stand.
func wantParse(b []byte) ([]api.Value, api.Errno) {
	if len(b) == 0 {
		return nil, api.ErrCut
	}
	n := int(b[0])
	b = b[1:]
	if n > 6 {
		return nil, api.ErrMany
	}
	var r []api.Value
	for range n {
		v, used, e := wantParseValue(b)
		if e != api.OK {
			return nil, e
		}
		r = append(r, v)
		b = b[used:]
	}
	if len(b) > 0 {
		return nil, api.ErrMore
	}
	for _, v := range r {
		if v.Kind == 1 && v.N > 1 {
			return nil, api.ErrArg
		}
		if v.Kind == 3 && len(v.S) > 60 {
			return nil, api.ErrLong
		}
	}
	return r, api.OK
}

// wantParseValue answers a value, and how many of b's bytes it has.
func wantParseValue(b []byte) (v api.Value, used int, e api.Errno) {
	if len(b) == 0 {
		return v, 0, api.ErrCut
	}
	if b[0] > 3 {
		return v, 0, api.ErrKind
	}
	v.Kind = int(b[0])
	used = []int{1, 2, 9, 3}[v.Kind]
	if len(b) < used {
		return v, 0, api.ErrCut
	}
	switch v.Kind {
	case 1:
		v.N = int(b[1])
	case 2:
		for i := range 8 {
			v.N |= int(b[1+i]) << (8 * i)
		}
	case 3:
		used += int(b[1]) + int(b[2])<<8
		if len(b) < used {
			return v, 0, api.ErrCut
		}
		v.S = string(b[3:used])
	}
	return v, used, api.OK
}

// someBytes draws bytes that are a row's, or nearly so.
func someBytes(source *rand.Rand) []byte {
	r := someRow(source, api.MaxCols+1)
	if len(r) > 0 && source.Intn(10) == 0 {
		r[source.Intn(len(r))] = text(strings.Repeat("a", 61))
	}
	b := wantBytes(r)
	for range source.Intn(4) {
		i := source.Intn(len(b) + 1)
		switch source.Intn(4) {
		case 0:
			b = slices.Insert(b, i, byte(source.Intn(5)))
		case 1:
			b = b[:max(i, 1)]
		case 2:
			b[i%len(b)] = byte(source.Intn(6))
		case 3:
			b[i%len(b)] = byte(source.Intn(256))
		}
	}
	return b
}

// TestP501ParseAsTheWordsSay: and what is read is written as it stood (P503).
func TestP501ParseAsTheWordsSay(t *testing.T) {
	source := rand.New(rand.NewSource(4))
	seen := map[api.Errno]int{}
	for range 40000 {
		b := someBytes(source)
		want, wantE := wantParse(b)
		got, e := Parse(b)
		if e != wantE || !slices.Equal(got, want) || e != api.OK && got != nil {
			t.Fatalf("%x: %+v, %v, not %+v, %v", b, got, e, want, wantE)
		}
		if e == api.OK && !bytes.Equal(Bytes(got), b) {
			t.Fatalf("%x is written as %x", b, Bytes(got))
		}
		seen[e]++
	}
	for _, e := range []api.Errno{api.OK, api.ErrCut, api.ErrMany, api.ErrKind, api.ErrMore, api.ErrArg, api.ErrLong} {
		if seen[e] == 0 {
			t.Errorf("no bytes were drawn for %v", e)
		}
	}
}

// TestP501ParseOfAllShortOnes: any bytes, up to three of the small numbers that say something.
func TestP501ParseOfAllShortOnes(t *testing.T) {
	few := []byte{0, 1, 2, 3, 4, 6, 7, 255}
	all := [][]byte{{}}
	for i := 0; i < len(all) && len(all[i]) < 5; i++ {
		for _, x := range few {
			all = append(all, append(bytes.Clone(all[i]), x))
		}
	}
	for _, b := range all {
		want, e := wantParse(b)
		isParsed(t, string(b), want, e)
	}
}

func TestP502Fits(t *testing.T) {
	cols := []api.Col{{Name: "a", Kind: api.Int}, {Name: "b", Kind: api.Text, Null: true}, {Name: "c", Kind: api.Bool}}
	long := text(strings.Repeat("x", 61))
	for i, c := range []struct {
		r    []api.Value
		want api.Errno
	}{
		{[]api.Value{number(1), text("x"), boolean(0)}, api.OK},
		{[]api.Value{number(math.MinInt64), text(strings.Repeat("x", 60)), boolean(1)}, api.OK},
		{[]api.Value{number(1), {}, boolean(0)}, api.OK},
		{nil, api.ErrArg},
		{[]api.Value{}, api.ErrArg},
		{[]api.Value{number(1), text("x")}, api.ErrArg},
		{[]api.Value{number(1), text("x"), boolean(0), boolean(0)}, api.ErrArg},
		{[]api.Value{{}, {Kind: 9}}, api.ErrArg},
		{[]api.Value{{}, text("x"), boolean(0)}, api.ErrNull},
		{[]api.Value{number(1), {}, {}}, api.ErrNull},
		{[]api.Value{boolean(1), text("x"), boolean(0)}, api.ErrKind},
		{[]api.Value{number(1), number(1), boolean(0)}, api.ErrKind},
		{[]api.Value{number(1), {}, number(0)}, api.ErrKind},
		{[]api.Value{number(1), text("x"), boolean(2)}, api.ErrArg},
		{[]api.Value{number(1), long, boolean(0)}, api.ErrLong},
		{[]api.Value{number(1), text("x"), {Kind: 4}}, api.ErrKind},
		{[]api.Value{{N: 1}, text("x"), boolean(0)}, api.ErrArg},
		{[]api.Value{number(1), {S: "x"}, boolean(0)}, api.ErrArg},
		// Of two faults in one value: what may not be at all is told ahead of what may not be there.
		{[]api.Value{long, text("x"), boolean(0)}, api.ErrLong},
		{[]api.Value{{Kind: api.Bool, N: 2}, text("x"), boolean(0)}, api.ErrArg},
		// Of two values: the first one's.
		{[]api.Value{{}, long, boolean(2)}, api.ErrNull},
		{[]api.Value{number(1), long, boolean(2)}, api.ErrLong},
		{[]api.Value{text("x"), text("x"), {}}, api.ErrKind},
		{[]api.Value{number(1), boolean(1), {}}, api.ErrKind},
		{[]api.Value{number(1), boolean(2), {}}, api.ErrArg},
	} {
		if e := Fits(api.Schema{Name: "t", Cols: cols}, c.r); e != c.want {
			t.Errorf("%d: %+v: %v", i, c.r, e)
		}
	}
}

// wantFits is the document's words as they stand; that a Null may stand where its column says so means that its kind is not held against the column's.
func wantFits(cols []api.Col, r []api.Value) api.Errno {
	if len(r) != len(cols) {
		return api.ErrArg
	}
	for i, v := range r {
		if e := value.Check(v); e != api.OK {
			return e
		}
		if v.Kind == 0 {
			if !cols[i].Null {
				return api.ErrNull
			}
		} else if v.Kind != cols[i].Kind {
			return api.ErrKind
		}
	}
	return api.OK
}

// someColumns are columns of each kind, of kinds that no schema may have, too.
func someColumns() []api.Col {
	var cols []api.Col
	for _, kind := range []int{0, 1, 2, 3, 4, 9, -1, 256, math.MaxInt64, math.MinInt64} {
		cols = append(cols, api.Col{Kind: kind}, api.Col{Name: "a", Kind: kind, Null: true})
	}
	return cols
}

func TestP502FitsOfEachValueInEachColumn(t *testing.T) {
	for _, c := range someColumns() {
		for _, v := range append(validValues(), wrongValues()...) {
			cols, r := []api.Col{c}, []api.Value{v}
			if e := Fits(api.Schema{Cols: cols}, r); e != wantFits(cols, r) {
				t.Errorf("kind %d, null %v, %d, %d, a text of %d bytes: %v", c.Kind, c.Null, v.Kind, v.N, len(v.S), e)
			}
		}
	}
}

func TestP502FitsAsTheWordsSay(t *testing.T) {
	source := rand.New(rand.NewSource(5))
	all := someColumns()[:8]
	values := append(validValues(), wrongValues()...)
	seen := map[api.Errno]int{}
	for range 20000 {
		cols := make([]api.Col, source.Intn(5))
		r := make([]api.Value, len(cols))
		for i := range cols {
			r[i] = values[source.Intn(len(values))]
			cols[i] = all[source.Intn(len(all))]
			if source.Intn(4) > 0 {
				r[i] = values[source.Intn(len(validValues()))]
				cols[i].Kind = r[i].Kind
			}
		}
		if len(r) > 0 && source.Intn(8) == 0 {
			r = r[:len(r)-1]
		}
		want := wantFits(cols, r)
		if e := Fits(api.Schema{Cols: cols}, r); e != want {
			t.Fatalf("%+v, %+v: %v, not %v", cols, r, e, want)
		}
		seen[want]++
	}
	for _, e := range []api.Errno{api.OK, api.ErrArg, api.ErrNull, api.ErrKind, api.ErrLong} {
		if seen[e] == 0 {
			t.Errorf("no row was drawn for %v", e)
		}
	}
}

// TestP502FitsAsksTheColumnsAlone: what else a schema says may be anything, as many columns as it has, of any names.
func TestP502FitsAsksTheColumnsAlone(t *testing.T) {
	for _, size := range []int{0, 1, 6, 7, 255, 256, 1000} {
		cols := make([]api.Col, size)
		r := make([]api.Value, size)
		for i := range cols {
			cols[i] = api.Col{Name: "same", Kind: api.Int}
			r[i] = number(i)
		}
		for _, s := range []api.Schema{{Cols: cols}, {Name: "table", Cols: cols, Key: 7, Only: true}, {Name: "no name!", Cols: cols, Key: -1}, {Cols: cols, Key: math.MaxInt64}} {
			if e := Fits(s, r); e != api.OK {
				t.Errorf("%d columns, %q, %d: %v", size, s.Name, s.Key, e)
			}
			if e := Fits(s, append(r[:size:size], number(0))); e != api.ErrArg {
				t.Errorf("%d columns, one value more: %v", size, e)
			}
		}
	}
}

func TestP501Same(t *testing.T) {
	all := append(validValues(), wrongValues()...)
	for i, a := range all {
		for j, b := range all {
			if Same([]api.Value{a}, []api.Value{b}) != (i == j) || Same([]api.Value{{}, a}, []api.Value{{}, b}) != (i == j) || Same([]api.Value{a, {}}, []api.Value{b, {}}) != (i == j) {
				t.Errorf("%d, %d", i, j)
			}
		}
	}
}

// TestP501SameOfOtherSizes: a row and its fronts are not the same; no list and an empty one are (P2).
func TestP501SameOfOtherSizes(t *testing.T) {
	r := validValues()
	for i := range len(r) + 1 {
		for j := range len(r) + 1 {
			if Same(r[:i], slices.Clone(r[:j])) != (i == j) {
				t.Errorf("%d, %d values", i, j)
			}
		}
	}
	nulls := make([]api.Value, 3)
	if Same(nulls[:0], nulls[:1]) || Same(nulls, nulls[:2]) || !Same(nulls, make([]api.Value, 3)) {
		t.Error("rows of nulls")
	}
	for _, a := range [][]api.Value{nil, {}, r[:0]} {
		for _, b := range [][]api.Value{nil, {}, r[:0]} {
			if !Same(a, b) {
				t.Error("two rows of nothing")
			}
		}
	}
}

// TestP501SameOfTheOrder: the same values at other places are another row.
func TestP501SameOfTheOrder(t *testing.T) {
	if Same([]api.Value{number(1), number(2)}, []api.Value{number(2), number(1)}) || Same([]api.Value{{}, text("")}, []api.Value{text(""), {}}) {
		t.Error("turned about")
	}
}

func TestP503ReadAsTheSame(t *testing.T) {
	source := rand.New(rand.NewSource(6))
	for range 3000 {
		r := someRow(source, api.MaxCols)
		got, e := Parse(Bytes(r))
		if e != api.OK || !Same(got, r) || !slices.Equal(got, r) {
			t.Fatalf("%+v: %+v, %v", r, got, e)
		}
	}
	for _, v := range validValues() {
		for size := range api.MaxCols + 1 {
			r := slices.Repeat([]api.Value{v}, size)
			if got, e := Parse(Bytes(r)); e != api.OK || !Same(got, r) {
				t.Errorf("%d times %+v: %+v, %v", size, v, got, e)
			}
		}
	}
}

// TestP503TellsRowsApart: no two unlike rows are written as one.
func TestP503TellsRowsApart(t *testing.T) {
	source := rand.New(rand.NewSource(7))
	seen := map[string][]api.Value{}
	for range 5000 {
		r := someRow(source, 3)
		b := string(Bytes(r))
		if was, ok := seen[b]; ok && !Same(was, r) {
			t.Fatalf("%+v, %+v: %x", was, r, b)
		}
		seen[b] = r
	}
}

// TestP503BeyondMaxCols: what is written is not read, where a row has more values than a table's columns.
func TestP503BeyondMaxCols(t *testing.T) {
	for size := api.MaxCols + 1; size < 256; size++ {
		if r, e := Parse(Bytes(make([]api.Value, size))); e != api.ErrMany || r != nil {
			t.Errorf("%d values: %+v, %v", size, r, e)
		}
	}
}

// TestP1AnyRows: of rows that may not be, too, each call ends; great ones are not slow.
func TestP1AnyRows(t *testing.T) {
	var rows [][]api.Value
	for _, v := range wrongValues() {
		rows = append(rows, []api.Value{v}, slices.Repeat([]api.Value{v}, 300))
	}
	rows = append(rows, make([]api.Value, 256), make([]api.Value, 257), slices.Repeat([]api.Value{number(-1)}, 1<<18))
	for _, r := range rows {
		b := Bytes(r)
		Parse(b)
		Same(r, rows[0])
		Fits(api.Schema{}, r)
		Fits(api.Schema{Cols: make([]api.Col, len(r))}, r)
	}
	source := rand.New(rand.NewSource(8))
	for range 5000 {
		b := make([]byte, source.Intn(100))
		source.Read(b)
		Parse(b)
	}
	if r, e := Parse(bytes.Repeat([]byte{1}, 1<<22)); e != api.ErrMore || r != nil {
		t.Errorf("4 MiB: %v", e)
	}
}

func TestP2WhatIsHandedInStays(t *testing.T) {
	room := append(validValues(), wrongValues()...)
	was := slices.Clone(room)
	r := room[:5]
	cols := []api.Col{{Kind: api.Int}, {Kind: 7, Null: true}, {Kind: api.Bool}, {}, {}, {Name: "spare"}}
	wasCols := slices.Clone(cols)
	Bytes(r)
	Fits(api.Schema{Cols: cols[:5]}, r)
	Same(r, room[5:10])
	if !slices.Equal(room, was) || !slices.Equal(cols, wasCols) {
		t.Error("values or columns have changed")
	}
	all := append(wantBytes(room[:6]), bytes.Repeat([]byte{7}, 50)...)
	wasAll := bytes.Clone(all)
	Parse(all[:len(all)-50])
	Parse(all)
	if !bytes.Equal(all, wasAll) {
		t.Error("bytes have changed")
	}
}

func TestP2AnswersAreNewMemory(t *testing.T) {
	r := []api.Value{text("hello"), number(5), {}, text("x")}
	b := Bytes(r)
	other := Bytes(r)
	was := bytes.Clone(other)
	got, e := Parse(b)
	again, _ := Parse(b)
	if e != api.OK {
		t.Fatal(e)
	}
	for i := range b[:cap(b)] {
		b[:cap(b)][i] ^= 255
	}
	for i := range again[:cap(again)] {
		again[:cap(again)][i] = number(99)
	}
	if !slices.Equal(got, r) || !bytes.Equal(other, was) || !slices.Equal(r, []api.Value{text("hello"), number(5), {}, text("x")}) {
		t.Error("an answer shares memory")
	}
}

func TestP3TheSameAgain(t *testing.T) {
	source := rand.New(rand.NewSource(9))
	for range 500 {
		r := someRow(source, 10)
		if !bytes.Equal(Bytes(r), Bytes(r)) {
			t.Fatalf("%+v: two answers", r)
		}
		b := someBytes(source)
		one, e := Parse(b)
		other, e2 := Parse(b)
		if e != e2 || !Same(one, other) {
			t.Fatalf("%x: two answers", b)
		}
	}
}
