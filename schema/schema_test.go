package schema

import (
	"bytes"
	"encoding/binary"
	"math"
	"math/rand"
	"regexp"
	"slices"
	"strings"
	"sync"
	"testing"

	"ledgerline/api"
)

// The words of the language, as chapter 9 lists them.
const wordList = "and begin bool by commit count create delete desc drop false from group insert int into is join key limit max min not null on only or order primary rollback savepoint select set sum table text to true update values where"

var spelt = regexp.MustCompile(`^[a-z][a-z0-9_]{0,11}$`)

func isName(s string) bool {
	return spelt.MatchString(s) && !slices.Contains(strings.Fields(wordList), s)
}

func column(name string, kind int) api.Col { return api.Col{Name: name, Kind: kind} }

func nullColumn(name string, kind int) api.Col { return api.Col{Name: name, Kind: kind, Null: true} }

// shape is a schema of these columns, the first one its key.
func shape(name string, cols ...api.Col) api.Schema { return api.Schema{Name: name, Cols: cols} }

// columnsOf are that many columns of unlike names, of each kind in turn; but the first one all say Null.
func columnsOf(size int) []api.Col {
	var cols []api.Col
	for i := range size {
		name := "c" + string(rune('a'+i%26)) + strings.Repeat("x", i/26)
		cols = append(cols, api.Col{Name: name, Kind: 1 + i%3, Null: i > 0})
	}
	return cols
}

// clone is s in memory of its own.
func clone(s api.Schema) api.Schema {
	s.Cols = slices.Clone(s.Cols)
	return s
}

// equal holds two schemas against each other field by field.
func equal(a, b api.Schema) bool {
	if a.Name != b.Name || len(a.Cols) != len(b.Cols) || a.Key != b.Key || a.Only != b.Only {
		return false
	}
	for i := range a.Cols {
		if a.Cols[i] != b.Cols[i] {
			return false
		}
	}
	return true
}

func isNothing(s api.Schema) bool {
	return s.Name == "" && s.Cols == nil && s.Key == 0 && !s.Only
}

// wantCheck is the document's words as they stand.
func wantCheck(s api.Schema) api.Errno {
	if !isName(s.Name) {
		return api.ErrName
	}
	if len(s.Cols) < 1 || len(s.Cols) > 6 {
		return api.ErrMany
	}
	for i, c := range s.Cols {
		if !isName(c.Name) || slices.ContainsFunc(s.Cols[:i], func(ahead api.Col) bool { return ahead.Name == c.Name }) {
			return api.ErrName
		}
		if c.Kind < 1 || c.Kind > 3 {
			return api.ErrKind
		}
	}
	if s.Key < 0 || s.Key >= len(s.Cols) {
		return api.ErrArg
	}
	if s.Cols[s.Key].Null {
		return api.ErrNull
	}
	return api.OK
}

func isChecked(t *testing.T, s api.Schema, want api.Errno) {
	t.Helper()
	if e := Check(s); e != want {
		t.Errorf("%+v: %v, not %v", s, e, want)
	}
}

// mayBeName tries whether name may be a table's, a column's, and that of a column behind another one.
func mayBeName(t *testing.T, name string, may bool) {
	t.Helper()
	want := api.ErrName
	if may {
		want = api.OK
	}
	for i, s := range []api.Schema{shape(name, column("other", 2)), shape("t", column(name, 2)), shape("t", column("other", 1), column(name, 3))} {
		if e := Check(s); e != want {
			t.Errorf("%d: %q: %v, not %v", i, name, e, want)
		}
	}
}

func TestP901CheckOfNames(t *testing.T) {
	for _, name := range []string{"a", "z", "t", "m0", "a_", "a_b", "a__", "z9", "abcdefghijkl", "a12345678901", "a___________", "tables", "ands", "an", "i", "selec", "or_", "is1", "value", "where_", "a_table"} {
		mayBeName(t, name, true)
	}
	for _, name := range []string{"", "_", "_a", "0", "9a", "A", "aB", "Table", "a-", "a b", " a", "a ", "a.b", "a\n", "\na", "a\x00", "\x00", "ä", "aä", "a\xff", "\xff", "`", "{", "a`", "a{", "a/", "a:", "a^", "a@", "a[", "abcdefghijklm", strings.Repeat("a", 12) + "\x00", strings.Repeat("ä", 6), strings.Repeat("a", 1<<16)} {
		mayBeName(t, name, false)
	}
}

// TestP901CheckOfWords: each one of the language is no name; with a sign more, or less, it is one, unless that is a word too.
func TestP901CheckOfWords(t *testing.T) {
	list := strings.Fields(wordList)
	if len(list) != 41 {
		t.Fatalf("%d words", len(list))
	}
	for _, w := range list {
		mayBeName(t, w, false)
		mayBeName(t, strings.ToUpper(w), false)
		for _, other := range []string{w + "x", "x" + w, w + "_", w[:len(w)-1], w[1:], w + w} {
			mayBeName(t, other, isName(other))
		}
	}
}

// TestP901CheckOfEachByte: at each place of names of each length.
func TestP901CheckOfEachByte(t *testing.T) {
	for size := 1; size <= 14; size++ {
		for at := range size {
			for c := range 256 {
				b := bytes.Repeat([]byte{'q'}, size)
				b[at] = byte(c)
				first := c >= 'a' && c <= 'z'
				later := first || c >= '0' && c <= '9' || c == '_'
				mayBeName(t, string(b), size <= 12 && (first || later && at > 0))
			}
		}
	}
}

func TestP901CheckOfHowManyColumns(t *testing.T) {
	for _, size := range []int{0, 1, 2, 5, 6, 7, 8, 255, 256, 257, 1000} {
		want := api.OK
		if size < 1 || size > 6 {
			want = api.ErrMany
		}
		isChecked(t, shape("t", columnsOf(size)...), want)
	}
	isChecked(t, api.Schema{Name: "t", Cols: []api.Col{}}, api.ErrMany)
	isChecked(t, api.Schema{Name: "t", Key: -1}, api.ErrMany)
	isChecked(t, shape("t", make([]api.Col, 7)...), api.ErrMany)
	isChecked(t, shape("table"), api.ErrName)
	isChecked(t, shape("table", columnsOf(7)...), api.ErrName)
}

// TestP901CheckOfNamesAhead: of each two columns of one name the later one is refused; a table may be called as its columns.
func TestP901CheckOfNamesAhead(t *testing.T) {
	for size := 2; size <= 6; size++ {
		for j := range size {
			for i := range j {
				cols := columnsOf(size)
				cols[j].Name = cols[i].Name
				isChecked(t, shape("t", cols...), api.ErrName)
				cols[i].Kind = 4
				isChecked(t, shape("t", cols...), api.ErrKind)
				cols[i].Kind, cols[j].Kind = 1, 4
				isChecked(t, shape("t", cols...), api.ErrName)
			}
			cols := columnsOf(size)
			isChecked(t, shape(cols[j].Name, cols...), api.OK)
		}
	}
	isChecked(t, shape("a", column("a", 1)), api.OK)
	isChecked(t, shape("t", column("a", 1), column("a_", 1), column("aa", 1), column("a0", 1)), api.OK)
	isChecked(t, shape("t", column("a", 1), column("A", 1)), api.ErrName)
}

func TestP901CheckOfKinds(t *testing.T) {
	for _, kind := range []int{0, 1, 2, 3, 4, 5, 255, 256, 257, 258, 259, -1, -2, -255, 1 << 32, 1<<32 + 1, math.MaxInt64, math.MinInt64, math.MinInt64 + 1} {
		want := api.ErrKind
		if kind == 1 || kind == 2 || kind == 3 {
			want = api.OK
		}
		for at := range 6 {
			cols := columnsOf(6)
			cols[at].Kind = kind
			isChecked(t, shape("t", cols...), want)
		}
	}
}

func TestP901CheckOfKeys(t *testing.T) {
	for size := 1; size <= 6; size++ {
		for _, key := range []int{-1, -2, size, size + 1, 6, 7, 256, -256, math.MaxInt64, math.MinInt64} {
			isChecked(t, api.Schema{Name: "t", Cols: columnsOf(size), Key: key}, api.ErrArg)
		}
		for key := range size {
			for says := range 1 << size {
				cols := columnsOf(size)
				for i := range cols {
					cols[i].Null = says>>i&1 == 1
				}
				want := api.OK
				if cols[key].Null {
					want = api.ErrNull
				}
				isChecked(t, api.Schema{Name: "t", Cols: cols, Key: key}, want)
				isChecked(t, api.Schema{Name: "t", Cols: cols, Key: key, Only: true}, want)
			}
		}
	}
}

// TestP901CheckOfSeveralFaults: the first one in the order of the words; of columns those of the first that has one.
func TestP901CheckOfSeveralFaults(t *testing.T) {
	wrong := column("select", 9)
	kind := column("b", 0)
	for _, c := range []struct {
		s    api.Schema
		want api.Errno
	}{
		{api.Schema{Name: "", Cols: []api.Col{wrong}, Key: 5}, api.ErrName},
		{api.Schema{Name: "T", Cols: []api.Col{kind}, Key: 5}, api.ErrName},
		{api.Schema{Name: "t", Cols: slices.Repeat([]api.Col{wrong}, 7), Key: 9}, api.ErrMany},
		{api.Schema{Name: "t", Cols: []api.Col{wrong}, Key: 5}, api.ErrName},
		{api.Schema{Name: "t", Cols: []api.Col{kind, wrong}, Key: 5}, api.ErrKind},
		{api.Schema{Name: "t", Cols: []api.Col{wrong, kind}, Key: 5}, api.ErrName},
		{api.Schema{Name: "t", Cols: []api.Col{kind, kind}, Key: 5}, api.ErrKind},
		{api.Schema{Name: "t", Cols: []api.Col{column("b", 1), kind}, Key: 5}, api.ErrName},
		{api.Schema{Name: "t", Cols: []api.Col{nullColumn("a", 1), kind}, Key: -1}, api.ErrKind},
		{api.Schema{Name: "t", Cols: []api.Col{nullColumn("a", 1), kind}}, api.ErrKind},
		{api.Schema{Name: "t", Cols: []api.Col{nullColumn("a", 1), wrong}}, api.ErrName},
		{api.Schema{Name: "t", Cols: []api.Col{nullColumn("a", 1)}, Key: 1}, api.ErrArg},
	} {
		isChecked(t, c.s, c.want)
	}
}

// someSchema draws one that may be, but for a few faults.
func someSchema(source *rand.Rand, faults int) api.Schema {
	good := []string{"a", "b", "c", "t", "abcdefghijkl", "x_1", "values_", "z"}
	bad := append(strings.Fields(wordList), "", "A", "1", "_", "a b", "abcdefghijklm", "\xff")
	s := api.Schema{Name: good[source.Intn(len(good))], Only: source.Intn(2) == 0}
	order := source.Perm(len(good))
	for i := range 1 + source.Intn(6) {
		s.Cols = append(s.Cols, api.Col{Name: good[order[i]], Kind: 1 + source.Intn(3), Null: source.Intn(2) == 0})
	}
	s.Key = source.Intn(len(s.Cols))
	s.Cols[s.Key].Null = false
	for range faults {
		at := 0
		if len(s.Cols) > 0 {
			at = source.Intn(len(s.Cols))
		}
		switch fault := source.Intn(9); {
		case fault == 0:
			s.Name = bad[source.Intn(len(bad))]
		case fault == 1:
			s.Cols = nil
		case fault == 2:
			s.Cols = append(s.Cols, columnsOf(6)...)
		case fault == 3:
			s.Key = source.Intn(9) - 1
		case len(s.Cols) == 0:
		case fault == 4:
			s.Cols[at].Name = bad[source.Intn(len(bad))]
		case fault == 5:
			s.Cols[at].Name = s.Cols[source.Intn(len(s.Cols))].Name
		case fault == 6:
			s.Cols[at].Kind = []int{0, 4, 255}[source.Intn(3)]
		case s.Key >= 0 && s.Key < len(s.Cols):
			s.Cols[s.Key].Null = true
		}
	}
	return s
}

func TestP901CheckAsTheWordsSay(t *testing.T) {
	source := rand.New(rand.NewSource(1))
	seen := map[api.Errno]int{}
	for range 20000 {
		s := someSchema(source, source.Intn(4))
		want := wantCheck(s)
		if e := Check(s); e != want {
			t.Fatalf("%+v: %v, not %v", s, e, want)
		}
		seen[want]++
	}
	for _, e := range []api.Errno{api.OK, api.ErrName, api.ErrMany, api.ErrKind, api.ErrArg, api.ErrNull} {
		if seen[e] == 0 {
			t.Errorf("no schema was drawn for %v", e)
		}
	}
}

func TestP901BytesByHand(t *testing.T) {
	for _, c := range []struct {
		s    api.Schema
		want string
	}{
		{api.Schema{}, "\x00\x00\x00\x00\x00\x00\x00\x00\x00\x00\x00\x00"},
		{api.Schema{Cols: []api.Col{}}, "\x00\x00\x00\x00\x00\x00\x00\x00\x00\x00\x00\x00"},
		{api.Schema{Name: "t", Cols: []api.Col{column("ab", api.Bool)}, Only: true}, "\x01\x00t\x01\x02\x00ab\x01\x00\x00\x00\x00\x00\x00\x00\x00\x00\x01"},
		{api.Schema{Name: "t", Cols: []api.Col{nullColumn("a", api.Text), column("b", api.Int)}, Key: 1}, "\x01\x00t\x02\x01\x00a\x03\x01\x01\x00b\x02\x00\x01\x00\x00\x00\x00\x00\x00\x00\x00"},
		// What Check would refuse is written all the same.
		{api.Schema{Name: "T !", Cols: []api.Col{{}}, Key: -2}, "\x03\x00T !\x01\x00\x00\x00\x00\xfe\xff\xff\xff\xff\xff\xff\xff\x00"},
		{api.Schema{Cols: []api.Col{{Kind: 258}, {Kind: -1, Null: true}}, Key: 258}, "\x00\x00\x02\x00\x00\x02\x00\x00\x00\xff\x01\x02\x01\x00\x00\x00\x00\x00\x00\x00"},
	} {
		if got := Bytes(c.s); string(got) != c.want {
			t.Errorf("%+v: %x", c.s, got)
		}
	}
}

// wantBytes is the document's words as they stand, byte by byte.
func wantBytes(s api.Schema) []byte {
	b := append(wantText(s.Name), byte(len(s.Cols)))
	for _, c := range s.Cols {
		b = append(append(b, wantText(c.Name)...), byte(c.Kind), wantTruth(c.Null))
	}
	return append(binary.LittleEndian.AppendUint64(b, uint64(s.Key)), wantTruth(s.Only))
}

func wantText(s string) []byte {
	s = s[:min(len(s), 65535)]
	return append([]byte{byte(len(s)), byte(len(s) >> 8)}, s...)
}

func wantTruth(is bool) byte {
	if is {
		return 1
	}
	return 0
}

func TestP901BytesOfManyColumns(t *testing.T) {
	for size := range 256 {
		s := api.Schema{Name: "t", Cols: columnsOf(size), Key: size * 1000003}
		if got := Bytes(s); !bytes.Equal(got, wantBytes(s)) {
			t.Errorf("%d columns: %x", size, got)
		}
	}
}

func TestP901BytesOfLongNames(t *testing.T) {
	for _, size := range []int{0, 1, 12, 13, 255, 256, 65534, 65535, 65536, 70000} {
		name := strings.Repeat("n", size)
		s := api.Schema{Name: name, Cols: []api.Col{nullColumn(name, 3), column("a", 1)}, Key: 1}
		if got := Bytes(s); !bytes.Equal(got, wantBytes(s)) {
			t.Errorf("names of %d bytes: %d bytes", size, len(got))
		}
	}
}

func TestP901BytesAsTheWordsSay(t *testing.T) {
	source := rand.New(rand.NewSource(2))
	for range 3000 {
		s := someSchema(source, source.Intn(4))
		if got := Bytes(s); !bytes.Equal(got, wantBytes(s)) {
			t.Fatalf("%+v: %x", s, got)
		}
	}
}

// isParsed tells whether b is parsed to want, or answers the error e and nothing else.
func isParsed(t *testing.T, b string, want api.Schema, e api.Errno) {
	t.Helper()
	got, gotE := Parse([]byte(b))
	if gotE != e || !equal(got, want) || e != api.OK && !isNothing(got) {
		t.Errorf("%x: %+v, %v, not %+v, %v", b, got, gotE, want, e)
	}
}

func isRefused(t *testing.T, b string, e api.Errno) {
	t.Helper()
	isParsed(t, b, api.Schema{}, e)
}

func TestP901Parse(t *testing.T) {
	isParsed(t, "\x01\x00t\x01\x02\x00ab\x01\x00\x00\x00\x00\x00\x00\x00\x00\x00\x01", api.Schema{Name: "t", Cols: []api.Col{column("ab", api.Bool)}, Only: true}, api.OK)
	isParsed(t, "\x01\x00t\x02\x01\x00a\x03\x01\x01\x00b\x02\x00\x01\x00\x00\x00\x00\x00\x00\x00\x00", api.Schema{Name: "t", Cols: []api.Col{nullColumn("a", api.Text), column("b", api.Int)}, Key: 1}, api.OK)
	for size := 1; size <= 6; size++ {
		s := shape("abcdefghijkl", columnsOf(size)...)
		isParsed(t, string(wantBytes(s)), s, api.OK)
	}
}

func TestP901ParseOfNothing(t *testing.T) {
	for _, b := range [][]byte{nil, {}} {
		if s, e := Parse(b); e != api.ErrCut || !isNothing(s) {
			t.Errorf("%+v, %v", s, e)
		}
	}
}

func TestP901ParseOfFronts(t *testing.T) {
	source := rand.New(rand.NewSource(3))
	for i := range 300 {
		s := someSchema(source, i%2)
		if len(s.Cols) > 6 {
			continue
		}
		b := string(wantBytes(s))
		for size := range b {
			isRefused(t, b[:size], api.ErrCut)
		}
		for _, more := range []string{"\x00", "\x01", "\x00\x00", strings.Repeat("\xff", 100), b} {
			isRefused(t, b+more, api.ErrMore)
		}
	}
}

// TestP901ParseOfTooMany: it is told as soon as it is read, whatever lacks behind it, or is wrong ahead of it or behind it.
func TestP901ParseOfTooMany(t *testing.T) {
	for n := range 256 {
		for _, name := range []string{"t", "", "table"} {
			b := string(wantText(name)) + string([]byte{byte(n)})
			for _, rest := range []string{"", "\x00", "\xff", strings.Repeat("\x00", 4*n), strings.Repeat("\x00", 4*n+9), strings.Repeat("\xff", 2000)} {
				want, e := wantParse([]byte(b + rest))
				isParsed(t, b+rest, want, e)
				if n > 6 {
					isRefused(t, b+rest, api.ErrMany)
				}
			}
		}
	}
	isRefused(t, "\x02\x00t", api.ErrCut)
	isRefused(t, "\x02\x00t\x07", api.ErrCut)
}

// TestP901ParseOfTruths: a Null, an Only above 1 is told as soon as it is read.
func TestP901ParseOfTruths(t *testing.T) {
	cols := columnsOf(6)
	s := shape("t", cols...)
	b := string(wantBytes(s))
	at := 4
	for i, c := range cols {
		at += 2 + len(c.Name) + 1
		for n := 2; n < 256; n++ {
			by := string([]byte{byte(n)})
			isRefused(t, b[:at]+by+b[at+1:], api.ErrBad)
			isRefused(t, b[:at]+by, api.ErrBad)
			isRefused(t, b[:at]+by+"\xff\xff\xff", api.ErrBad)
			isRefused(t, b[:at]+by+b[at+1:]+"\x00", api.ErrBad)
			// Of what Check would refuse: that comes behind.
			isRefused(t, "\x01\x00T"+b[3:at-1]+"\x09"+by+b[at+1:], api.ErrBad)
		}
		truths := api.Schema{Name: "t", Cols: slices.Clone(cols), Key: (i + 1) % 6}
		truths.Cols[truths.Key].Null = false
		for _, is := range []bool{false, true} {
			truths.Cols[i].Null = is
			isParsed(t, string(wantBytes(truths)), truths, api.OK)
		}
		at++
	}
	at += 8
	for n := 2; n < 256; n++ {
		by := string([]byte{byte(n)})
		isRefused(t, b[:at]+by, api.ErrBad)
		isRefused(t, b[:at]+by+"\x00", api.ErrBad)
		isRefused(t, "\x01\x00T"+b[3:at]+by, api.ErrBad)
	}
	isRefused(t, b[:at], api.ErrCut)
}

// TestP901ParseOfWhatMayNotBe: what Check refuses is told when all is read, and nothing lacks or is too much.
func TestP901ParseOfWhatMayNotBe(t *testing.T) {
	for _, s := range []api.Schema{
		{}, shape("", column("a", 1)), shape("table", column("a", 1)), shape("abcdefghijklm", column("a", 1)), shape(strings.Repeat("a", 65535), column("a", 1)),
		shape("t"),
		shape("t", column("", 1)), shape("t", column("by", 1)), shape("t", column("a", 1), column("b", 2), column("a", 1)),
		shape("t", column("a", 0)), shape("t", column("a", 4)), shape("t", column("a", 255)), shape("t", column("a", 1), column("b", 9)),
		{Name: "t", Cols: columnsOf(3), Key: 3}, {Name: "t", Cols: columnsOf(3), Key: -1}, {Name: "t", Cols: columnsOf(3), Key: math.MinInt64}, {Name: "t", Cols: columnsOf(3), Key: 256},
		{Name: "t", Cols: columnsOf(3), Key: 1}, shape("t", nullColumn("a", 1)),
	} {
		b := string(wantBytes(s))
		if wantCheck(s) == api.OK {
			t.Fatalf("%+v may be", s)
		}
		isRefused(t, b, wantCheck(s))
		isRefused(t, b+"\x00", api.ErrMore)
		isRefused(t, b[:len(b)-1], api.ErrCut)
		isRefused(t, b[:len(b)-1]+"\x02", api.ErrBad)
	}
}

// wants reads bytes by the document's words.
type wants struct {
	b []byte
	e api.Errno
}

func (w *wants) take(n int) []byte {
	if w.e == api.OK && len(w.b) < n {
		w.e = api.ErrCut
	}
	if w.e != api.OK {
		return make([]byte, n)
	}
	b := w.b[:n]
	w.b = w.b[n:]
	return b
}

func (w *wants) text() string {
	return string(w.take(int(binary.LittleEndian.Uint16(w.take(2)))))
}

func (w *wants) upTo(most byte, e api.Errno) int {
	n := w.take(1)[0]
	if w.e == api.OK && n > most {
		w.e = e
	}
	return int(n)
}

// wantParse is the document's words as they stand.
func wantParse(b []byte) (api.Schema, api.Errno) {
	w := wants{b: b}
	s := api.Schema{Name: w.text()}
	n := w.upTo(6, api.ErrMany)
	for i := 0; i < n && w.e == api.OK; i++ {
		name := w.text()
		kind := w.upTo(255, api.OK)
		s.Cols = append(s.Cols, api.Col{Name: name, Kind: kind, Null: w.upTo(1, api.ErrBad) == 1})
	}
	s.Key = int(binary.LittleEndian.Uint64(w.take(8)))
	s.Only = w.upTo(1, api.ErrBad) == 1
	if w.e == api.OK && len(w.b) > 0 {
		w.e = api.ErrMore
	}
	if w.e == api.OK {
		w.e = wantCheck(s)
	}
	if w.e != api.OK {
		return api.Schema{}, w.e
	}
	return s, api.OK
}

// someBytes draws bytes that are a schema's, or nearly so.
func someBytes(source *rand.Rand) []byte {
	b := wantBytes(someSchema(source, source.Intn(2)))
	for range source.Intn(3) {
		i := source.Intn(len(b))
		switch source.Intn(4) {
		case 0:
			b = slices.Insert(b, i, byte(source.Intn(5)))
		case 1:
			b = b[:max(i, 1)]
		case 2:
			b[i] = byte(source.Intn(6))
		case 3:
			b[i] = byte(source.Intn(256))
		}
	}
	if source.Intn(10) == 0 {
		b = append(b, byte(source.Intn(3)))
	}
	return b
}

// TestP901ParseAsTheWordsSay: and what is read is written as it stood.
func TestP901ParseAsTheWordsSay(t *testing.T) {
	source := rand.New(rand.NewSource(4))
	seen := map[api.Errno]int{}
	for range 40000 {
		b := someBytes(source)
		want, wantE := wantParse(b)
		got, e := Parse(b)
		if e != wantE || !equal(got, want) || e != api.OK && !isNothing(got) {
			t.Fatalf("%x: %+v, %v, not %+v, %v", b, got, e, want, wantE)
		}
		if e == api.OK && !bytes.Equal(Bytes(got), b) {
			t.Fatalf("%x is written as %x", b, Bytes(got))
		}
		seen[e]++
	}
	for _, e := range []api.Errno{api.OK, api.ErrCut, api.ErrMany, api.ErrBad, api.ErrMore, api.ErrName, api.ErrKind, api.ErrArg, api.ErrNull} {
		if seen[e] == 0 {
			t.Errorf("no bytes were drawn for %v", e)
		}
	}
}

// TestP901ParseOfAllShortOnes: any bytes, of a few numbers that say something.
func TestP901ParseOfAllShortOnes(t *testing.T) {
	few := []byte{0, 1, 2, 6, 7, 'a', 255}
	all := [][]byte{{}}
	for i := 0; i < len(all) && len(all[i]) < 5; i++ {
		for _, x := range few {
			all = append(all, append(bytes.Clone(all[i]), x))
		}
	}
	for _, b := range all {
		for _, rest := range []string{"", "\x00\x00\x00\x00\x00\x00\x00\x00\x00", "\x01\x00a\x02\x00\x00\x00\x00\x00\x00\x00\x00\x00\x01"} {
			want, e := wantParse([]byte(string(b) + rest))
			isParsed(t, string(b)+rest, want, e)
		}
	}
}

func TestP901Find(t *testing.T) {
	s := shape("t", column("a", 1), column("b", 2), column("b", 3), column("", 1), column("select", 1), column("A", 1), column("b", 2))
	for name, want := range map[string]int{"a": 0, "b": 1, "": 3, "select": 4, "A": 5} {
		if k, is := Find(s, name); k != want || !is {
			t.Errorf("%q: %d, %v", name, k, is)
		}
	}
	for _, name := range []string{"t", "c", "B", "aa", "a ", " a", "ab", "a\x00", "t.a", "selec"} {
		if k, is := Find(s, name); k != 0 || is {
			t.Errorf("%q: %d, %v", name, k, is)
		}
	}
	for _, s := range []api.Schema{{}, {Name: "a"}, {Name: "a", Cols: []api.Col{}}} {
		for _, name := range []string{"", "a"} {
			if k, is := Find(s, name); k != 0 || is {
				t.Errorf("%+v, %q: %d, %v", s, name, k, is)
			}
		}
	}
}

func TestP901FindOfManyColumns(t *testing.T) {
	for size := 1; size < 400; size += 57 {
		cols := columnsOf(size)
		for i, c := range cols {
			if k, is := Find(shape("t", append(slices.Clone(cols), cols...)...), c.Name); k != i || !is {
				t.Errorf("%d columns, the %d-th: %d, %v", size, i, k, is)
			}
		}
	}
}

func isSame(t *testing.T, a, b api.Schema, want bool) {
	t.Helper()
	if Same(a, b) != want || Same(b, a) != want {
		t.Errorf("%+v, %+v: not %v", a, b, want)
	}
}

func TestP901Same(t *testing.T) {
	was := api.Schema{Name: "t", Cols: columnsOf(6), Key: 0, Only: false}
	isSame(t, was, clone(was), true)
	for _, change := range []func(s *api.Schema){
		func(s *api.Schema) { s.Name = "" },
		func(s *api.Schema) { s.Name = "T" },
		func(s *api.Schema) { s.Name = "tt" },
		func(s *api.Schema) { s.Key = 1 },
		func(s *api.Schema) { s.Key = -1 },
		func(s *api.Schema) { s.Key = 1 << 32 },
		func(s *api.Schema) { s.Only = true },
		func(s *api.Schema) { s.Cols = nil },
		func(s *api.Schema) { s.Cols = s.Cols[1:] },
		func(s *api.Schema) { s.Cols = append(s.Cols, api.Col{}) },
		func(s *api.Schema) { slices.Reverse(s.Cols) },
		func(s *api.Schema) { s.Cols[2], s.Cols[3] = s.Cols[3], s.Cols[2] },
	} {
		s := clone(was)
		change(&s)
		isSame(t, was, s, false)
		isSame(t, s, clone(s), true)
	}
	for at := range was.Cols {
		for _, change := range []func(c *api.Col){
			func(c *api.Col) { c.Name += "x" },
			func(c *api.Col) { c.Name = "" },
			func(c *api.Col) { c.Kind++ },
			func(c *api.Col) { c.Kind += 256 },
			func(c *api.Col) { c.Null = !c.Null },
		} {
			s := clone(was)
			change(&s.Cols[at])
			isSame(t, was, s, false)
			isSame(t, s, clone(s), true)
		}
		s := clone(was)
		s.Cols = slices.Delete(s.Cols, at, at+1)
		isSame(t, was, s, false)
	}
}

// TestP901SameOfNothing: no columns and an empty list of them are the same (P2); all are held against each other, of whatever schemas.
func TestP901SameOfNothing(t *testing.T) {
	isSame(t, api.Schema{}, api.Schema{Cols: []api.Col{}}, true)
	isSame(t, api.Schema{}, api.Schema{Cols: columnsOf(3)[:0]}, true)
	isSame(t, api.Schema{}, api.Schema{Cols: []api.Col{{}}}, false)
	for _, size := range []int{7, 255, 256, 1000} {
		s := shape("no name!", columnsOf(size)...)
		isSame(t, s, clone(s), true)
		other := clone(s)
		other.Cols[size-1].Null = false
		isSame(t, s, other, false)
		isSame(t, s, shape("no name!", columnsOf(size-1)...), false)
	}
}

func TestP902ReadAsTheSame(t *testing.T) {
	source := rand.New(rand.NewSource(5))
	for range 5000 {
		s := someSchema(source, 0)
		got, e := Parse(Bytes(s))
		if e != api.OK || !Same(got, s) || !equal(got, s) {
			t.Fatalf("%+v: %+v, %v", s, got, e)
		}
	}
}

// TestP902TellsSchemasApart: no two unlike schemas are written as one.
func TestP902TellsSchemasApart(t *testing.T) {
	source := rand.New(rand.NewSource(6))
	seen := map[string]api.Schema{}
	for range 5000 {
		s := someSchema(source, source.Intn(2))
		b := string(Bytes(s))
		if was, ok := seen[b]; ok && !Same(was, s) {
			t.Fatalf("%+v, %+v: %x", was, s, b)
		}
		seen[b] = s
	}
}

// TestP902WhatIsRefused: what Check refuses is not read, where its numbers fit their bytes.
func TestP902WhatIsRefused(t *testing.T) {
	source := rand.New(rand.NewSource(7))
	for range 5000 {
		s := someSchema(source, 1+source.Intn(3))
		want := wantCheck(s)
		if len(s.Cols) > 6 {
			want = api.ErrMany
		}
		if got, e := Parse(Bytes(s)); e != want || want != api.OK && !isNothing(got) {
			t.Fatalf("%+v: %v, not %v", s, e, want)
		}
	}
}

// TestP1AnySchemas: of those that may not be, too, each call ends; great ones are not slow.
func TestP1AnySchemas(t *testing.T) {
	long := strings.Repeat("a", 1<<20)
	for _, s := range []api.Schema{
		{}, {Key: math.MinInt64}, {Key: math.MaxInt64, Cols: make([]api.Col, 3)},
		{Name: long, Cols: []api.Col{{Name: long, Kind: math.MinInt64}}},
		{Name: "t", Cols: make([]api.Col, 1<<18)},
		{Name: "t", Cols: columnsOf(256)}, {Name: "t", Cols: columnsOf(257), Key: 256},
	} {
		Check(s)
		Parse(Bytes(s))
		Find(s, long)
		Same(s, clone(s))
	}
	source := rand.New(rand.NewSource(8))
	for range 5000 {
		b := make([]byte, source.Intn(100))
		source.Read(b)
		Parse(b)
	}
	if s, e := Parse(make([]byte, 1<<22)); e != api.ErrMore || !isNothing(s) {
		t.Errorf("4 MiB: %v", e)
	}
}

func TestP2WhatIsHandedInStays(t *testing.T) {
	room := columnsOf(10)
	was := slices.Clone(room)
	for size := range room {
		s := api.Schema{Name: "t", Cols: room[:size], Key: 2, Only: true}
		Check(s)
		Bytes(s)
		Find(s, "cc")
		Find(s, "none")
		Same(s, api.Schema{Name: "t", Cols: room[:5], Key: 2, Only: true})
	}
	if !slices.Equal(room, was) {
		t.Error("columns have changed")
	}
	all := append(wantBytes(shape("t", room[:6]...)), bytes.Repeat([]byte{7}, 50)...)
	wasAll := bytes.Clone(all)
	Parse(all[:len(all)-50])
	Parse(all)
	if !bytes.Equal(all, wasAll) {
		t.Error("bytes have changed")
	}
}

func TestP2AnswersAreNewMemory(t *testing.T) {
	s := shape("t", columnsOf(4)...)
	b := Bytes(s)
	other := Bytes(s)
	was := bytes.Clone(other)
	got, e := Parse(b)
	again, _ := Parse(b)
	if e != api.OK {
		t.Fatal(e)
	}
	for i := range b[:cap(b)] {
		b[:cap(b)][i] ^= 255
	}
	for i := range again.Cols[:cap(again.Cols)] {
		again.Cols[:cap(again.Cols)][i] = column("z", 9)
	}
	if !equal(got, shape("t", columnsOf(4)...)) || !equal(s, got) || !bytes.Equal(other, was) {
		t.Error("an answer shares memory")
	}
}

// TestP3TheSameAgain: nothing is left of one call in the next.
func TestP3TheSameAgain(t *testing.T) {
	source := rand.New(rand.NewSource(9))
	for range 1000 {
		s := someSchema(source, source.Intn(3))
		e := Check(s)
		Check(someSchema(source, 0))
		if Check(s) != e || Check(clone(s)) != e || !bytes.Equal(Bytes(s), Bytes(s)) {
			t.Fatalf("%+v: two answers", s)
		}
		b := someBytes(source)
		one, e1 := Parse(b)
		other, e2 := Parse(b)
		if e1 != e2 || !Same(one, other) {
			t.Fatalf("%x: two answers", b)
		}
	}
}

func TestP7SideBySide(t *testing.T) {
	var all sync.WaitGroup
	faults := make([]int, 16)
	for i := range faults {
		all.Go(func() {
			source := rand.New(rand.NewSource(int64(i)))
			for range 300 {
				s := someSchema(source, source.Intn(3))
				_, e := Parse(Bytes(s))
				if Check(s) != wantCheck(s) || len(s.Cols) <= 6 && e != wantCheck(s) {
					faults[i]++
				}
			}
		})
	}
	all.Wait()
	for i, n := range faults {
		if n > 0 {
			t.Errorf("%d: %d answers", i, n)
		}
	}
}
