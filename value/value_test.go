package value

import (
	"bytes"
	"math"
	"math/big"
	"math/rand"
	"slices"
	"strings"
	"testing"

	"ledgerline/api"
)

func boolean(n int) api.Value { return api.Value{Kind: api.Bool, N: n} }

func number(n int) api.Value { return api.Value{Kind: api.Int, N: n} }

func text(s string) api.Value { return api.Value{Kind: api.Text, S: s} }

// inOrder are valid values, each one ahead of all behind it.
func inOrder() []api.Value {
	all := []api.Value{{}, boolean(0), boolean(1)}
	for _, n := range []int{math.MinInt64, math.MinInt64 + 1, math.MinInt32 - 1, -256, -10, -9, -2, -1, 0, 1, 2, 9, 10, 255, 256, math.MaxInt32 + 1, math.MaxInt64 - 1, math.MaxInt64} {
		all = append(all, number(n))
	}
	for _, s := range []string{"", "\x00", "\x00\x00", "\x00\xff", "\x01", " ", "'", "''", "10", "9", "A", "B", "a", "a\x00", "a\x00b", "aB", "aa", "ab", "b", "z", "\x7f", "\x80", "ä", "ü", "\u4e16", "\U0001f600", "\xff", "\xff\x00", "\xff\xff"} {
		all = append(all, text(s))
	}
	for _, s := range []string{strings.Repeat("\xff", 59), strings.Repeat("\xff", 59) + "\xfe", strings.Repeat("\xff", 60)} {
		all = append(all, text(s))
	}
	return all
}

func TestP401CheckOfValidOnes(t *testing.T) {
	for _, v := range inOrder() {
		if e := Check(v); e != api.OK {
			t.Errorf("%+v: %v", v, e)
		}
	}
	for size := range api.MaxText + 1 {
		for _, s := range []string{"a", "\x00", "'", "\xff"} {
			if e := Check(text(strings.Repeat(s, size))); e != api.OK {
				t.Errorf("%d times %q: %v", size, s, e)
			}
		}
	}
}

// TestP401CheckOfKinds: what else such a value has does not count.
func TestP401CheckOfKinds(t *testing.T) {
	for _, kind := range []int{-1, -2, 4, 5, 255, 256, 257, 258, 259, 1 << 32, 1<<32 + 3, math.MaxInt64, math.MinInt64} {
		for _, n := range []int{0, 1, 2, -1} {
			for _, s := range []string{"", "a", strings.Repeat("a", 61)} {
				if e := Check(api.Value{Kind: kind, N: n, S: s}); e != api.ErrKind {
					t.Errorf("%d, %d, a text of %d bytes: %v", kind, n, len(s), e)
				}
			}
		}
	}
}

func TestP401CheckOfFieldsThatMayNotBe(t *testing.T) {
	long := strings.Repeat("a", api.MaxText+1)
	for kind, wrong := range map[int][]api.Value{
		api.Null: {{N: 1}, {N: -1}, {N: math.MinInt64}, {S: "a"}, {S: "\x00"}, {S: "null"}, {N: 1, S: "a"}, {S: long}, {N: 2, S: long}},
		api.Bool: {{N: 2}, {N: -1}, {N: 256}, {N: 257}, {N: 1 << 32}, {N: 1<<32 + 1}, {N: math.MaxInt64}, {N: math.MinInt64}, {S: "a"}, {N: 1, S: "\x00"}, {N: 1, S: "true"}, {N: 2, S: "a"}, {S: long}, {N: 1, S: long}},
		api.Int:  {{S: "a"}, {S: "\x00"}, {N: 5, S: "5"}, {N: -1, S: "a"}, {S: long}, {N: math.MaxInt64, S: long}},
		api.Text: {{N: 1}, {N: -1}, {N: math.MinInt64}, {N: 1, S: "a"}, {N: 1 << 32, S: "a"}, {N: 1, S: strings.Repeat("a", 60)}, {N: 1, S: long}, {N: -1, S: long}},
	} {
		for _, v := range wrong {
			v.Kind = kind
			if e := Check(v); e != api.ErrArg {
				t.Errorf("%+v: %v", v, e)
			}
		}
	}
}

// TestP401CheckOfLongTexts: bytes count, not signs.
func TestP401CheckOfLongTexts(t *testing.T) {
	for _, c := range []struct {
		s    string
		want api.Errno
	}{
		{strings.Repeat("a", 60), api.OK}, {strings.Repeat("a", 61), api.ErrLong}, {strings.Repeat("a", 62), api.ErrLong},
		{strings.Repeat("\x00", 61), api.ErrLong}, {strings.Repeat("'", 60), api.OK}, {strings.Repeat("'", 61), api.ErrLong},
		{strings.Repeat("ü", 30), api.OK}, {strings.Repeat("ü", 31), api.ErrLong}, {strings.Repeat("ü", 30) + "a", api.ErrLong},
		{strings.Repeat("\U0001f600", 15), api.OK}, {strings.Repeat("\U0001f600", 16), api.ErrLong},
		{strings.Repeat("a", 256), api.ErrLong}, {strings.Repeat("a", 65536), api.ErrLong}, {strings.Repeat("a", 1<<20), api.ErrLong},
	} {
		if e := Check(text(c.s)); e != c.want {
			t.Errorf("a text of %d bytes: %v", len(c.s), e)
		}
	}
}

func TestP401Compare(t *testing.T) {
	all := inOrder()
	for i, a := range all {
		for j, b := range all {
			want := 0
			if i < j {
				want = -1
			} else if i > j {
				want = 1
			}
			if got := Compare(a, b); got != want {
				t.Errorf("%+v, %+v: %d", a, b, got)
			}
		}
	}
}

func TestP401CompareExample(t *testing.T) {
	if got := Compare(api.Value{}, boolean(0)); got != -1 {
		t.Error(got)
	}
}

// someValue draws a valid value, often one of few.
func someValue(source *rand.Rand) api.Value {
	switch source.Intn(4) {
	case api.Bool:
		return boolean(source.Intn(2))
	case api.Int:
		return number(int(source.Uint64()) >> source.Intn(64))
	case api.Text:
		s := make([]byte, source.Intn(1+source.Intn(api.MaxText+1)))
		few := 1 + source.Intn(256)
		for i := range s {
			s[i] = byte(source.Intn(few))
		}
		return text(string(s))
	}
	return api.Value{}
}

// someValues draws n values; each seed draws the same ones always.
func someValues(n int, seed int64) []api.Value {
	source := rand.New(rand.NewSource(seed))
	all := make([]api.Value, n)
	for i := range all {
		all[i] = someValue(source)
	}
	return all
}

// wantCompare is the document's words as they stand.
func wantCompare(a, b api.Value) int {
	switch {
	case a.Kind < b.Kind:
		return -1
	case a.Kind > b.Kind:
		return 1
	case a.Kind == api.Text:
		return bytes.Compare([]byte(a.S), []byte(b.S))
	case a.N < b.N:
		return -1
	case a.N > b.N:
		return 1
	}
	return 0
}

func TestP401CompareAsTheWordsSay(t *testing.T) {
	all := someValues(600, 1)
	for _, a := range all {
		if e := Check(a); e != api.OK {
			t.Fatalf("%+v: %v", a, e)
		}
		for _, b := range all {
			if got := Compare(a, b); got != wantCompare(a, b) {
				t.Fatalf("%+v, %+v: %d", a, b, got)
			}
		}
	}
}

func TestP401TextOfNullAndBools(t *testing.T) {
	for want, v := range map[string]api.Value{"null": {}, "false": boolean(0), "true": boolean(1)} {
		if got := Text(v); got != want {
			t.Errorf("%+v: %q", v, got)
		}
	}
}

func TestP401TextOfInts(t *testing.T) {
	for n, want := range map[int]string{0: "0", 1: "1", -1: "-1", 9: "9", 10: "10", -10: "-10", 1000000: "1000000", math.MaxInt64: "9223372036854775807", math.MinInt64: "-9223372036854775808", math.MinInt64 + 1: "-9223372036854775807"} {
		if got := Text(number(n)); got != want {
			t.Errorf("%d: %q", n, got)
		}
	}
	source := rand.New(rand.NewSource(2))
	for range 2000 {
		n := int(source.Uint64()) >> source.Intn(64)
		if got := Text(number(n)); got != big.NewInt(int64(n)).String() {
			t.Errorf("%d: %q", n, got)
		}
	}
}

func TestP401TextOfTexts(t *testing.T) {
	for s, want := range map[string]string{
		"": "''", "a": "'a'", "'": "''''", "''": "''''''", "it's": "'it''s'", "'a": "'''a'", "a'": "'a'''", "a''b'c": "'a''''b''c'",
		"null": "'null'", "5": "'5'", " a ": "' a '", `"`: `'"'`, `\`: `'\'`, `\'`: `'\'''`, "`": "'`'", "\x00": "'\x00'", "a\n\t\r": "'a\n\t\r'", "\xff'\xc3": "'\xff''\xc3'", "ü": "'ü'", "’": "'’'",
		strings.Repeat("'", 60): strings.Repeat("'", 122), strings.Repeat("a", 60): "'" + strings.Repeat("a", 60) + "'",
	} {
		if got := Text(text(s)); got != want {
			t.Errorf("%q: %q", s, got)
		}
	}
}

// TestP401TextByteByByte: each byte of S stands between the quotes as it is, and a quote twice.
func TestP401TextByteByByte(t *testing.T) {
	for _, v := range someValues(2000, 3) {
		if v.Kind != api.Text {
			continue
		}
		want := []byte{'\''}
		for i := range len(v.S) {
			want = append(want, v.S[i])
			if v.S[i] == '\'' {
				want = append(want, '\'')
			}
		}
		if got := Text(v); got != string(want)+"'" {
			t.Fatalf("%q: %q", v.S, got)
		}
	}
}

// TestP401TextTellsValuesApart: no two unlike values are written as one.
func TestP401TextTellsValuesApart(t *testing.T) {
	seen := map[string]api.Value{}
	for _, v := range append(inOrder(), someValues(2000, 4)...) {
		s := Text(v)
		if was, ok := seen[s]; ok && was != v {
			t.Errorf("%+v, %+v: %q", was, v, s)
		}
		seen[s] = v
	}
}

// TestP402AnyTwo: one stands ahead, or they are the same, field by field.
func TestP402AnyTwo(t *testing.T) {
	all := append(inOrder(), someValues(400, 5)...)
	for _, a := range all {
		for _, b := range all {
			c := Compare(a, b)
			if c != -1 && c != 0 && c != 1 || c != -Compare(b, a) || (c == 0) != (a == b) {
				t.Fatalf("%+v, %+v: %d and %d", a, b, c, Compare(b, a))
			}
		}
	}
}

func TestP402AnyThree(t *testing.T) {
	all := append(inOrder(), someValues(60, 6)...)
	for _, a := range all {
		for _, b := range all {
			if Compare(a, b) > 0 {
				continue
			}
			for _, c := range all {
				if Compare(b, c) <= 0 && Compare(a, c) > 0 {
					t.Fatalf("%+v, %+v, %+v stand in a ring", a, b, c)
				}
			}
		}
	}
}

func TestP402Sorted(t *testing.T) {
	want := inOrder()
	source := rand.New(rand.NewSource(7))
	for range 50 {
		got := inOrder()
		source.Shuffle(len(got), func(i, j int) { got[i], got[j] = got[j], got[i] })
		if slices.SortFunc(got, Compare); !slices.Equal(got, want) {
			t.Fatalf("%+v", got)
		}
	}
}

// TestP1AnyValues: of those that are not valid, too, each call ends; Check tells which they are.
func TestP1AnyValues(t *testing.T) {
	var all []api.Value
	for _, kind := range []int{-1, 0, 1, 2, 3, 4, 77, math.MaxInt64, math.MinInt64} {
		for _, n := range []int{0, 1, 2, -1, math.MaxInt64, math.MinInt64} {
			for _, s := range []string{"", "'", "\xff", strings.Repeat("'", 100000)} {
				all = append(all, api.Value{Kind: kind, N: n, S: s})
			}
		}
	}
	for _, a := range all {
		if e := Check(a); e != wantCheck(a) {
			t.Errorf("%d, %d, a text of %d bytes: %v", a.Kind, a.N, len(a.S), e)
		}
		Text(a)
		for _, b := range all {
			Compare(a, b)
		}
	}
}

// wantCheck is the document's words as they stand.
func wantCheck(v api.Value) api.Errno {
	if v.Kind < 0 || v.Kind > 3 {
		return api.ErrKind
	}
	if v.Kind == api.Null && (v.N != 0 || v.S != "") || v.Kind == api.Bool && v.N != 0 && v.N != 1 || (v.Kind == api.Bool || v.Kind == api.Int) && v.S != "" || v.Kind == api.Text && v.N != 0 {
		return api.ErrArg
	}
	if v.Kind == api.Text && len(v.S) > 60 {
		return api.ErrLong
	}
	return api.OK
}

func TestP3TheSameAgain(t *testing.T) {
	all := append(inOrder(), someValues(100, 8)...)
	for _, a := range all {
		if Check(a) != Check(a) || Text(a) != Text(a) {
			t.Errorf("%+v: two answers", a)
		}
		for _, b := range all {
			if Compare(a, b) != Compare(a, b) {
				t.Errorf("%+v, %+v: two answers", a, b)
			}
		}
	}
}
