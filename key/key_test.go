package key

import (
	"bytes"
	"math"
	"math/rand"
	"slices"
	"strings"
	"testing"

	"ledgerline/api"
	"ledgerline/value"
)

func boolean(n int) api.Value { return api.Value{Kind: api.Bool, N: n} }

func number(n int) api.Value { return api.Value{Kind: api.Int, N: n} }

func text(s string) api.Value { return api.Value{Kind: api.Text, S: s} }

// inOrder are valid values, of each kind, the bounds among them, each one ahead of the next.
func inOrder() []api.Value {
	all := []api.Value{{}, boolean(0), boolean(1)}
	for _, n := range []int{math.MinInt64, math.MinInt64 + 1, -1 << 56, math.MinInt32 - 1, -65537, -257, -256, -255, -2, -1, 0, 1, 2, 127, 128, 255, 256, 258, 65535, 65536, math.MaxInt32, math.MaxInt32 + 1, 1 << 56, math.MaxInt64 - 1, math.MaxInt64} {
		all = append(all, number(n))
	}
	for _, s := range []string{"", "\x00", "\x00\x00", strings.Repeat("\x00", 60), "\x00\x00\x01", "\x00\x01", "\x00\x01\x00", "\x00\x02", "\x00\xfe", "\x00\xff", "\x00\xff\x00", "\x00\xff\x01", "\x00\xff\xff", "\x01", "\x01\x00", "\x01\x00\x01", "\x01\x01", "\x01\xff", "A", "a", "a\x00", "a\x00\x01", "a\x00\xff", "a\x01", "aa", strings.Repeat("a", 59), strings.Repeat("a", 60), strings.Repeat("a", 59) + "\xff", "ab", "b", "grün", "\xfe", "\xff", "\xff\x00", "\xff\x00\xff", "\xff\x01", strings.Repeat("\xff", 60)} {
		all = append(all, text(s))
	}
	return all
}

// fewBytes draws up to size bytes, most of them of those that say something in a Text.
func fewBytes(source *rand.Rand, size int) []byte {
	b := make([]byte, source.Intn(size+1))
	source.Read(b)
	for i := range b {
		if source.Intn(4) > 0 {
			b[i] = []byte{0, 1, 2, 254, 255}[source.Intn(5)]
		}
	}
	return b
}

// someValue draws a valid value.
func someValue(source *rand.Rand) api.Value {
	switch source.Intn(8) {
	case 0:
		return api.Value{}
	case 1:
		return boolean(source.Intn(2))
	case 2, 3:
		return number(int(source.Uint64()) >> source.Intn(64))
	case 4, 5:
		return text(string(fewBytes(source, 4)))
	}
	return text(string(fewBytes(source, api.MaxText)))
}

// wantBytes is the document's words as they stand.
func wantBytes(v api.Value) []byte {
	b := []byte{byte(v.Kind)}
	switch v.Kind {
	case 1:
		b = append(b, byte(v.N))
	case 2:
		sum := uint64(v.N) + 9223372036854775808
		for shift := 56; shift >= 0; shift -= 8 {
			b = append(b, byte(sum>>shift))
		}
	case 3:
		b = append(b, strings.ReplaceAll(v.S, "\x00", "\x00\xff")...)
		b = append(b, 0, 1)
	}
	return b
}

func TestP601Bytes(t *testing.T) {
	for _, c := range []struct {
		v    api.Value
		want string
	}{
		{api.Value{}, "\x00"},
		{boolean(0), "\x01\x00"},
		{boolean(1), "\x01\x01"},
		{number(0), "\x02\x80\x00\x00\x00\x00\x00\x00\x00"},
		{number(1), "\x02\x80\x00\x00\x00\x00\x00\x00\x01"},
		{number(-1), "\x02\x7f\xff\xff\xff\xff\xff\xff\xff"},
		{number(0x0102030405060708), "\x02\x81\x02\x03\x04\x05\x06\x07\x08"},
		{number(math.MaxInt64), "\x02\xff\xff\xff\xff\xff\xff\xff\xff"},
		{number(math.MinInt64), "\x02\x00\x00\x00\x00\x00\x00\x00\x00"},
		{text(""), "\x03\x00\x01"},
		{text("hi"), "\x03hi\x00\x01"},
		{text("\x00"), "\x03\x00\xff\x00\x01"},
		{text("\x00\x00"), "\x03\x00\xff\x00\xff\x00\x01"},
		{text("\x00\x01"), "\x03\x00\xff\x01\x00\x01"},
		{text("\x00\xff"), "\x03\x00\xff\xff\x00\x01"},
		{text("a\x00b\x01c\xff"), "\x03a\x00\xffb\x01c\xff\x00\x01"},
		{text("ü"), "\x03\xc3\xbc\x00\x01"},
		{text(strings.Repeat("a", 60)), "\x03" + strings.Repeat("a", 60) + "\x00\x01"},
		{text(strings.Repeat("\x00", 60)), "\x03" + strings.Repeat("\x00\xff", 60) + "\x00\x01"},
	} {
		if got := Bytes(c.v); string(got) != c.want {
			t.Errorf("%+v: %x", c.v, got)
		}
	}
}

func TestP601BytesAsTheWordsSay(t *testing.T) {
	source := rand.New(rand.NewSource(1))
	for range 20000 {
		if v := someValue(source); !bytes.Equal(Bytes(v), wantBytes(v)) {
			t.Fatalf("%+v: %x", v, Bytes(v))
		}
	}
	for bit := range 64 {
		for _, n := range []int{1 << bit, -1 << bit, 1<<bit - 1, ^(1 << bit)} {
			if v := number(n); !bytes.Equal(Bytes(v), wantBytes(v)) {
				t.Errorf("%d: %x", n, Bytes(v))
			}
		}
	}
}

// isParsed tells whether b is parsed to want, which has n of its bytes, or answers the error e and nothing beside it (P4).
func isParsed(t *testing.T, b string, want api.Value, n int, e api.Errno) {
	t.Helper()
	v, got, gotE := Parse([]byte(b))
	if v != want || got != n || gotE != e {
		t.Errorf("%x: %+v, %d, %v, not %+v, %d, %v", b, v, got, gotE, want, n, e)
	}
}

func isRefused(t *testing.T, b string, e api.Errno) {
	t.Helper()
	isParsed(t, b, api.Value{}, 0, e)
}

func TestP601Parse(t *testing.T) {
	for _, rest := range []string{"", "\x00", "\x01", "\xff", "\x00\x01", "\x00\xff\x00\x01", strings.Repeat("\x09", 100)} {
		isParsed(t, "\x00"+rest, api.Value{}, 1, api.OK)
		isParsed(t, "\x01\x00"+rest, boolean(0), 2, api.OK)
		isParsed(t, "\x01\x01"+rest, boolean(1), 2, api.OK)
		isParsed(t, "\x02\x80\x00\x00\x00\x00\x00\x01\x02"+rest, number(258), 9, api.OK)
		isParsed(t, "\x02\x00\x00\x00\x00\x00\x00\x00\x00"+rest, number(math.MinInt64), 9, api.OK)
		isParsed(t, "\x02\xff\xff\xff\xff\xff\xff\xff\xff"+rest, number(math.MaxInt64), 9, api.OK)
		isParsed(t, "\x02\x7f\xff\xff\xff\xff\xff\xff\xff"+rest, number(-1), 9, api.OK)
		isParsed(t, "\x03\x00\x01"+rest, text(""), 3, api.OK)
		isParsed(t, "\x03a\x00\xff\xff\x01\x00\x01"+rest, text("a\x00\xff\x01"), 8, api.OK)
		isParsed(t, "\x03\x00\xff\x00\xff\x00\x01"+rest, text("\x00\x00"), 7, api.OK)
	}
}

func TestP601ParseOfKinds(t *testing.T) {
	for kind := 4; kind < 256; kind++ {
		for _, rest := range []string{"", "\x00", "\x01", "\x00\x02", "\x00\x01", strings.Repeat("\xff", 70)} {
			isRefused(t, string([]byte{byte(kind)})+rest, api.ErrKind)
		}
	}
}

func TestP601ParseOfBools(t *testing.T) {
	for n := 2; n < 256; n++ {
		for _, rest := range []string{"", "\x00", "\x00\x01"} {
			isRefused(t, "\x01"+string([]byte{byte(n)})+rest, api.ErrBad)
		}
	}
}

// TestP601ParseOfZeros: in a Text, a 0 that is followed by what may not be is told where it stands, whatever comes behind it, or lacks.
func TestP601ParseOfZeros(t *testing.T) {
	fronts := []string{"", "a", "\x01", "\xff", "\x00\xff", "a\x00\xffb", strings.Repeat("a", 60), strings.Repeat("a", 61), strings.Repeat("\x00\xff", 61), strings.Repeat("a", 1000)}
	for next := range 256 {
		if next == 1 || next == 255 {
			continue
		}
		for _, front := range fronts {
			for _, rest := range []string{"", "\x00", "\x00\x01", "\xff", "\x01", "\xff\x00\x01"} {
				isRefused(t, "\x03"+front+"\x00"+string([]byte{byte(next)})+rest, api.ErrBad)
			}
		}
	}
	for _, front := range fronts {
		isRefused(t, "\x03"+front, api.ErrCut)
		isRefused(t, "\x03"+front+"\x00", api.ErrCut)
		isRefused(t, "\x03"+front+"\x00\xff", api.ErrCut)
		isRefused(t, "\x03"+front+"\x00\xff\x00", api.ErrCut)
	}
}

// TestP601ParseOfLongTexts: a Text's own bytes count, not those that it is written with.
func TestP601ParseOfLongTexts(t *testing.T) {
	for _, part := range []string{"a", "\x00", "\x01", "\xff"} {
		for _, size := range []int{59, 60} {
			v := text(strings.Repeat(part, size))
			b := string(wantBytes(v))
			isParsed(t, b, v, len(b), api.OK)
			isParsed(t, b+"a", v, len(b), api.OK)
		}
		for _, size := range []int{61, 62, 120, 255, 256, 316, 65535, 65536 + 60, 1 << 20} {
			b := string(wantBytes(text(strings.Repeat(part, size))))
			isRefused(t, b, api.ErrLong)
			isRefused(t, b+"\x00", api.ErrLong)
			isRefused(t, b[:len(b)-1], api.ErrCut)
			isRefused(t, b[:len(b)-2], api.ErrCut)
			isRefused(t, b[:len(b)-1]+"\x02", api.ErrBad)
		}
	}
}

func TestP601ParseOfFronts(t *testing.T) {
	isRefused(t, "", api.ErrCut)
	source := rand.New(rand.NewSource(2))
	all := inOrder()
	for range 1000 {
		all = append(all, someValue(source))
	}
	for _, v := range all {
		b := string(wantBytes(v))
		isParsed(t, b, v, len(b), api.OK)
		for size := range b {
			isRefused(t, b[:size], api.ErrCut)
		}
	}
}

// TestP601ParseOfNothing: no list and an empty one are the same (P2).
func TestP601ParseOfNothing(t *testing.T) {
	for _, b := range [][]byte{nil, {}, []byte("\x00\x01")[:0]} {
		if v, n, e := Parse(b); e != api.ErrCut || n != 0 || v != (api.Value{}) {
			t.Errorf("%+v, %d, %v", v, n, e)
		}
	}
}

// TestP601ParseStaysWithin: spare room behind what is handed in is none of its bytes.
func TestP601ParseStaysWithin(t *testing.T) {
	for _, v := range inOrder() {
		b := wantBytes(v)
		for size := range b {
			if got, n, e := Parse(b[:size]); e != api.ErrCut || n != 0 || got != (api.Value{}) {
				t.Errorf("%x, %d: %+v, %d, %v", b, size, got, n, e)
			}
		}
	}
}

// wantParse is the document's words as they stand.
func wantParse(b []byte) (v api.Value, n int, e api.Errno) {
	if len(b) < 1 {
		return v, 0, api.ErrCut
	}
	switch {
	case b[0] > 3:
		return v, 0, api.ErrKind
	case b[0] == 0:
		return v, 1, api.OK
	case b[0] == 1 && len(b) < 2, b[0] == 2 && len(b) < 9:
		return v, 0, api.ErrCut
	case b[0] == 1 && b[1] > 1:
		return v, 0, api.ErrBad
	case b[0] == 1:
		return boolean(int(b[1])), 2, api.OK
	case b[0] == 2:
		sum := uint64(0)
		for i := range 8 {
			sum += uint64(b[8-i]) << (8 * i)
		}
		return number(int(sum - 9223372036854775808)), 9, api.OK
	}
	s := ""
	for n = 1; n < len(b); n++ {
		if b[n] != 0 {
			s += string(b[n : n+1])
			continue
		}
		switch {
		case n+1 == len(b):
			return v, 0, api.ErrCut
		case b[n+1] == 255:
			s += "\x00"
			n++
		case b[n+1] != 1:
			return v, 0, api.ErrBad
		case len(s) > 60:
			return v, 0, api.ErrLong
		default:
			return text(s), n + 2, api.OK
		}
	}
	return v, 0, api.ErrCut
}

// someBytes draws bytes that are a value's, with others behind, or nearly so.
func someBytes(source *rand.Rand) []byte {
	v := someValue(source)
	if source.Intn(4) == 0 {
		v = text(string(fewBytes(source, 100)))
	}
	b := append(wantBytes(v), fewBytes(source, 3)...)
	for range source.Intn(3) {
		i := source.Intn(len(b))
		switch source.Intn(4) {
		case 0:
			b = slices.Insert(b, i, fewBytes(source, 2)...)
		case 1:
			b = b[:max(i, 1)]
		case 2:
			b[i] = byte(source.Intn(5))
		case 3:
			b[i] = byte(source.Intn(256))
		}
	}
	return b
}

// TestP601ParseAsTheWordsSay: and what is read is written as it stood.
func TestP601ParseAsTheWordsSay(t *testing.T) {
	source := rand.New(rand.NewSource(3))
	seen := map[api.Errno]int{}
	for range 60000 {
		b := someBytes(source)
		want, wantN, wantE := wantParse(b)
		isParsed(t, string(b), want, wantN, wantE)
		if wantE == api.OK && !bytes.Equal(Bytes(want), b[:wantN]) {
			t.Fatalf("%x is written as %x", b[:wantN], Bytes(want))
		}
		seen[wantE]++
	}
	for _, e := range []api.Errno{api.OK, api.ErrCut, api.ErrKind, api.ErrBad, api.ErrLong} {
		if seen[e] == 0 {
			t.Errorf("no bytes were drawn for %v", e)
		}
	}
}

// TestP601ParseOfAllShortOnes: any bytes, up to six of those that say something.
func TestP601ParseOfAllShortOnes(t *testing.T) {
	all := [][]byte{{}}
	for i := 0; i < len(all); i++ {
		want, n, e := wantParse(all[i])
		isParsed(t, string(all[i]), want, n, e)
		if len(all[i]) == 6 {
			continue
		}
		for _, x := range []byte{0, 1, 2, 3, 4, 255} {
			all = append(all, append(bytes.Clone(all[i]), x))
		}
	}
}

// TestP601ParseOneBehindAnother: keys are read as they were written, one behind the other, with nothing between them.
func TestP601ParseOneBehindAnother(t *testing.T) {
	source := rand.New(rand.NewSource(4))
	for range 300 {
		var all []api.Value
		var b []byte
		for range 20 {
			v := someValue(source)
			all = append(all, v)
			b = append(b, Bytes(v)...)
		}
		for _, want := range all {
			v, n, e := Parse(b)
			if v != want || e != api.OK {
				t.Fatalf("%+v: %+v, %v", want, v, e)
			}
			b = b[n:]
		}
		if len(b) > 0 {
			t.Fatalf("%x is left", b)
		}
	}
}

// isInOrder tells whether keys stand to each other as their values do, and neither is a front of the other.
func isInOrder(t *testing.T, v, w api.Value) {
	t.Helper()
	a, b := Bytes(v), Bytes(w)
	if got := bytes.Compare(a, b); got != value.Compare(v, w) {
		t.Errorf("P602: %+v, %+v: %d", v, w, got)
	}
	if v != w && (bytes.HasPrefix(a, b) || bytes.HasPrefix(b, a)) {
		t.Errorf("P602: %+v, %+v: %x, %x", v, w, a, b)
	}
}

func TestP602InOrder(t *testing.T) {
	all := inOrder()
	for i, v := range all {
		for j, w := range all {
			isInOrder(t, v, w)
			if c := bytes.Compare(Bytes(v), Bytes(w)); (c < 0) != (i < j) || (c > 0) != (i > j) {
				t.Errorf("%+v, %+v: %d", v, w, c)
			}
		}
	}
}

func TestP602OfManyPairs(t *testing.T) {
	source := rand.New(rand.NewSource(5))
	var all []api.Value
	for range 500 {
		all = append(all, someValue(source))
	}
	for _, v := range all {
		for _, w := range all {
			isInOrder(t, v, w)
		}
	}
}

// TestP602OfNearTexts: a Text, and one that has something else behind a part of it.
func TestP602OfNearTexts(t *testing.T) {
	source := rand.New(rand.NewSource(6))
	for range 20000 {
		s := string(fewBytes(source, 50))
		isInOrder(t, text(s), text(s[:source.Intn(len(s)+1)]+string(fewBytes(source, 3))))
	}
}

func TestP602OfAllShortTexts(t *testing.T) {
	all := []string{""}
	for i := 0; i < len(all) && len(all[i]) < 4; i++ {
		for _, x := range []string{"\x00", "\x01", "\x02", "\xff"} {
			all = append(all, all[i]+x)
		}
	}
	for _, a := range all {
		for _, b := range all {
			isInOrder(t, text(a), text(b))
		}
	}
}

// TestP602OfNearNumbers: those beside each bit's bounds.
func TestP602OfNearNumbers(t *testing.T) {
	var all []int
	for bit := range 64 {
		all = append(all, 1<<bit, 1<<bit-1, 1<<bit+1, -1<<bit, -1<<bit-1, -1<<bit+1)
	}
	for _, a := range all {
		for _, b := range all {
			isInOrder(t, number(a), number(b))
		}
	}
}

// TestP1AnyValues: of values that may not be, too, each call ends; great ones are not slow.
func TestP1AnyValues(t *testing.T) {
	for _, kind := range []int{-1, 0, 1, 2, 3, 4, 255, 256, 257, math.MaxInt64, math.MinInt64} {
		for _, n := range []int{0, 1, 2, -1, 256, math.MaxInt64, math.MinInt64} {
			for _, s := range []string{"", "a", strings.Repeat("\x00", 1<<17)} {
				Parse(Bytes(api.Value{Kind: kind, N: n, S: s}))
			}
		}
	}
	for _, part := range []string{"a", "\x00\xff", "\xff", "\x03"} {
		isRefused(t, "\x03"+strings.Repeat(part, 1<<22), api.ErrCut)
		isRefused(t, "\x03"+strings.Repeat(part, 1<<22)+"\x00\x01", api.ErrLong)
	}
}

func TestP1AnyBytes(t *testing.T) {
	source := rand.New(rand.NewSource(7))
	for range 5000 {
		b := make([]byte, source.Intn(100))
		source.Read(b)
		Parse(b)
		if len(b) > 0 {
			b[0] %= 5
			Parse(b)
		}
	}
}

func TestP2WhatIsHandedInStays(t *testing.T) {
	source := rand.New(rand.NewSource(8))
	for range 2000 {
		b := append(someBytes(source), fewBytes(source, 8)...)
		was := bytes.Clone(b)
		size := source.Intn(len(b) + 1)
		v, n, e := Parse(b[:size])
		if !bytes.Equal(b, was) {
			t.Fatalf("%x became %x", was, b)
		}
		clear(b)
		if want, wantN, wantE := wantParse(was[:size]); v != want || n != wantN || e != wantE {
			t.Fatalf("%x: what was answered hangs on what was handed in", was)
		}
	}
}

// TestP2AnswersAreNew: whoever writes to a key, or puts something behind it, touches no other one.
func TestP2AnswersAreNew(t *testing.T) {
	for _, v := range inOrder() {
		a, b := Bytes(v), Bytes(v)
		room := a[:cap(a)]
		for i := range room {
			room[i] = 9
		}
		if want := wantBytes(v); !bytes.Equal(b, want) || !bytes.Equal(Bytes(v), want) {
			t.Errorf("%+v: an answer shares another one's memory", v)
		}
		c, d := append(b, 1), append(b, 2)
		if c[len(b)] != 1 || d[len(b)] != 2 {
			t.Errorf("%+v: what is put behind a key twice is put at one place", v)
		}
	}
}

func TestP3TheSameAgain(t *testing.T) {
	source := rand.New(rand.NewSource(9))
	for range 1000 {
		v, b := someValue(source), someBytes(source)
		first := Bytes(v)
		w, n, e := Parse(b)
		if w2, n2, e2 := Parse(b); w2 != w || n2 != n || e2 != e || !bytes.Equal(Bytes(v), first) {
			t.Fatalf("%+v, %x: two answers", v, b)
		}
	}
}
