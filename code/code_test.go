package code

import (
	"bytes"
	"math"
	"math/rand"
	"strings"
	"testing"

	"ledgerline/api"
)

var someInts = map[int]string{
	0:              "\x00\x00\x00\x00\x00\x00\x00\x00",
	1:              "\x01\x00\x00\x00\x00\x00\x00\x00",
	255:            "\xff\x00\x00\x00\x00\x00\x00\x00",
	256:            "\x00\x01\x00\x00\x00\x00\x00\x00",
	0x0807060504:   "\x04\x05\x06\x07\x08\x00\x00\x00",
	-1:             "\xff\xff\xff\xff\xff\xff\xff\xff",
	-2:             "\xfe\xff\xff\xff\xff\xff\xff\xff",
	math.MaxInt64:  "\xff\xff\xff\xff\xff\xff\xff\x7f",
	math.MinInt64:  "\x00\x00\x00\x00\x00\x00\x00\x80",
	math.MaxUint32: "\xff\xff\xff\xff\x00\x00\x00\x00",
}

var someTexts = []string{"", "a", "\x00", "h\xff\xc3", "grün", strings.Repeat("b", 255), strings.Repeat("c", 256), strings.Repeat("d", 65534), strings.Repeat("e", 65535)}

// fronts are rows of bytes that more may be put behind; each has what its spare room holds.
func fronts() [][]byte {
	roomy := bytes.Repeat([]byte{7}, 70000)
	return [][]byte{nil, {}, {0}, []byte("front"), roomy[:0], roomy[:3]}
}

func TestP101Int(t *testing.T) {
	for n, want := range someInts {
		for _, b := range fronts() {
			if got := Int(b, n); string(got) != string(b)+want {
				t.Errorf("Int(%d bytes, %d): %x", len(b), n, got)
			}
		}
	}
}

func TestP101Byte(t *testing.T) {
	for n, want := range map[int]byte{0: 0, 1: 1, 255: 255, 256: 0, 257: 1, 513: 1, -1: 255, -256: 0, math.MaxInt64: 255, math.MinInt64: 0} {
		for _, b := range fronts() {
			if got := Byte(b, n); string(got) != string(b)+string([]byte{want}) {
				t.Errorf("Byte(%d bytes, %d): %x", len(b), n, got)
			}
		}
	}
}

func TestP101Text(t *testing.T) {
	for _, s := range someTexts {
		want := string([]byte{byte(len(s)), byte(len(s) >> 8)}) + s
		for _, b := range fronts() {
			if got := Text(b, s); string(got) != string(b)+want {
				t.Errorf("Text(%d bytes, a text of %d bytes): %d bytes", len(b), len(s), len(got))
			}
		}
	}
}

func TestP101TextThatIsTooLong(t *testing.T) {
	kept := strings.Repeat("x", 65534) + "y"
	for _, more := range []string{"z", "zz", strings.Repeat("z", 65536), strings.Repeat("z", 200000)} {
		if got := Text([]byte("b"), kept+more); string(got) != "b\xff\xff"+kept {
			t.Errorf("%d bytes more: %d bytes", len(more), len(got))
		}
	}
	split := strings.Repeat("x", 65534) + "ü"
	if got := Text(nil, split); string(got) != "\xff\xff"+split[:65535] {
		t.Errorf("a sign of two bytes at the bound: %d bytes, the last one %x", len(got), got[len(got)-1])
	}
}

func TestP2WritersLeaveWhatTheyAreHanded(t *testing.T) {
	writers := map[string]func(b []byte) []byte{
		"Int":  func(b []byte) []byte { return Int(b, -1) },
		"Byte": func(b []byte) []byte { return Byte(b, -1) },
		"Text": func(b []byte) []byte { return Text(b, "text") },
	}
	for name, write := range writers {
		for _, size := range []int{0, 1, 4} {
			all := bytes.Repeat([]byte{7}, 100)
			b := all[:size]
			first, second := write(b), write(b)
			if !bytes.Equal(all, bytes.Repeat([]byte{7}, 100)) {
				t.Errorf("%s: what was handed in has changed: %x", name, all)
			}
			was := bytes.Clone(second)
			scribble(first)
			if !bytes.Equal(second, was) || !bytes.Equal(all, bytes.Repeat([]byte{7}, 100)) {
				t.Errorf("%s: an answer shares memory", name)
			}
		}
	}
}

// scribble writes over b and its spare room.
func scribble(b []byte) {
	b = b[:cap(b)]
	for i := range b {
		b[i] ^= 255
	}
}

func TestP2ReaderKeepsNothing(t *testing.T) {
	room := bytes.Repeat([]byte{7}, 100)
	b := append(room[:0], Text(Byte(Int(nil, 1234567), 200), "text")...)
	was := bytes.Clone(room)
	r := New(b)
	if r.Int() != 1234567 || !bytes.Equal(room, was) {
		t.Error("reading changes what was handed in")
	}
	scribble(b)
	if n, s := r.Byte(), r.Text(); n != 200 || s != "text" || r.End() != api.OK {
		t.Errorf("what was handed in is kept: %d, %q, %v", n, s, r.End())
	}
}

func TestP102ReadsFromTheFront(t *testing.T) {
	r := New([]byte("\x02\x01\x00\x00\x00\x00\x00\x80\xff\x00\x03\x00a\xffb\x00\x00"))
	if n := r.Int(); n != math.MinInt64+258 {
		t.Errorf("Int: %d", n)
	}
	if n := r.Byte(); n != 255 {
		t.Errorf("Byte: %d", n)
	}
	if n := r.Byte(); n != 0 {
		t.Errorf("Byte: %d", n)
	}
	if s := r.Text(); s != "a\xffb" {
		t.Errorf("Text: %q", s)
	}
	if e := r.End(); e != api.ErrMore {
		t.Errorf("End ahead of the last text: %v", e)
	}
	if s := r.Text(); s != "" {
		t.Errorf("Text: %q", s)
	}
	if e := r.End(); e != api.OK {
		t.Errorf("End: %v", e)
	}
}

// answer is what one call of a reader answered.
type answer struct {
	n int
	s string
}

// reads are a reader's three calls that read.
var reads = map[string]func(r *Reader) answer{
	"Int":  func(r *Reader) answer { return answer{n: r.Int()} },
	"Byte": func(r *Reader) answer { return answer{n: r.Byte()} },
	"Text": func(r *Reader) answer { return answer{s: r.Text()} },
}

// whole answers bytes from which one such read takes all.
func whole(name string) []byte {
	switch name {
	case "Int":
		return bytes.Repeat([]byte{9}, 8)
	case "Byte":
		return []byte{9}
	}
	return []byte("\x05\x00abcde")
}

func TestP102Cut(t *testing.T) {
	for name, read := range reads {
		b := whole(name)
		for size := range b {
			r := New(b[:size])
			if got := read(r); got != (answer{}) || r.End() != api.ErrCut {
				t.Errorf("%s of %d bytes: %v, %v", name, size, got, r.End())
			}
		}
		r := New(b)
		if got := read(r); got == (answer{}) || r.End() != api.OK {
			t.Errorf("%s of all %d bytes: %v, %v", name, len(b), got, r.End())
		}
		r = New(nil)
		if got := read(r); got != (answer{}) || r.End() != api.ErrCut {
			t.Errorf("%s of nothing: %v, %v", name, got, r.End())
		}
	}
}

func TestP102CutTextOfTheGreatestLength(t *testing.T) {
	b := Text(nil, strings.Repeat("x", 65535))
	r := New(b[:len(b)-1])
	if s := r.Text(); s != "" || r.End() != api.ErrCut {
		t.Errorf("%d bytes, %v", len(s), r.End())
	}
}

func TestP102NothingIsReadBehindACut(t *testing.T) {
	for name := range reads {
		for next, read := range reads {
			// A short read that would find its bytes must not find them behind a longer one that did not.
			r := New([]byte{1, 0, 9})
			r.Int()
			if got := read(r); got != (answer{}) || r.End() != api.ErrCut {
				t.Errorf("%s behind a cut Int: %v, %v", next, got, r.End())
			}
			r = New(whole(name)[:len(whole(name))-1])
			reads[name](r)
			if got := read(r); got != (answer{}) || r.End() != api.ErrCut {
				t.Errorf("%s behind a cut %s: %v, %v", next, name, got, r.End())
			}
		}
	}
}

func TestP102EndToldMoreIsNoErrorKept(t *testing.T) {
	r := New([]byte{5, 6})
	if r.End() != api.ErrMore || r.End() != api.ErrMore {
		t.Error("bytes are left")
	}
	if n := r.Byte(); n != 5 || r.End() != api.ErrMore {
		t.Errorf("%d, %v", n, r.End())
	}
	r.Fail(api.ErrBad)
	if n := r.Byte(); n != 0 || r.End() != api.ErrBad {
		t.Errorf("%d, %v", n, r.End())
	}
}

func TestP102EmptyReader(t *testing.T) {
	for _, b := range [][]byte{nil, {}} {
		if e := New(b).End(); e != api.OK {
			t.Errorf("End: %v", e)
		}
	}
}

func TestP102Fail(t *testing.T) {
	for _, e := range []api.Errno{api.ErrArg, api.ErrCut, api.ErrMore, api.ErrOnly, 77, -1, math.MinInt64} {
		for name, read := range reads {
			r := New(append(whole(name), 1))
			r.Fail(api.OK)
			r.Fail(e)
			r.Fail(api.OK)
			r.Fail(api.ErrName)
			if got := read(r); got != (answer{}) || r.End() != e {
				t.Errorf("%s behind Fail(%d): %v, %d", name, e, got, r.End())
			}
		}
	}
}

func TestP102FailWithOKIsNothing(t *testing.T) {
	r := New([]byte{8})
	r.Fail(api.OK)
	r.Fail(api.OK)
	if n := r.Byte(); n != 8 || r.End() != api.OK {
		t.Errorf("%d, %v", n, r.End())
	}
	r.Fail(api.ErrKind)
	if r.End() != api.ErrKind {
		t.Errorf("a later error is kept too: %v", r.End())
	}
}

func TestP102FailBehindACutIsNothing(t *testing.T) {
	r := New([]byte{8})
	r.Int()
	r.Fail(api.ErrBad)
	if r.End() != api.ErrCut {
		t.Errorf("%v", r.End())
	}
}

func TestP103ReadAsItWas(t *testing.T) {
	for n := range someInts {
		r := New(Int(nil, n))
		if got := r.Int(); got != n || r.End() != api.OK {
			t.Errorf("%d: %d, %v", n, got, r.End())
		}
	}
	for n := range 256 {
		r := New(Byte(nil, n))
		if got := r.Byte(); got != n || r.End() != api.OK {
			t.Errorf("byte %d: %d, %v", n, got, r.End())
		}
	}
	for _, s := range someTexts {
		r := New(Text(nil, s))
		if got := r.Text(); got != s || r.End() != api.OK {
			t.Errorf("a text of %d bytes: %d bytes, %v", len(s), len(got), r.End())
		}
	}
}

// part is one thing that is written; kind picks which: 0 a number, 1 a byte, 2 a text.
type part struct {
	kind, n int
	s       string
}

// someParts draws parts; the source is seeded, so each run draws the same.
func someParts(source *rand.Rand) []part {
	parts := make([]part, source.Intn(12))
	for i := range parts {
		parts[i] = part{kind: source.Intn(3)}
		switch parts[i].kind {
		case 0:
			parts[i].n = int(source.Uint64())
		case 1:
			parts[i].n = source.Intn(256)
		case 2:
			text := make([]byte, source.Intn(400))
			source.Read(text)
			parts[i].s = string(text)
		}
	}
	return parts
}

// write answers all parts' bytes, and where each one ends.
func write(parts []part) (b []byte, ends []int) {
	for _, p := range parts {
		switch p.kind {
		case 0:
			b = Int(b, p.n)
		case 1:
			b = Byte(b, p.n)
		case 2:
			b = Text(b, p.s)
		}
		ends = append(ends, len(b))
	}
	return b, ends
}

// read reads parts of the kinds of those that are given.
func read(r *Reader, like []part) []part {
	parts := make([]part, len(like))
	for i, p := range like {
		parts[i].kind = p.kind
		switch p.kind {
		case 0:
			parts[i].n = r.Int()
		case 1:
			parts[i].n = r.Byte()
		case 2:
			parts[i].s = r.Text()
		}
	}
	return parts
}

func TestP103Rows(t *testing.T) {
	source := rand.New(rand.NewSource(1))
	for range 300 {
		parts := someParts(source)
		b, ends := write(parts)
		r := New(b)
		for i, p := range read(r, parts) {
			if p != parts[i] {
				t.Fatalf("part %d: %v, not %v", i, p, parts[i])
			}
		}
		if r.End() != api.OK {
			t.Fatalf("End: %v", r.End())
		}
		cutAnywhere(t, parts, b, ends)
	}
}

// cutAnywhere reads the fronts of b: parts that lie whole are told, the others are zero values.
func cutAnywhere(t *testing.T, parts []part, b []byte, ends []int) {
	for size := 0; size < len(b); size += 1 + size/16 {
		r := New(b[:size])
		for i, p := range read(r, parts) {
			want := parts[i]
			if ends[i] > size {
				want = part{kind: want.kind}
			}
			if p != want {
				t.Fatalf("%d of %d bytes: part %d: %v, not %v", size, len(b), i, p, want)
			}
		}
		if r.End() != api.ErrCut {
			t.Fatalf("%d of %d bytes: %v", size, len(b), r.End())
		}
	}
}

func TestP1AnyCallsOnAnyBytes(t *testing.T) {
	source := rand.New(rand.NewSource(3))
	for range 2000 {
		b := make([]byte, source.Intn(40))
		source.Read(b)
		r := New(b)
		for range 8 {
			anyCall(r, source.Intn(5))
		}
		if n := r.Int(); r.End() != api.OK && r.End() != api.ErrMore && n != 0 {
			t.Fatalf("%d beside %v", n, r.End())
		}
	}
}

func anyCall(r *Reader, pick int) {
	switch pick {
	case 0:
		r.Int()
	case 1:
		r.Byte()
	case 2:
		r.Text()
	case 3:
		r.Fail(api.OK)
	case 4:
		r.End()
	}
}

func TestP3TheSameAgain(t *testing.T) {
	source := rand.New(rand.NewSource(2))
	for range 50 {
		parts := someParts(source)
		b, _ := write(parts)
		again, _ := write(parts)
		if !bytes.Equal(b, again) {
			t.Fatal("the same parts are written in two ways")
		}
		one, other := New(b[:len(b)/2]), New(b[:len(b)/2])
		first, second := read(one, parts), read(other, parts)
		for i := range parts {
			if first[i] != second[i] || one.End() != other.End() {
				t.Fatal("the same bytes are read in two ways")
			}
		}
	}
}

func TestP7ReadersSideBySide(t *testing.T) {
	b := []byte{1, 2, 3}
	one, other := New(b), New(b)
	if one.Byte() != 1 || one.Byte() != 2 || other.Byte() != 1 {
		t.Error("one reader moves another one on")
	}
	one.Fail(api.ErrBad)
	if other.Byte() != 2 || other.Byte() != 3 || other.End() != api.OK || one.End() != api.ErrBad {
		t.Error("one reader's error is another one's")
	}
}
