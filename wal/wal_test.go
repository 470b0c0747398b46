package wal

import (
	"bytes"
	"encoding/binary"
	"math"
	"math/rand"
	"slices"
	"strings"
	"sync"
	"testing"

	"ledgerline/api"
	"ledgerline/disk"
)

func blank(t *testing.T, pages int) *disk.Disk {
	t.Helper()
	d, e := disk.New(pages)
	if e != api.OK {
		t.Fatalf("disk.New(%d): %v", pages, e)
	}
	return d
}

// opened opens a log that there is, and is whole.
func opened(t *testing.T, d *disk.Disk) (*Log, []string) {
	t.Helper()
	l, records, e := Open(d)
	if l == nil || e != api.OK {
		t.Fatalf("Open: %v, %v", l, e)
	}
	if l.Count() != len(records) {
		t.Errorf("Count: %d of %d records", l.Count(), len(records))
	}
	return l, texts(records)
}

func texts(records [][]byte) []string {
	var all []string
	for _, r := range records {
		all = append(all, string(r))
	}
	return all
}

// appends appends to a log what there is room for.
func appends(t *testing.T, l *Log, records ...string) {
	t.Helper()
	for _, r := range records {
		answers(t, "Append", l.Append([]byte(r)), api.OK)
	}
}

// filled is a disk with a log of these records.
func filled(t *testing.T, pages int, records ...string) (*disk.Disk, *Log) {
	t.Helper()
	d := blank(t, pages)
	l, _ := opened(t, d)
	appends(t, l, records...)
	return d, l
}

func answers(t *testing.T, what string, got, want api.Errno) {
	t.Helper()
	if got != want {
		t.Errorf("%s: %v, not %v", what, got, want)
	}
}

// tells tells whether Open and Scan both tell of just these records.
func tells(t *testing.T, d *disk.Disk, want ...string) {
	t.Helper()
	if _, got := opened(t, d); !slices.Equal(got, want) {
		t.Errorf("Open: %q, not %q", got, want)
	}
	records, whole := Scan(d)
	if got := texts(records); !slices.Equal(got, want) || !whole {
		t.Errorf("Scan: %q, %v, not %q", got, whole, want)
	}
}

// bad tells whether Open refuses a disk, of which Scan tells these records.
func bad(t *testing.T, d *disk.Disk, want ...string) {
	t.Helper()
	if l, records, e := Open(d); l != nil || len(records) != 0 || e != api.ErrBad {
		t.Errorf("Open: %v, %q, %v", l, records, e)
	}
	records, whole := Scan(d)
	if got := texts(records); !slices.Equal(got, want) || whole {
		t.Errorf("Scan: %q, %v, not %q", got, whole, want)
	}
}

func number(n int) string {
	return string(binary.LittleEndian.AppendUint64(nil, uint64(n)))
}

// record is a record as it stands in the row of bytes.
func record(s string) string {
	return number(len(s)) + s
}

// says lays on a disk what its log is to be: page 0's numbers, and the bytes from page 1 on.
func says(t *testing.T, d *disk.Disk, size, count int, row string) {
	t.Helper()
	ok := d.Tamper(0, 0, []byte(number(size)+number(count)))
	for page := 1; len(row) > 0; page++ {
		n := min(64, len(row))
		ok = ok && d.Tamper(page, 0, []byte(row[:n]))
		row = row[n:]
	}
	if !ok {
		t.Fatal("it does not lie on the disk")
	}
}

// all is what stands on all pages.
func all(t *testing.T, d *disk.Disk) string {
	t.Helper()
	var b []byte
	for page := range d.Pages() {
		p, e := d.Read(page)
		answers(t, "Read", e, api.OK)
		b = append(b, p...)
	}
	return string(b)
}

// image is a disk as a log of these records has it.
func image(pages int, records ...string) string {
	row := ""
	for _, r := range records {
		row += record(r)
	}
	head := number(len(row)) + number(len(records))
	return head + strings.Repeat("\x00", 64-len(head)) + row + strings.Repeat("\x00", (pages-1)*64-len(row))
}

func TestP801New(t *testing.T) {
	for _, pages := range []int{2, 3, 64, 4096} {
		d := blank(t, pages)
		tells(t, d)
		if all(t, d) != image(pages) {
			t.Errorf("%d pages: something is written", pages)
		}
	}
}

func TestP801Open(t *testing.T) {
	for _, records := range [][]string{
		{""}, {"a"}, {"", "", ""}, {"first", "", "third"}, {strings.Repeat("x", 56)}, {strings.Repeat("x", 55), "y"},
		{strings.Repeat("x", 52), "the number stands on two pages"}, {strings.Repeat("x", 500), strings.Repeat("\xff", 300)},
	} {
		d := blank(t, 20)
		row := ""
		for _, r := range records {
			row += record(r)
		}
		says(t, d, len(row), len(records), row+"behind the end")
		d.Tamper(0, 16, []byte("behind the numbers, which does not count"))
		before := all(t, d)
		tells(t, d, records...)
		if all(t, d) != before {
			t.Errorf("%q: something is written", records)
		}
	}
}

// TestP801Full: all bytes that the pages have.
func TestP801Full(t *testing.T) {
	for _, pages := range []int{2, 3, 4096} {
		room := (pages - 1) * 64
		one := strings.Repeat("o", room-8)
		d := blank(t, pages)
		says(t, d, room, 1, record(one))
		tells(t, d, one)
		says(t, d, room, room/8, strings.Repeat("\x00", room))
		tells(t, d, make([]string, room/8)...)
		says(t, d, room+1, room/8, "")
		bad(t, d, make([]string, room/8)...)
		says(t, d, room+8, room/8+1, "")
		bad(t, d, make([]string, room/8)...)
	}
}

// TestP801P802Bad: what Open refuses, and what Scan tells of it.
func TestP801P802Bad(t *testing.T) {
	const least, most = math.MinInt, math.MaxInt
	a, long := record("a"), strings.Repeat("x", 184) // 9 bytes; 192 with its number, as many as there are
	for _, c := range []struct {
		size, count int
		row         string
		want        []string
	}{
		// numbers below nought
		{-1, 0, "", nil}, {least, 0, "", nil}, {-1, -1, "", nil}, {-9, 1, a, nil}, {least, least, a, nil}, {least + 9, 1, a, nil},
		{0, -1, "", nil}, {0, least, "", nil}, {9, -1, a, []string{"a"}}, {9, least + 1, a, []string{"a"}},
		// more bytes than there are
		{193, 1, record(long), []string{long}}, {200, 2, record(long), []string{long}}, {most, 1, record(long), []string{long}},
		{1 << 32, 1, record(long), []string{long}}, {1<<32 + 9, 1, a + number(most), []string{"a"}}, {most, 0, number(-1), nil},
		// not so many records
		{0, 1, "", nil}, {0, most, "", nil}, {9, 0, a, []string{"a"}}, {9, 2, a, []string{"a"}}, {9, 1<<32 + 1, a, []string{"a"}},
		{17, 1, a, []string{"a", ""}}, {17, 3, a, []string{"a", ""}}, {18, 1, a + a, []string{"a", "a"}}, {192, 2, record(long), []string{long}},
		// bytes that are no whole record
		{1, 0, "", nil}, {1, 1, "", nil}, {7, 0, "", nil}, {7, 1, "", nil}, {8, 0, a, nil}, {8, 1, a, nil}, {10, 1, a, []string{"a"}},
		{10, 2, a, []string{"a"}}, {16, 1, a, []string{"a"}}, {16, 2, a, []string{"a"}}, {17, 1, a + a, []string{"a"}}, {17, 2, a + a, []string{"a"}},
		{191, 1, record(long), nil}, {192, 1, record(long + "x")[:192], nil},
		// a record's number
		{8, 1, number(1), nil}, {8, 1, number(-1), nil}, {8, 1, number(-8), nil}, {8, 1, number(least), nil}, {8, 1, number(most), nil}, {8, 0, number(-1), nil},
		{17, 1, a + number(-1), []string{"a"}}, {17, 2, a + number(-1), []string{"a"}}, {17, 2, a + number(-17), []string{"a"}}, {26, 3, a + number(-8) + a, []string{"a"}},
		{17, 2, a + number(most), []string{"a"}}, {17, 2, a + number(1<<32), []string{"a"}}, {26, 2, a + number(10) + a, []string{"a"}},
	} {
		d := blank(t, 4)
		says(t, d, c.size, c.count, c.row)
		before := all(t, d)
		bad(t, d, c.want...)
		if all(t, d) != before {
			t.Errorf("%v: something is written", c)
		}
	}
}

// TestP801P802Dead: nothing is told of a disk whose power is gone, whole or not.
func TestP801P802Dead(t *testing.T) {
	for _, count := range []int{2, 1} {
		d := blank(t, 4)
		says(t, d, 18, count, record("a")+record("b"))
		d.Stop(1)
		answers(t, "Sync", d.Sync(), api.ErrDead)
		if l, records, e := Open(d); l != nil || len(records) != 0 || e != api.ErrDead {
			t.Errorf("Open: %v, %q, %v", l, records, e)
		}
		if records, whole := Scan(d); len(records) != 0 || whole {
			t.Errorf("Scan: %q, %v", records, whole)
		}
		d.Crash(nil)
		if count == 2 {
			tells(t, d, "a", "b")
		} else {
			bad(t, d, "a", "b")
		}
	}
}

// TestP801Count: how many were appended, also of a log that was opened anew; no other log's, no error's.
func TestP801Count(t *testing.T) {
	d, l := filled(t, 9)
	for i := range 20 {
		if l.Count() != i {
			t.Errorf("%d: %d", i, l.Count())
		}
		appends(t, l, "some")
		if other, _ := opened(t, d); other.Count() != i+1 {
			t.Errorf("opened anew: %d", other.Count())
		}
	}
	answers(t, "Append", l.Append(make([]byte, 1<<16+1)), api.ErrLong)
	answers(t, "Append", l.Append(make([]byte, 1<<16)), api.ErrFull)
	d.Stop(1)
	answers(t, "Append", l.Append(nil), api.ErrDead)
	answers(t, "Append", l.Append(nil), api.ErrDead)
	if l.Count() != 20 {
		t.Errorf("behind errors: %d", l.Count())
	}
}

// TestP801Memory: what is answered is nobody else's, its spare room too (P2): each byte is turned over just once.
func TestP801Memory(t *testing.T) {
	want := []string{"first", "", "second", strings.Repeat("x", 100), "", "last"}
	d, _ := filled(t, 9, want...)
	before := all(t, d)
	_, one, _ := Open(d)
	two, _ := Scan(d)
	three, _ := Scan(d)
	answered := [][][]byte{one, two, three}
	for _, records := range answered {
		for _, r := range records {
			turn(r[:cap(r)])
		}
	}
	for _, records := range answered {
		for _, r := range records {
			turn(r)
		}
		if got := texts(records); !slices.Equal(got, want) {
			t.Errorf("%q", got)
		}
		clear(records[:cap(records)])
	}
	if all(t, d) != before {
		t.Error("the pages share bytes with an answer")
	}
	tells(t, d, want...)
}

func turn(b []byte) {
	for i := range b {
		b[i] ^= 0x55
	}
}

func TestP802Append(t *testing.T) {
	x := func(n int) string { return strings.Repeat("x", n) }
	for _, records := range [][]string{
		{""}, {"a"}, {"", "", "", ""}, {"a", "", "b"}, {x(56)}, {x(56), ""}, {x(56), x(56), x(1)}, {x(55), ""}, {x(55), "y"}, {x(57), "y"}, {x(52), "the number stands on two pages"},
		{x(48), ""}, {x(48), "y"}, {x(500), x(300)}, {x(120), x(120), x(120)}, {"\x00", "\xff\xff", "\x80\n"},
	} {
		d, _ := filled(t, 20, records...)
		tells(t, d, records...)
		if all(t, d) != image(20, records...) {
			t.Errorf("%q: %q", records, all(t, d))
		}
		d.Crash(nil)
		tells(t, d, records...)
	}
}

// TestP802Long: a record of 2^16 bytes, and one more.
func TestP802Long(t *testing.T) {
	long := strings.Repeat("0123456789abcdef", 1<<12)
	d, l := filled(t, 4096)
	for i := range 3 {
		answers(t, "Append", l.Append([]byte(long+"x")), api.ErrLong)
		answers(t, "Append", l.Append(make([]byte, 1<<20)), api.ErrLong)
		appends(t, l, long)
		tells(t, d, slices.Repeat([]string{long}, i+1)...)
	}
	before := all(t, d)
	answers(t, "Append", l.Append([]byte(long)), api.ErrFull)
	answers(t, "Append", l.Append([]byte(long+"x")), api.ErrLong)
	if l.Count() != 3 || all(t, d) != before {
		t.Error("an error changed something")
	}
	left := 4095*64 - 3*(1<<16+8) - 8
	answers(t, "Append", l.Append([]byte(long[:left+1])), api.ErrFull)
	appends(t, l, long[:left])
	tells(t, d, long, long, long, long[:left])
}

// TestP802Full: the last byte that there is, and one more.
func TestP802Full(t *testing.T) {
	for _, pages := range []int{2, 3, 9} {
		for first := range 64 - 8 + 1 {
			d, l := filled(t, pages, strings.Repeat("f", first))
			left := (pages-1)*64 - first - 8
			before := all(t, d)
			for _, n := range []int{left - 7, left, left + 1, 1 << 16} {
				answers(t, "Append", l.Append(make([]byte, max(n, 0))), api.ErrFull)
			}
			if l.Count() != 1 || all(t, d) != before {
				t.Error("an error changed something")
			}
			if left < 8 {
				answers(t, "Append", l.Append(nil), api.ErrFull)
				continue
			}
			last := strings.Repeat("l", left-8)
			appends(t, l, last)
			answers(t, "Append", l.Append(nil), api.ErrFull)
			tells(t, d, strings.Repeat("f", first), last)
		}
	}
}

// TestP802Errors: the first one that applies is answered (P6), and nothing is done.
func TestP802Errors(t *testing.T) {
	d, l := filled(t, 3, "a")
	d.Stop(1)
	answers(t, "Sync", d.Sync(), api.ErrDead)
	answers(t, "Append", l.Append(make([]byte, 1<<16+1)), api.ErrLong)
	answers(t, "Append", l.Append(make([]byte, 1<<16)), api.ErrFull)
	answers(t, "Append", l.Append([]byte("b")), api.ErrDead)
	d.Crash([]int{3, 3, 3, 3})
	if all(t, d) != image(3, "a") {
		t.Error("an error changed something")
	}
	appends(t, l, "b")
	tells(t, d, "a", "b")
}

// TestP802Steps: the pages that the record touches, in order, Sync, page 0, Sync, and nothing else, wherever the power goes.
func TestP802Steps(t *testing.T) {
	for _, c := range []struct{ first, second, from, pages int }{
		{0, 0, 1, 1}, {0, 48, 1, 1}, {0, 49, 1, 2}, {48, 0, 1, 1}, {48, 1, 1, 2}, {49, 0, 1, 2}, {55, 0, 1, 2}, {55, 57, 1, 2}, {55, 58, 1, 3},
		{56, 0, 2, 1}, {56, 56, 2, 1}, {56, 57, 2, 2}, {57, 0, 2, 1}, {120, 0, 3, 1}, {130, 300, 3, 5},
	} {
		one, two := strings.Repeat("1", c.first), strings.Repeat("2", c.second)
		behind := image(12, one, two)
		steps := c.pages + 3
		for stop := 1; stop <= steps+1; stop++ {
			for _, pick := range []int{0, 3} {
				d, l := filled(t, 12, one)
				for page := 1 + (8+c.first+63)/64; page < 12; page++ {
					d.Tamper(page, 0, bytes.Repeat([]byte{'#'}, 64)) // whether a page is written is to be seen
				}
				want := []byte(all(t, d))
				d.Stop(stop)
				e, count := l.Append([]byte(two)), l.Count()
				d.Crash([]int{pick, pick, pick, pick, pick, pick, pick})
				if pick == 3 || stop > c.pages+1 {
					touched := min(stop, c.pages) * 64
					copy(want[c.from*64:][:touched], behind[c.from*64:])
				}
				if pick == 3 && stop > c.pages+1 || stop > steps {
					copy(want, behind[:64])
				}
				if got := all(t, d); got != string(want) {
					t.Fatalf("%v: Stop(%d), %d: %q, not %q", c, stop, pick, got, want)
				}
				if stop <= steps && (e != api.ErrDead || count != 1) || stop > steps && (e != api.OK || count != 2) {
					t.Errorf("%v: Stop(%d): %v, Count %d", c, stop, e, count)
				}
			}
		}
	}
}

// TestP802AsItStood: what stands on the page ahead stays as it is, also where it was written over; behind the end are noughts, and behind page 0's numbers.
func TestP802AsItStood(t *testing.T) {
	d, l := filled(t, 5, strings.Repeat("x", 80)) // up to 24 bytes on page 2
	d.Tamper(2, 3, []byte("TAMPERED"))
	d.Tamper(2, 24, bytes.Repeat([]byte{'#'}, 40))
	d.Tamper(0, 16, bytes.Repeat([]byte{'#'}, 48))
	d.Tamper(3, 0, bytes.Repeat([]byte{'#'}, 64))
	appends(t, l, "new")
	first := strings.Repeat("x", 59) + "TAMPERED" + strings.Repeat("x", 13)
	tells(t, d, first, "new")
	want := []byte(image(5, first, "new"))
	copy(want[3*64:], bytes.Repeat([]byte{'#'}, 64)) // not touched
	if got := all(t, d); got != string(want) {
		t.Errorf("%q, not %q", got, want)
	}
	d.Tamper(0, 0, []byte(number(-1)+number(77))) // the log knows how many there are
	appends(t, l, "more")
	tells(t, d, first, "new", "more")
}

// TestP802Memory: what is handed in is neither changed nor kept (P2).
func TestP802Memory(t *testing.T) {
	d, l := filled(t, 5)
	room := []byte("hello and more, and so much more that it is longer than a page of sixty-four bytes")
	same := string(room)
	b := room[:5]
	answers(t, "Append", l.Append(b), api.OK)
	answers(t, "Append", l.Append(room[:70]), api.OK)
	if string(room) != same {
		t.Errorf("changed: %q", room)
	}
	clear(room)
	tells(t, d, "hello", same[:70])
	answers(t, "Append", l.Append(room[:3]), api.OK)
	tells(t, d, "hello", same[:70], "\x00\x00\x00")
	answers(t, "Append", l.Append([]byte{}), api.OK) // none and an empty one are the same
	answers(t, "Append", l.Append(nil), api.OK)
	tells(t, d, "hello", same[:70], "\x00\x00\x00", "", "")
}

// TestP802AsItWas: behind an error the log object goes on from where it was, whatever stayed on the pages.
func TestP802AsItWas(t *testing.T) {
	for stop := 1; stop <= 5; stop++ {
		for pick := range 4 {
			d, l := filled(t, 9, "a")
			d.Stop(stop)
			answers(t, "Append", l.Append([]byte(strings.Repeat("lost", 20))), api.ErrDead)
			d.Crash([]int{pick, pick})
			appends(t, l, "b", "c")
			tells(t, d, "a", "b", "c")
		}
	}
}

// TestP803EachCrash (T3): wherever the power goes within an Append, whatever stays: the records that were there, and perhaps that one.
func TestP803EachCrash(t *testing.T) {
	for _, c := range []struct{ first, second int }{{0, 0}, {20, 20}, {40, 30}, {56, 56}, {50, 100}, {56, 150}, {33, 120}} {
		one, two := strings.Repeat("1", c.first), strings.Repeat("2", c.second)
		pages := (16+c.first+c.second+63)/64 - (8+c.first)/64
		for stop := 1; stop <= pages+3; stop++ {
			for picks := range 1 << (2 * pages) {
				d, l := filled(t, 9, one)
				d.Stop(stop)
				answers(t, "Append", l.Append([]byte(two)), api.ErrDead)
				each := make([]int, pages)
				for i := range each {
					each[i] = picks >> (2 * i)
				}
				d.Crash(each)
				if stop > pages+1 && picks&1 == 1 {
					tells(t, d, one, two)
				} else {
					tells(t, d, one)
				}
			}
		}
	}
}

// words are what the document's words make of the same calls, on a disk of their own.
type words struct {
	disk        *disk.Disk
	size, count int
}

func (w *words) append(b []byte) api.Errno {
	room := (w.disk.Pages() - 1) * 64
	switch end := w.size + 8 + len(b); {
	case len(b) > 65536:
		return api.ErrLong
	case end > room:
		return api.ErrFull
	case w.disk.Dead():
		return api.ErrDead
	default:
		row := strings.Repeat("\x00", w.size) + record(string(b)) + strings.Repeat("\x00", 64)
		for at := w.size / 64 * 64; at < end; at += 64 {
			page, _ := w.disk.Read(1 + at/64)
			if stood := w.size - at; stood > 0 {
				page = append(page[:stood:stood], row[at+stood:at+64]...)
			} else {
				page = []byte(row[at : at+64])
			}
			if e := w.disk.Write(1+at/64, page); e != api.OK {
				return e
			}
		}
		if e := w.disk.Sync(); e != api.OK {
			return e
		}
		if e := w.disk.Write(0, []byte(number(end)+number(w.count+1))); e != api.OK {
			return e
		}
		if e := w.disk.Sync(); e != api.OK {
			return e
		}
		w.size = end
		w.count++
	}
	return api.OK
}

// scan tells also how many bytes and records are said.
func (w *words) scan() (records []string, whole bool, size, count int) {
	var row []byte
	for page := range w.disk.Pages() {
		p, e := w.disk.Read(page)
		if e != api.OK {
			return nil, false, 0, 0
		}
		row = append(row, p...)
	}
	size, count = int(binary.LittleEndian.Uint64(row)), int(binary.LittleEndian.Uint64(row[8:]))
	row = row[64:]
	at := 0
	for at+8 <= min(size, len(row)) {
		n := binary.LittleEndian.Uint64(row[at:])
		if n > uint64(min(size, len(row))-at-8) {
			break
		}
		records = append(records, string(row[at+8:at+8+int(n)]))
		at += 8 + int(n)
	}
	return records, at == size && len(records) == count, size, count
}

// same tells whether Open and Scan answer as the words have it, and all pages are the same.
func (w *words) same(t *testing.T, d *disk.Disk) {
	t.Helper()
	want, sound, _, _ := w.scan()
	records, whole := Scan(d)
	if got := texts(records); !slices.Equal(got, want) || whole != sound {
		t.Fatalf("Scan: %q, %v, not %q, %v", got, whole, want, sound)
	}
	l, records, e := Open(d)
	switch {
	case d.Dead():
		answers(t, "Open", e, api.ErrDead)
	case !sound:
		answers(t, "Open", e, api.ErrBad)
	default:
		answers(t, "Open", e, api.OK)
		if got := texts(records); !slices.Equal(got, want) || l.Count() != len(want) {
			t.Fatalf("Open: %q, Count %d, not %q", got, l.Count(), want)
		}
		if all(t, d) != all(t, w.disk) {
			t.Fatalf("pages: %q, not %q", all(t, d), all(t, w.disk))
		}
	}
	if e != api.OK && (l != nil || len(records) != 0) {
		t.Fatalf("Open: %v, %q beside %v", l, records, e)
	}
}

// step does one thing to both disks.
func (w *words) step(t *testing.T, source *rand.Rand, d *disk.Disk, l *Log) {
	t.Helper()
	switch source.Intn(10) {
	case 0:
		n := source.Intn(12)
		d.Stop(n)
		w.disk.Stop(n)
	case 1:
		picks := make([]int, source.Intn(9))
		for i := range picks {
			picks[i] = int(source.Uint64())
		}
		d.Crash(picks)
		w.disk.Crash(picks)
	case 2:
		page, at, b := source.Intn(d.Pages()), source.Intn(65), make([]byte, source.Intn(3))
		source.Read(b)
		d.Tamper(page, at, b)
		w.disk.Tamper(page, at, b)
	default:
		b := make([]byte, source.Intn(90))
		source.Read(b)
		answers(t, "Append", l.Append(b), w.append(b))
	}
	if l.Count() != w.count {
		t.Fatalf("Count: %d, not %d", l.Count(), w.count)
	}
}

// TestP801P802AsTheWordsSay: whatever is done, in whatever order.
func TestP801P802AsTheWordsSay(t *testing.T) {
	source := rand.New(rand.NewSource(8))
	for range 300 {
		pages := 2 + source.Intn(12)
		d, w := blank(t, pages), &words{disk: blank(t, pages)}
		l, _ := opened(t, d)
		for range 40 {
			w.step(t, source, d, l)
			w.same(t, d)
			if source.Intn(4) == 0 {
				if again, _, e := Open(d); e == api.OK {
					l = again
					_, _, w.size, w.count = w.scan()
				}
			}
		}
	}
}

// TestP801P802AnyPages (T6): pages that say almost what may be.
func TestP801P802AnyPages(t *testing.T) {
	source := rand.New(rand.NewSource(9))
	whole := 0
	for range 20000 {
		pages := 2 + source.Intn(4)
		d := blank(t, pages)
		row := ""
		count := 0
		for len(row) < (pages-1)*64 && source.Intn(5) > 0 {
			row += record(strings.Repeat("r", source.Intn(40)))
			count++
		}
		size := len(row)
		row = row[:min(size, (pages-1)*64)]
		switch source.Intn(6) {
		case 0:
			size += source.Intn(21) - 10
		case 1:
			count += source.Intn(5) - 2
		case 2:
			size, count = int(source.Uint64()), int(source.Uint64())
		}
		says(t, d, size, count, row)
		for range source.Intn(3) {
			d.Tamper(source.Intn(pages), source.Intn(64), []byte{byte(source.Intn(256))})
		}
		w := &words{disk: d}
		w.same(t, d)
		if _, sound, _, _ := w.scan(); sound {
			whole++
		}
	}
	if whole < 2000 || whole > 18000 {
		t.Errorf("%d of 20000 are whole: the test does not try much", whole)
	}
}

// TestP803ManyCrashes (T3): crash upon crash, each log opened anew.
func TestP803ManyCrashes(t *testing.T) {
	source := rand.New(rand.NewSource(10))
	for range 100 {
		d, l := filled(t, 200)
		var want []string
		for range 30 {
			d.Stop(1 + source.Intn(20))
			var last string
			for e := api.OK; e == api.OK; {
				last = strings.Repeat(string(rune('a'+source.Intn(26))), source.Intn(120))
				if e = l.Append([]byte(last)); e == api.OK {
					want = append(want, last)
				} else {
					answers(t, "Append", e, api.ErrDead)
				}
			}
			picks := make([]int, source.Intn(6))
			for i := range picks {
				picks[i] = source.Intn(4)
			}
			d.Crash(picks)
			var got []string
			if l, got = opened(t, d); len(got) == len(want)+1 {
				want = append(want, last)
			}
			tells(t, d, want...)
		}
	}
}

// TestP801SideBySide: logs on disks of their own do not touch one another (P7).
func TestP801SideBySide(t *testing.T) {
	a, la := filled(t, 5, "a")
	b, lb := filled(t, 5, "b", "c")
	appends(t, la, "d")
	a.Stop(1)
	answers(t, "Append", la.Append(nil), api.ErrDead)
	appends(t, lb, "e")
	tells(t, b, "b", "c", "e")
	a.Crash(nil)
	tells(t, a, "a", "d")
	if la.Count() != 2 || lb.Count() != 3 {
		t.Errorf("Count: %d, %d", la.Count(), lb.Count())
	}
}

// TestP801CountBeside: Count may be asked while an Append is at work.
func TestP801CountBeside(t *testing.T) {
	_, l := filled(t, 500)
	var asked sync.WaitGroup
	asked.Go(func() {
		last := 0
		for range 10000 {
			n := l.Count()
			if n < last || n > 1000 {
				t.Errorf("Count: %d behind %d", n, last)
			}
			last = n
		}
	})
	for range 1000 {
		if e := l.Append([]byte("some")); e != api.OK {
			t.Errorf("Append: %v", e)
		}
	}
	asked.Wait()
}

// TestP801NoDisk: a log that no call answered has no pages (P1).
func TestP801NoDisk(t *testing.T) {
	var l Log
	answers(t, "Append", l.Append(nil), api.ErrFull)
	answers(t, "Append", l.Append(make([]byte, 1<<16+1)), api.ErrLong)
	if l.Count() != 0 {
		t.Errorf("Count: %d", l.Count())
	}
	if l, records, e := Open(&disk.Disk{}); l != nil || len(records) != 0 || e == api.OK {
		t.Errorf("Open: %v, %q, %v", l, records, e)
	}
	if records, whole := Scan(&disk.Disk{}); len(records) != 0 || whole {
		t.Errorf("Scan: %q, %v", records, whole)
	}
}

// TestP801First: none takes the place of the first error (P6): a disk's, that ends the reading, is not told as ErrBad.
func TestP801First(t *testing.T) {
	var f first
	for _, c := range []struct{ told, kept api.Errno }{{api.OK, api.OK}, {api.ErrDead, api.ErrDead}, {api.OK, api.ErrDead}, {api.ErrBad, api.ErrDead}} {
		f.tell(c.told)
		answers(t, "first", f.err, c.kept)
	}
}
