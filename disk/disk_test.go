package disk

import (
	"bytes"
	"math"
	"math/rand"
	"slices"
	"strings"
	"testing"

	"ledgerline/api"
)

// Two halves of a page of which no byte stands in both.
const (
	low  = "0123456789abcdefghijklmnopqrstuv"
	high = "ABCDEFGHIJKLMNOPQRSTUVWXYZ_+-*/!"
)

// none is a half of noughts.
const none = "\x00\x00\x00\x00\x00\x00\x00\x00\x00\x00\x00\x00\x00\x00\x00\x00\x00\x00\x00\x00\x00\x00\x00\x00\x00\x00\x00\x00\x00\x00\x00\x00"

func fresh(t *testing.T, pages int) *Disk {
	t.Helper()
	d, e := New(pages)
	if d == nil || e != api.OK {
		t.Fatalf("New(%d): %v, %v", pages, d, e)
	}
	return d
}

// filled is a disk of three pages, page 1 of which is synced as page says.
func filled(t *testing.T, page string) *Disk {
	t.Helper()
	d := fresh(t, 3)
	write1(t, d, page, api.OK)
	answers(t, "Sync", d.Sync(), api.OK)
	return d
}

// is tells whether a page begins as want says, and is noughts behind.
func is(t *testing.T, d *Disk, page int, want string) {
	t.Helper()
	b, e := d.Read(page)
	if e != api.OK || string(b) != want+strings.Repeat("\x00", 64-len(want)) {
		t.Errorf("page %d: %q, %v, not %q", page, b, e, want)
	}
}

func answers(t *testing.T, what string, got, want api.Errno) {
	t.Helper()
	if got != want {
		t.Errorf("%s: %v, not %v", what, got, want)
	}
}

// write1 writes page 1.
func write1(t *testing.T, d *Disk, b string, want api.Errno) {
	t.Helper()
	answers(t, "Write", d.Write(1, []byte(b)), want)
}

// isDead tells whether the power is gone, for all calls that ask for it, ahead of what else is wrong with them.
func isDead(t *testing.T, d *Disk) {
	t.Helper()
	if !d.Dead() {
		t.Error("Dead: false")
	}
	for _, page := range []int{0, 1, -1, 9} {
		if b, e := d.Read(page); len(b) != 0 || e != api.ErrDead {
			t.Errorf("Read(%d): %q, %v", page, b, e)
		}
		answers(t, "Write", d.Write(page, nil), api.ErrDead)
		answers(t, "Write", d.Write(page, make([]byte, 65)), api.ErrDead)
	}
	answers(t, "Sync", d.Sync(), api.ErrDead)
}

func TestP701New(t *testing.T) {
	for _, n := range []int{2, 3, 64, 4095, 4096} {
		d := fresh(t, n)
		if d.Pages() != n || d.Dead() {
			t.Errorf("%d: %d, %v", n, d.Pages(), d.Dead())
		}
		for i := range n {
			is(t, d, i, "")
		}
		d.Crash([]int{3, 3})
		is(t, d, 0, "")
		is(t, d, n-1, "")
	}
	for _, n := range []int{-1, 0, 1, 4097, 1 << 32, 1<<32 + 2, math.MaxInt, math.MinInt, math.MinInt + 2} {
		if d, e := New(n); d != nil || e != api.ErrArg {
			t.Errorf("%d: %v, %v", n, d, e)
		}
	}
}

func TestP701Write(t *testing.T) {
	d := fresh(t, 3)
	for _, n := range []int{64, 0, 1, 63, 33, 32, 31, 2, 64} {
		for page := range 3 {
			b := strings.Repeat(string(rune('a'+page)), n)
			answers(t, "Write", d.Write(page, []byte(b)), api.OK)
			is(t, d, page, b)
		}
	}
	answers(t, "Write", d.Write(1, nil), api.OK)
	is(t, d, 0, strings.Repeat("a", 64))
	is(t, d, 1, "")
	is(t, d, 2, strings.Repeat("c", 64))
}

func TestP701WriteAndReadRefused(t *testing.T) {
	d := filled(t, "old")
	write1(t, d, "new", api.OK)
	for _, page := range []int{-1, 3, 4, 4096, 1 << 32, 1<<32 + 1, math.MaxInt, math.MinInt, math.MinInt + 1} {
		answers(t, "Write", d.Write(page, []byte("a")), api.ErrArg)
		answers(t, "Write", d.Write(page, nil), api.ErrArg)
		answers(t, "Write", d.Write(page, make([]byte, 65)), api.ErrArg)
		if b, e := d.Read(page); len(b) != 0 || e != api.ErrArg {
			t.Errorf("Read(%d): %q, %v", page, b, e)
		}
	}
	for _, n := range []int{65, 66, 128, 1 << 16} {
		write1(t, d, strings.Repeat("a", n), api.ErrArg)
	}
	is(t, d, 1, "new")
	write1(t, d, "last", api.OK)
	d.Crash([]int{0, 3, 0}) // what was refused has no pick
	is(t, d, 1, "last")
	d.Crash(nil)
	is(t, d, 1, "last")
	if d.Dead() {
		t.Error("dead")
	}
}

// TestP701Memory: what is handed in is neither kept nor changed, what is answered is nobody else's (P2).
func TestP701Memory(t *testing.T) {
	d := fresh(t, 2)
	room := []byte("hello and more")
	b := room[:5]
	answers(t, "Write", d.Write(1, b), api.OK)
	if !d.Tamper(0, 1, b) {
		t.Error("Tamper")
	}
	picks := []int{7, -2, 5, 9}
	d.Crash(picks[:2])
	if string(room) != "hello and more" || !slices.Equal(picks, []int{7, -2, 5, 9}) {
		t.Errorf("changed: %q, %v", room, picks)
	}
	clear(room)
	is(t, d, 1, "hello")
	is(t, d, 0, "\x00hello")
	one, _ := d.Read(1)
	two, _ := d.Read(1)
	for _, r := range [][]byte{one, two} {
		r = r[:cap(r)]
		for i := range r {
			r[i] ^= 0x55
		}
	}
	if one[0] != 'h'^0x55 || two[0] != 'h'^0x55 {
		t.Error("two answers share a list")
	}
	is(t, d, 1, "hello")
	d.Crash(nil)
	is(t, d, 1, "hello")
}

func TestP701Sync(t *testing.T) {
	d := fresh(t, 3)
	answers(t, "Sync", d.Sync(), api.OK)
	write1(t, d, "a", api.OK)
	write1(t, d, low+high, api.OK)
	answers(t, "Write", d.Write(2, []byte("c")), api.OK)
	answers(t, "Sync", d.Sync(), api.OK)
	write1(t, d, "not synced", api.OK)
	answers(t, "Write", d.Write(0, []byte("not synced")), api.OK)
	is(t, d, 1, "not synced")
	d.Crash(nil)
	is(t, d, 0, "")
	is(t, d, 1, low+high)
	is(t, d, 2, "c")
}

// TestP701Stop: what counts, and that the operation at which the power goes is the n-th.
func TestP701Stop(t *testing.T) {
	for n := 1; n <= 9; n++ {
		d := fresh(t, 3)
		d.Stop(n)
		for i := 1; i < n; i++ {
			answers(t, "Write", d.Write(3, nil), api.ErrArg)
			answers(t, "Write", d.Write(1, make([]byte, 65)), api.ErrArg)
			d.Read(1)
			d.Read(9)
			d.Pages()
			d.Tamper(0, 0, []byte("t"))
			if i%3 == 0 {
				answers(t, "Sync", d.Sync(), api.OK)
			} else {
				write1(t, d, "b", api.OK)
			}
			if d.Dead() {
				t.Fatalf("%d: dead behind %d", n, i)
			}
		}
		if n%2 == 0 {
			answers(t, "Sync", d.Sync(), api.ErrDead)
		} else {
			write1(t, d, "c", api.ErrDead)
		}
		isDead(t, d)
	}
}

func TestP701StopNone(t *testing.T) {
	for _, n := range []int{0, -1, -2, -64, math.MinInt, math.MinInt + 1, 1000, 1 << 32, 1<<32 + 1, math.MaxInt} {
		d := fresh(t, 2)
		d.Stop(2)
		d.Stop(n)
		for range 70 {
			write1(t, d, "a", api.OK)
			answers(t, "Sync", d.Sync(), api.OK)
		}
	}
	d := fresh(t, 2)
	for range 1000 {
		answers(t, "Sync", d.Sync(), api.OK)
	}
	if d.Dead() {
		t.Error("dead, where no Stop was set")
	}
}

// TestP701StopLater: a later Stop takes the place of one that is set, counted from the later one on.
func TestP701StopLater(t *testing.T) {
	for first := -1; first < 6; first++ {
		for ahead := range 5 {
			if first > 0 && ahead >= first {
				continue
			}
			for last := 1; last < 6; last++ {
				d := fresh(t, 2)
				d.Stop(first)
				for range ahead {
					answers(t, "Sync", d.Sync(), api.OK)
				}
				d.Stop(last)
				for range last - 1 {
					answers(t, "Sync", d.Sync(), api.OK)
				}
				answers(t, "Sync", d.Sync(), api.ErrDead)
			}
		}
	}
}

// TestP701StopAtWrite: it is done, not synced.
func TestP701StopAtWrite(t *testing.T) {
	for pick, want := range []string{"old", low, "old" + none[3:] + high, low + high} {
		d := filled(t, "old")
		d.Stop(2)
		write1(t, d, "between", api.OK)
		write1(t, d, low+high, api.ErrDead)
		isDead(t, d)
		d.Crash([]int{0, pick})
		is(t, d, 1, want)
	}
}

// TestP701StopAtSync: it is not done.
func TestP701StopAtSync(t *testing.T) {
	for pick, want := range []string{"old", low, "old" + none[3:] + high, low + high} {
		d := filled(t, "old")
		write1(t, d, low+high, api.OK)
		d.Stop(1)
		answers(t, "Sync", d.Sync(), api.ErrDead)
		isDead(t, d)
		d.Crash([]int{pick})
		is(t, d, 1, want)
	}
}

// TestP701WhileDead: nothing is written by what answers ErrDead from then on, and a Stop does not outlast the Crash.
func TestP701WhileDead(t *testing.T) {
	d := filled(t, "old")
	d.Stop(1)
	write1(t, d, "last", api.ErrDead)
	write1(t, d, "dead", api.ErrDead)
	answers(t, "Sync", d.Sync(), api.ErrDead)
	d.Stop(0)
	isDead(t, d)
	d.Stop(2)
	isDead(t, d)
	if d.Pages() != 3 {
		t.Errorf("Pages: %d", d.Pages())
	}
	d.Crash([]int{0, 3, 3})
	is(t, d, 1, "old")
	for range 5 {
		answers(t, "Sync", d.Sync(), api.OK)
	}
}

// TestP701StopFromBeside: the power may be asked for, and its end be set, while the disk is at work.
func TestP701StopFromBeside(t *testing.T) {
	d := filled(t, "old")
	ended := make(chan bool)
	go func() {
		d.Dead()
		d.Stop(1)
		ended <- d.Dead()
	}()
	for d.Sync() == api.OK {
		d.Read(1)
	}
	<-ended
	isDead(t, d)
	d.Crash(nil)
	is(t, d, 1, "old")
}

func TestP702CrashPicks(t *testing.T) {
	halves := func(pick int) string {
		return []string{"old" + none[3:] + none, low + none, "old" + none[3:] + high, low + high}[pick]
	}
	for pick := -9; pick < 9; pick++ {
		d := filled(t, "old")
		write1(t, d, low+high, api.OK)
		d.Crash([]int{pick})
		is(t, d, 1, halves((pick+12)%4))
	}
	for pick, want := range map[int]int{math.MaxInt: 3, math.MaxInt - 1: 2, math.MinInt: 0, math.MinInt + 1: 1, 1 << 32: 0, 1<<32 + 2: 2, -1 << 32: 0} {
		d := filled(t, "old")
		write1(t, d, low+high, api.OK)
		d.Crash([]int{pick})
		is(t, d, 1, halves(want))
	}
	for first := range 4 {
		for second := range 4 {
			d := filled(t, "old")
			write1(t, d, low+high, api.OK)
			answers(t, "Write", d.Write(2, []byte("other")), api.OK)
			write1(t, d, high+low, api.OK)
			d.Crash([]int{first, 3, second})
			want := []byte(halves(first))
			if second&1 == 1 {
				copy(want, high)
			}
			if second&2 == 2 {
				copy(want[32:], low)
			}
			is(t, d, 1, string(want))
			is(t, d, 2, "other")
		}
	}
}

// TestP702CrashShortWrite: the noughts behind what was written are of its halves as well.
func TestP702CrashShortWrite(t *testing.T) {
	for pick, want := range []string{low + high, "a" + none[1:] + high, low, "a"} {
		d := filled(t, low+high)
		write1(t, d, "a", api.OK)
		d.Crash([]int{pick})
		is(t, d, 1, want)
	}
}

func TestP702CrashCountOfPicks(t *testing.T) {
	for _, picks := range [][]int{nil, {}, {0}, {3}, {3, 3}, {3, 3, 3}, {3, 3, 3, 3, 3}, {0, 3}} {
		d := filled(t, "old")
		for _, b := range []string{"a", "b", "c"} {
			write1(t, d, b, api.OK)
		}
		d.Crash(picks)
		want := "old"
		for i, p := range picks[:min(len(picks), 3)] {
			if p == 3 {
				want = string(rune('a' + i))
			}
		}
		is(t, d, 1, want)
	}
}

// TestP702CrashBehind: all is synced, the power is there, no Stop is set.
func TestP702CrashBehind(t *testing.T) {
	d := filled(t, "old")
	write1(t, d, low+high, api.OK)
	d.Stop(2)
	d.Crash([]int{1})
	is(t, d, 1, low)
	for range 3 {
		d.Crash([]int{3, 3, 3})
		is(t, d, 1, low)
	}
	for range 5 {
		answers(t, "Sync", d.Sync(), api.OK)
	}
	write1(t, d, "new", api.OK)
	d.Crash([]int{3, 0})
	is(t, d, 1, "new")
	d.Stop(1)
	write1(t, d, "newer", api.ErrDead)
	d.Crash([]int{0})
	if d.Dead() {
		t.Error("dead behind a Crash")
	}
	is(t, d, 1, "new")
	d.Crash([]int{3})
	is(t, d, 1, "new")
}

func TestP702Tamper(t *testing.T) {
	d := filled(t, "old")
	for _, c := range []struct {
		at         int
		b, becomes string
	}{
		{0, "", "old"}, {64, "", "old"}, {5, "", "old"},
		{1, "XY", "oXY"}, {63, "z", "oXY" + none[3:] + none[:31] + "z"}, {31, "##", "oXY" + none[3:31] + "##" + none[:30] + "z"},
		{0, high + low, high + low}, {32, high, high + high}, {64, "", high + high},
	} {
		if !d.Tamper(1, c.at, []byte(c.b)) {
			t.Errorf("Tamper at %d: false", c.at)
		}
		is(t, d, 1, c.becomes)
		d.Crash([]int{0})
		is(t, d, 1, c.becomes)
	}
	if !d.Tamper(0, 0, []byte("first")) || !d.Tamper(2, 0, []byte("last")) {
		t.Error("Tamper of the first, the last page: false")
	}
	d.Crash(nil)
	is(t, d, 0, "first")
	is(t, d, 1, high+high)
	is(t, d, 2, "last")
}

func TestP702TamperRefused(t *testing.T) {
	d := filled(t, low+high)
	for _, c := range []struct{ page, at, n int }{
		{-1, 0, 1}, {3, 0, 1}, {-1, 0, 0}, {3, 0, 0}, {math.MinInt, 0, 0}, {math.MaxInt, 0, 1}, {1<<32 + 1, 0, 1},
		{1, -1, 0}, {1, 65, 0}, {1, -1, 1}, {1, -1, 2}, {1, -64, 64}, {1, 64, 1}, {1, 63, 2}, {1, 60, 5}, {1, 1, 64}, {1, 0, 65}, {1, 0, 1 << 16}, {1, -1, 65},
		{1, math.MinInt, 0}, {1, math.MaxInt, 0}, {1, math.MaxInt, 1}, {1, math.MaxInt - 62, 64}, {1, math.MinInt, 64}, {1, 1 << 32, 1}, {1, -1 << 32, 1},
	} {
		if d.Tamper(c.page, c.at, make([]byte, c.n)) {
			t.Errorf("Tamper%v: true", c)
		}
		is(t, d, 1, low+high)
	}
	d.Crash(nil)
	is(t, d, 0, "")
	is(t, d, 1, low+high)
	is(t, d, 2, "")
}

// TestP702TamperAmongWrites: it is as if synced at once, what was not synced ahead of it stays so and may still come over it.
func TestP702TamperAmongWrites(t *testing.T) {
	for pick, want := range []string{"oXd", "new", "oXd", "new"} {
		d := filled(t, "old")
		write1(t, d, "new", api.OK)
		if !d.Tamper(1, 1, []byte("X")) {
			t.Error("Tamper: false")
		}
		is(t, d, 1, "nXw")
		d.Crash([]int{pick, 3})
		is(t, d, 1, want)
	}
	d := filled(t, "old")
	write1(t, d, "new", api.OK)
	d.Tamper(1, 1, []byte("X"))
	answers(t, "Sync", d.Sync(), api.OK)
	is(t, d, 1, "nXw")
	d.Crash([]int{3})
	is(t, d, 1, "nXw")
	d.Tamper(1, 0, []byte("Y"))
	write1(t, d, "again", api.OK)
	is(t, d, 1, "again")
	d.Crash([]int{0})
	is(t, d, 1, "YXw")
}

// TestP702TamperAndPower: it needs no power, brings none, and counts for no Stop.
func TestP702TamperAndPower(t *testing.T) {
	d := filled(t, "old")
	d.Stop(1)
	d.Tamper(1, 0, []byte("O"))
	if d.Dead() {
		t.Error("a Tamper took the power")
	}
	answers(t, "Sync", d.Sync(), api.ErrDead)
	if !d.Tamper(1, 1, []byte("L")) || !d.Tamper(1, 64, nil) || d.Tamper(1, 65, nil) || d.Tamper(3, 0, nil) {
		t.Error("Tamper while the power is gone")
	}
	isDead(t, d)
	d.Crash(nil)
	is(t, d, 1, "OLd")
}

// doing is what was done to a disk since its last Sync or Crash: a whole page that was written (at 0), or some bytes that were tampered with.
type doing struct {
	page, at int
	b        []byte
	tampered bool
}

// words is a disk as the document's words have it: what was synced, all that was done since, and from these each answer anew.
type words struct {
	pages  int
	synced map[int]string
	since  []doing
	dead   bool
	stop   int
}

// told is what Read tells of a page.
func (w *words) told(page int) string {
	b := []byte(w.synced[page])
	for _, s := range w.since {
		if s.page == page {
			copy(b[s.at:], s.b)
		}
	}
	return string(b)
}

func (w *words) has(page int) bool { return 0 <= page && page < w.pages }

// goes tells whether the power goes at what would answer OK.
func (w *words) goes() bool {
	w.dead = w.stop == 1
	w.stop = max(w.stop-1, 0)
	return w.dead
}

func (w *words) write(page int, b []byte) api.Errno {
	switch {
	case w.dead:
		return api.ErrDead
	case !w.has(page) || len(b) > 64:
		return api.ErrArg
	}
	w.since = append(w.since, doing{page: page, b: append(bytes.Clone(b), make([]byte, 64-len(b))...)})
	if w.goes() {
		return api.ErrDead
	}
	return api.OK
}

func (w *words) sync() api.Errno {
	if w.dead || w.goes() {
		return api.ErrDead
	}
	all := map[int]string{}
	for page := range w.pages {
		all[page] = w.told(page)
	}
	w.synced, w.since = all, nil
	return api.OK
}

func (w *words) tamper(page, at int, b []byte) bool {
	if !w.has(page) || at < 0 || at > 64 || len(b) > 64 || at+len(b) > 64 {
		return false
	}
	w.since = append(w.since, doing{page, at, bytes.Clone(b), true})
	return true
}

func (w *words) crash(picks []int) {
	all := map[int][]byte{}
	for page := range w.pages {
		all[page] = []byte(w.synced[page])
	}
	for _, s := range w.since {
		if s.tampered {
			copy(all[s.page][s.at:], s.b)
		}
	}
	for _, s := range w.since {
		if s.tampered {
			continue
		}
		pick := 0
		if len(picks) > 0 {
			pick, picks = (picks[0]%4+4)%4, picks[1:]
		}
		if pick == 1 || pick == 3 {
			copy(all[s.page][:32], s.b)
		}
		if pick == 2 || pick == 3 {
			copy(all[s.page][32:], s.b[32:])
		}
	}
	for page, b := range all {
		w.synced[page] = string(b)
	}
	w.since, w.dead, w.stop = nil, false, 0
}

func blank(pages int) *words {
	w := &words{pages: pages, synced: map[int]string{}}
	for page := range pages {
		w.synced[page] = none + none
	}
	return w
}

// some answers bytes that may be a page's, now and then too many.
func some(source *rand.Rand) []byte {
	b := make([]byte, source.Intn(67))
	if source.Intn(3) == 0 {
		b = b[:min(len(b), 3)]
	}
	source.Read(b)
	return b
}

// step does one thing to both, and answers what they said of it.
func step(source *rand.Rand, d *Disk, w *words) (what string, got, want any) {
	page := source.Intn(w.pages+2) - 1
	switch source.Intn(12) {
	case 0, 1:
		return "Sync", d.Sync(), w.sync()
	case 2:
		w.stop = max(source.Intn(16)-2, 0)
		d.Stop(w.stop)
	case 3:
		picks := make([]int, source.Intn(9))
		for i := range picks {
			picks[i] = int(source.Uint64())
		}
		d.Crash(picks)
		w.crash(picks)
	case 4, 5:
		at, b := source.Intn(70)-3, some(source)
		return "Tamper", d.Tamper(page, at, b), w.tamper(page, at, b)
	default:
		b := some(source)
		return "Write", d.Write(page, b), w.write(page, b)
	}
	return "", nil, nil
}

// TestP701P702AsTheWordsSay: whatever is done, in whatever order.
func TestP701P702AsTheWordsSay(t *testing.T) {
	source := rand.New(rand.NewSource(7))
	for range 400 {
		pages := 2 + source.Intn(4)
		d, w := fresh(t, pages), blank(pages)
		for i := range 200 {
			if what, got, want := step(source, d, w); got != want {
				t.Fatalf("step %d: %s: %v, not %v", i, what, got, want)
			}
			if d.Dead() != w.dead || d.Pages() != pages {
				t.Fatalf("step %d: Dead: %v, not %v; Pages: %d", i, d.Dead(), w.dead, d.Pages())
			}
			for page := range pages {
				b, e := d.Read(page)
				if w.dead && (len(b) != 0 || e != api.ErrDead) || !w.dead && (string(b) != w.told(page) || e != api.OK) {
					t.Fatalf("step %d: page %d: %x, %v, not %x", i, page, b, e, w.told(page))
				}
			}
		}
	}
}

// TestP703 (T3): behind a crash each half of a page is as it was synced, or as one of the Writes since has it; where there was none, it is as it was synced.
func TestP703SyncedStays(t *testing.T) {
	source := rand.New(rand.NewSource(8))
	page := func() []byte {
		b := make([]byte, 64)
		source.Read(b)
		return b
	}
	for range 2000 {
		d := fresh(t, 4)
		var may [4][]string // what each page may be
		for i := range may {
			b := page()
			answers(t, "Write", d.Write(i, b), api.OK)
			may[i] = []string{string(b)}
		}
		answers(t, "Sync", d.Sync(), api.OK)
		d.Stop(source.Intn(8))
		for range source.Intn(10) {
			i, b := source.Intn(3), page() // the last page is left alone
			if dead := d.Dead(); d.Write(i, b) == api.OK || !dead {
				may[i] = append(may[i], string(b))
			}
		}
		d.Crash([]int{source.Intn(4), source.Intn(4), source.Intn(4), source.Intn(4), source.Intn(4)})
		for i := range may {
			b, _ := d.Read(i)
			first := slices.ContainsFunc(may[i], func(s string) bool { return s[:32] == string(b[:32]) })
			second := slices.ContainsFunc(may[i], func(s string) bool { return s[32:] == string(b[32:]) })
			if !first || !second {
				t.Fatalf("page %d: %x", i, b)
			}
		}
	}
}

// TestP701SideBySide: two disks do not touch one another (P7).
func TestP701SideBySide(t *testing.T) {
	a, b := filled(t, "a"), filled(t, "b")
	write1(t, a, "more", api.OK)
	a.Tamper(2, 0, []byte("t"))
	a.Stop(1)
	answers(t, "Sync", b.Sync(), api.OK)
	answers(t, "Sync", a.Sync(), api.ErrDead)
	if b.Dead() {
		t.Error("dead by the other's Stop")
	}
	b.Crash([]int{3, 3})
	isDead(t, a)
	is(t, b, 1, "b")
	is(t, b, 2, "")
	a.Crash([]int{3})
	is(t, a, 1, "more")
}
