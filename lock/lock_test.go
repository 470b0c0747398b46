package lock

import (
	"math"
	"math/rand"
	"slices"
	"sync"
	"testing"

	"ledgerline/api"
)

// read is a session's hold without X, or its wait for one.
func read(s int, table string) Hold { return Hold{S: s, Table: table} }

// write is one with X.
func write(s int, table string) Hold { return Hold{S: s, Table: table, X: true} }

// list is all that it is called with.
func list(h ...Hold) []Hold { return h }

// equal holds two states against each other.
func equal(a, b Locks) bool {
	return slices.Equal(a.Holds, b.Holds) && slices.Equal(a.Waits, b.Waits)
}

func clone(l Locks) Locks {
	return Locks{Holds: slices.Clone(l.Holds), Waits: slices.Clone(l.Waits)}
}

// inConflict is the document's words as they stand.
func inConflict(h, other Hold) bool {
	if h.S == other.S || h.Table != other.Table {
		return false
	}
	return h.X || other.X
}

// wantAsk is the document's words as they stand.
func wantAsk(l Locks, h Hold) (Locks, bool) {
	own, conflict := -1, false
	for i, x := range l.Holds {
		if x.S == h.S && x.Table == h.Table {
			own = i
		}
		conflict = conflict || inConflict(h, x)
	}
	want := Locks{Holds: slices.Clone(l.Holds)}
	for _, w := range l.Waits {
		if w.S != h.S {
			want.Waits = append(want.Waits, w)
		}
	}
	switch {
	case own >= 0 && (l.Holds[own].X || !h.X):
		return want, true
	case !conflict && own >= 0:
		want.Holds[own].X = h.X
		return want, true
	case !conflict:
		want.Holds = append(want.Holds, h)
		return want, true
	}
	want.Waits = append(want.Waits, h)
	return want, false
}

// wantFree is the document's words as they stand.
func wantFree(l Locks, s int) Locks {
	var want Locks
	for _, h := range l.Holds {
		if h.S != s {
			want.Holds = append(want.Holds, h)
		}
	}
	for _, w := range l.Waits {
		if w.S != s {
			want.Waits = append(want.Waits, w)
		}
	}
	return want
}

// wantVictim is the document's words as they stand: of sessions 0 to 7, whom each is held up by, over any number of them.
func wantVictim(l Locks, s int) (int, bool) {
	var heldUp [8][8]bool
	for _, w := range l.Waits {
		for _, h := range l.Holds {
			if inConflict(w, h) {
				heldUp[w.S][h.S] = true
			}
		}
	}
	for over := range 8 {
		for a := range 8 {
			for b := range 8 {
				heldUp[a][b] = heldUp[a][b] || heldUp[a][over] && heldUp[over][b]
			}
		}
	}
	for v := 7; v >= 0; v-- {
		if heldUp[s][v] && heldUp[v][s] {
			return v, true
		}
	}
	return 0, false
}

// isAsked asks l for h, and answers what comes of it.
func isAsked(t *testing.T, l Locks, h Hold, want Locks, wantIs bool) Locks {
	t.Helper()
	got, is := Ask(l, h)
	if is != wantIs || !equal(got, want) {
		t.Fatalf("%+v asked of %+v: %+v, %v, not %+v, %v", h, l, got, is, want, wantIs)
	}
	return got
}

func isFreed(t *testing.T, l Locks, s int, want Locks) Locks {
	t.Helper()
	got := Free(l, s)
	if !equal(got, want) {
		t.Fatalf("%d freed of %+v: %+v, not %+v", s, l, got, want)
	}
	return got
}

func isVictim(t *testing.T, l Locks, s, want int, wantIs bool) {
	t.Helper()
	if got, is := Victim(l, s); got != want || is != wantIs {
		t.Fatalf("victim of %d in %+v: %d, %v, not %d, %v", s, l, got, is, want, wantIs)
	}
}

// noRing: no session is in one.
func noRing(t *testing.T, l Locks) {
	t.Helper()
	for s := range api.MaxWork {
		isVictim(t, l, s, 0, false)
	}
}

// isRing: these sessions, in order, are in one, all others in none.
func isRing(t *testing.T, l Locks, ring ...int) {
	t.Helper()
	for s := range api.MaxWork {
		if slices.Contains(ring, s) {
			isVictim(t, l, s, ring[len(ring)-1], true)
		} else {
			isVictim(t, l, s, 0, false)
		}
	}
}

func TestP1201Ask(t *testing.T) {
	var l Locks
	l = isAsked(t, l, read(1, "a"), Locks{Holds: list(read(1, "a"))}, true)
	l = isAsked(t, l, read(0, "a"), Locks{Holds: list(read(1, "a"), read(0, "a"))}, true)
	l = isAsked(t, l, write(0, "b"), Locks{Holds: list(read(1, "a"), read(0, "a"), write(0, "b"))}, true)
	l = isAsked(t, l, write(7, "a"), Locks{Holds: l.Holds, Waits: list(write(7, "a"))}, false)
	l = isAsked(t, l, read(1, "b"), Locks{Holds: l.Holds, Waits: list(write(7, "a"), read(1, "b"))}, false)
	isAsked(t, l, write(3, "c"), Locks{Holds: list(read(1, "a"), read(0, "a"), write(0, "b"), write(3, "c")), Waits: l.Waits}, true)
}

// TestP1201InConflict: of two sessions, one of which holds, all that the other one may ask for.
func TestP1201InConflict(t *testing.T) {
	for _, c := range []struct {
		held, asked Hold
		want        bool
	}{
		{read(1, "a"), read(2, "a"), true},
		{read(1, "a"), write(2, "a"), false},
		{write(1, "a"), read(2, "a"), false},
		{write(1, "a"), write(2, "a"), false},
		{write(1, "a"), read(0, "a"), false},
		{read(1, "a"), read(2, "b"), true},
		{read(1, "a"), write(2, "b"), true},
		{write(1, "a"), read(2, "b"), true},
		{write(1, "a"), write(2, "b"), true},
		{write(1, "a"), write(2, "ab"), true},
		{write(1, "ab"), write(2, "a"), true},
		{write(1, "a"), write(1, "b"), true},
	} {
		l := Locks{Holds: list(c.held)}
		if c.want {
			isAsked(t, l, c.asked, Locks{Holds: list(c.held, c.asked)}, true)
		} else {
			isAsked(t, l, c.asked, Locks{Holds: list(c.held), Waits: list(c.asked)}, false)
		}
	}
}

// TestP1201AnyOfTheHolds: one that is in conflict is enough, wherever it stands.
func TestP1201AnyOfTheHolds(t *testing.T) {
	holds := list(read(0, "a"), read(1, "a"), write(2, "b"), read(3, "c"))
	l := Locks{Holds: holds}
	for _, h := range list(write(5, "a"), write(0, "a"), write(1, "a"), read(5, "b"), write(0, "b"), write(2, "a"), write(1, "c")) {
		isAsked(t, l, h, Locks{Holds: holds, Waits: list(h)}, false)
	}
	isAsked(t, l, write(3, "c"), Locks{Holds: list(read(0, "a"), read(1, "a"), write(2, "b"), write(3, "c"))}, true)
}

// TestP1201AsItIs: who holds it already, though others' waits, and a hold without X of others, are there.
func TestP1201AsItIs(t *testing.T) {
	l := Locks{Holds: list(read(2, "a"), write(1, "b"), read(1, "a")), Waits: list(write(3, "a"), write(2, "b"))}
	isAsked(t, l, read(1, "a"), l, true)
	isAsked(t, l, read(1, "b"), l, true)
	isAsked(t, l, write(1, "b"), l, true)
}

// TestP1201AsItIsWaitIsGone: what it waited for is gone; what others wait for stays, in order.
func TestP1201AsItIsWaitIsGone(t *testing.T) {
	holds := list(read(2, "a"), write(1, "b"), read(1, "a"))
	for _, own := range list(write(1, "a"), read(1, "c")) {
		l := Locks{Holds: holds, Waits: list(write(3, "a"), own, write(2, "b"))}
		for _, h := range list(read(1, "a"), read(1, "b"), write(1, "b")) {
			isAsked(t, l, h, Locks{Holds: holds, Waits: list(write(3, "a"), write(2, "b"))}, true)
		}
	}
}

// TestP1201HasX: its own hold has X now, at its place.
func TestP1201HasX(t *testing.T) {
	l := Locks{Holds: list(read(1, "a"), read(2, "b"), read(1, "c"), read(2, "c")), Waits: list(write(5, "a"))}
	l = isAsked(t, l, write(1, "a"), Locks{Holds: list(write(1, "a"), read(2, "b"), read(1, "c"), read(2, "c")), Waits: l.Waits}, true)
	l = isAsked(t, l, write(2, "b"), Locks{Holds: list(write(1, "a"), write(2, "b"), read(1, "c"), read(2, "c")), Waits: l.Waits}, true)
	isAsked(t, l, write(2, "c"), Locks{Holds: l.Holds, Waits: list(write(5, "a"), write(2, "c"))}, false)
}

// TestP1201WaitIsGone: of a session that waited, and may now; whether it may have that, or another one.
func TestP1201WaitIsGone(t *testing.T) {
	l := Locks{Holds: list(read(1, "a")), Waits: list(write(3, "z"), write(1, "y"), write(2, "a"))}
	isAsked(t, l, write(1, "a"), Locks{Holds: list(write(1, "a")), Waits: list(write(3, "z"), write(2, "a"))}, true)
	isAsked(t, l, write(1, "y"), Locks{Holds: list(read(1, "a"), write(1, "y")), Waits: list(write(3, "z"), write(2, "a"))}, true)
	isAsked(t, l, read(1, "b"), Locks{Holds: list(read(1, "a"), read(1, "b")), Waits: list(write(3, "z"), write(2, "a"))}, true)
	isAsked(t, l, read(2, "a"), Locks{Holds: list(read(1, "a"), read(2, "a")), Waits: list(write(3, "z"), write(1, "y"))}, true)
	isAsked(t, l, read(4, "a"), Locks{Holds: list(read(1, "a"), read(4, "a")), Waits: l.Waits}, true)
}

// TestP1201Waits: it waits behind all, and for one thing alone, also where it asks for the same again.
func TestP1201Waits(t *testing.T) {
	l := Locks{Holds: list(write(0, "a"), write(0, "b"))}
	for _, c := range []struct {
		h    Hold
		want []Hold
	}{
		{read(1, "a"), list(read(1, "a"))},
		{write(2, "a"), list(read(1, "a"), write(2, "a"))},
		{read(3, "b"), list(read(1, "a"), write(2, "a"), read(3, "b"))},
		{read(2, "b"), list(read(1, "a"), read(3, "b"), read(2, "b"))},
		{write(1, "a"), list(read(3, "b"), read(2, "b"), write(1, "a"))},
		{read(3, "b"), list(read(2, "b"), write(1, "a"), read(3, "b"))},
		{read(3, "b"), list(read(2, "b"), write(1, "a"), read(3, "b"))},
		{read(3, "a"), list(read(2, "b"), write(1, "a"), read(3, "a"))},
	} {
		l = isAsked(t, l, c.h, Locks{Holds: l.Holds, Waits: c.want}, false)
	}
}

// TestP1201WaitsHoldNobodyUp: what is waited for is in no conflict.
func TestP1201WaitsHoldNobodyUp(t *testing.T) {
	l := Locks{Holds: list(read(1, "a")), Waits: list(write(2, "a"), write(3, "a"))}
	isAsked(t, l, read(4, "a"), Locks{Holds: list(read(1, "a"), read(4, "a")), Waits: l.Waits}, true)
	l = Free(l, 1)
	isAsked(t, l, write(3, "a"), Locks{Holds: list(write(3, "a")), Waits: list(write(2, "a"))}, true)
}

func TestP1201Free(t *testing.T) {
	l := Locks{Holds: list(read(1, "a"), write(2, "b"), read(3, "a"), write(1, "c")), Waits: list(write(1, "a"), read(3, "c"), read(5, "c"))}
	isFreed(t, l, 1, Locks{Holds: list(write(2, "b"), read(3, "a")), Waits: list(read(3, "c"), read(5, "c"))})
	isFreed(t, l, 2, Locks{Holds: list(read(1, "a"), read(3, "a"), write(1, "c")), Waits: l.Waits})
	isFreed(t, l, 3, Locks{Holds: list(read(1, "a"), write(2, "b"), write(1, "c")), Waits: list(write(1, "a"), read(5, "c"))})
	isFreed(t, l, 5, Locks{Holds: l.Holds, Waits: list(write(1, "a"), read(3, "c"))})
	for _, s := range []int{0, 4, 7} {
		isFreed(t, l, s, l)
	}
	for _, s := range []int{1, 5, 2, 3} {
		l = Free(l, s)
	}
	isFreed(t, l, 1, Locks{})
}

// TestP1201FreeGrantsNothing: who waited waits on, till it asks again.
func TestP1201FreeGrantsNothing(t *testing.T) {
	l := Locks{Holds: list(write(1, "a")), Waits: list(read(2, "a"), read(3, "a"))}
	l = isFreed(t, l, 1, Locks{Waits: l.Waits})
	isAsked(t, l, read(3, "a"), Locks{Holds: list(read(3, "a")), Waits: list(read(2, "a"))}, true)
}

// someHold is one that chance picks, of that many sessions and tables.
func someHold(source *rand.Rand, sessions, tables int) Hold {
	return Hold{S: source.Intn(sessions), Table: string(rune('a' + source.Intn(tables))), X: source.Intn(2) == 0}
}

// byChance tells each of the states that calls lead to, one behind the other.
func byChance(t *testing.T, tell func(l Locks)) {
	t.Helper()
	source := rand.New(rand.NewSource(1))
	for range 400 {
		sessions, tables := 1+source.Intn(api.MaxWork), 1+source.Intn(4)
		var l Locks
		for range 60 {
			h := someHold(source, sessions, tables)
			if source.Intn(8) == 0 {
				l = isFreed(t, l, h.S, wantFree(l, h.S))
			} else {
				want, is := wantAsk(l, h)
				l = isAsked(t, l, h, want, is)
			}
			tell(l)
		}
	}
}

// TestP1201ByChance: calls by chance, held against the document's words.
func TestP1201ByChance(t *testing.T) {
	waits := 0
	byChance(t, func(l Locks) { waits += len(l.Waits) })
	if waits == 0 {
		t.Error("nobody ever waited")
	}
}

// TestP1202Example: two that ask each for what the other one has.
func TestP1202Example(t *testing.T) {
	for _, x := range []bool{false, true} {
		var l Locks
		l, _ = Ask(l, write(6, "a"))
		l, _ = Ask(l, write(2, "b"))
		l, _ = Ask(l, Hold{S: 6, Table: "b", X: x})
		noRing(t, l)
		l, _ = Ask(l, Hold{S: 2, Table: "a", X: x})
		isRing(t, l, 2, 6)
	}
}

func TestP1202Victim(t *testing.T) {
	noRing(t, Locks{})
	// Who waits for nothing, and who holds nothing, is in no ring.
	noRing(t, Locks{Holds: list(write(1, "a"), write(2, "b")), Waits: list(write(1, "b"))})
	noRing(t, Locks{Holds: list(write(1, "a")), Waits: list(write(2, "a"), write(3, "a"))})
	// One after the other, but no way back.
	noRing(t, Locks{Holds: list(write(0, "a"), write(1, "b"), write(2, "c"), write(3, "d")), Waits: list(write(1, "a"), write(2, "b"), write(3, "c"))})
	// Two that read, and both want to write.
	isRing(t, Locks{Holds: list(read(0, "a"), read(3, "a")), Waits: list(write(3, "a"), write(0, "a"))}, 0, 3)
	// One of more of them wants to: it is held up, they are not.
	noRing(t, Locks{Holds: list(read(0, "a"), read(3, "a"), read(5, "a")), Waits: list(write(3, "a"))})
	// A wait for what the session alone holds is held up by nobody.
	noRing(t, Locks{Holds: list(read(3, "a")), Waits: list(write(3, "a"))})
	noRing(t, Locks{Holds: list(write(3, "a"), write(4, "b")), Waits: list(write(3, "a"), write(4, "b"))})
	// A ring of all.
	all := Locks{Holds: list(write(0, "a"), write(1, "b"), write(2, "c"), write(3, "d"), write(4, "e"), write(5, "f"), write(6, "g"), write(7, "h"))}
	for i := range 8 {
		all.Waits = append(all.Waits, read(i, all.Holds[(i+3)%8].Table))
	}
	isRing(t, all, 0, 1, 2, 3, 4, 5, 6, 7)
	isRing(t, Locks{Holds: all.Holds[:3], Waits: list(write(0, "b"), write(1, "c"), write(2, "a"))}, 0, 1, 2)
}

// TestP1202Conflicts: only what is in conflict holds up: not what is held and waited for without X, nor another table.
func TestP1202Conflicts(t *testing.T) {
	noRing(t, Locks{Holds: list(read(1, "a"), read(2, "b")), Waits: list(read(1, "b"), read(2, "a"))})
	noRing(t, Locks{Holds: list(read(1, "a"), write(2, "b")), Waits: list(read(1, "b"), read(2, "a"))})
	noRing(t, Locks{Holds: list(write(1, "a"), write(2, "b")), Waits: list(write(1, "b"), write(2, "c"))})
	isRing(t, Locks{Holds: list(read(1, "a"), write(2, "b")), Waits: list(read(1, "b"), write(2, "a"))}, 1, 2)
	isRing(t, Locks{Holds: list(read(1, "a"), read(2, "b")), Waits: list(write(1, "b"), write(2, "a"))}, 1, 2)
}

// TestP1202BesideTheRing: who is held up by a ring, or holds one up, is not in it, however great its number.
func TestP1202BesideTheRing(t *testing.T) {
	l := Locks{
		Holds: list(write(1, "a"), write(2, "b"), write(7, "c"), read(6, "d"), read(1, "d"), read(2, "e"), read(5, "e")),
		Waits: list(write(2, "a"), write(7, "a"), write(1, "b"), write(3, "d")),
	}
	isRing(t, l, 1, 2)
	l = Locks{Holds: list(read(1, "a"), read(2, "a"), read(6, "a"), write(7, "b")), Waits: list(write(1, "a"), write(2, "a"), write(6, "b"))}
	isRing(t, l, 1, 2)
	l = Locks{Holds: list(read(1, "a"), read(2, "a"), read(6, "a")), Waits: list(write(1, "a"), write(2, "a"))}
	isRing(t, l, 1, 2)
}

// TestP1202TwoRings: those that have a session in common are one, those that have not are two.
func TestP1202TwoRings(t *testing.T) {
	l := Locks{Holds: list(read(0, "a"), write(5, "b"), write(2, "c"), read(2, "a")), Waits: list(read(0, "b"), write(5, "a"), read(2, "b"))}
	isRing(t, l, 0, 2, 5)
	// 3 waits for both, 1 and 6 for 3.
	l = Locks{Holds: list(read(1, "a"), read(6, "a"), write(3, "b")), Waits: list(read(1, "b"), read(6, "b"), write(3, "a"))}
	isRing(t, l, 1, 3, 6)
	l = Locks{Holds: list(write(0, "a"), write(1, "b"), write(6, "c"), write(7, "d")), Waits: list(write(0, "b"), write(1, "a"), write(6, "d"), write(7, "c"))}
	for s, want := range map[int]int{0: 1, 1: 1, 6: 7, 7: 7} {
		isVictim(t, l, s, want, true)
	}
	// One of the first ring waits for one of the second one as well: it holds no one of that one up.
	l.Holds = append(l.Holds, read(0, "e"), read(6, "e"))
	l.Waits[1] = write(1, "e")
	for s, want := range map[int]int{0: 1, 1: 1, 6: 7, 7: 7} {
		isVictim(t, l, s, want, true)
	}
}

// TestP1202FreedVictim: of a ring whose victim is freed nothing is left, if it was one.
func TestP1202FreedVictim(t *testing.T) {
	l := Locks{Holds: list(write(0, "a"), write(1, "b"), write(2, "c")), Waits: list(write(0, "b"), write(1, "c"), write(2, "a"))}
	isRing(t, l, 0, 1, 2)
	noRing(t, Free(l, 2))
	noRing(t, Free(l, 0))
	l, _ = Ask(l, read(1, "z"))
	noRing(t, l)
}

// TestP1202VictimByChance: states that calls lead to, held against the document's words.
func TestP1202VictimByChance(t *testing.T) {
	rings := make(map[int]int)
	byChance(t, func(l Locks) {
		for s := range api.MaxWork {
			want, is := wantVictim(l, s)
			isVictim(t, l, s, want, is)
			if is {
				rings[want]++
			}
		}
	})
	if len(rings) != api.MaxWork-1 {
		t.Errorf("few rings: %v", rings)
	}
}

// TestP1202AnyWaits: states in which holds and waits are any.
func TestP1202AnyWaits(t *testing.T) {
	source := rand.New(rand.NewSource(2))
	some := func(most, tables int) []Hold {
		var l []Hold
		for range source.Intn(most) {
			l = append(l, someHold(source, api.MaxWork, tables))
		}
		return l
	}
	for range 4000 {
		tables := 1 + source.Intn(6)
		l := Locks{Holds: some(12, tables), Waits: some(12, tables)}
		for s := range api.MaxWork {
			want, is := wantVictim(l, s)
			isVictim(t, l, s, want, is)
		}
	}
}

func TestP1202Same(t *testing.T) {
	all := []Locks{
		{},
		{Holds: list(read(1, "a"))},
		{Waits: list(read(1, "a"))},
		{Holds: list(read(1, "a")), Waits: list(read(1, "a"))},
		{Holds: list(write(1, "a"))},
		{Holds: list(read(2, "a"))},
		{Holds: list(read(1, "b"))},
		{Holds: list(Hold{})},
		{Holds: list(read(1, "a"), read(2, "a"))},
		{Holds: list(read(2, "a"), read(1, "a"))},
		{Holds: list(read(1, "a"), read(1, "a"))},
		{Holds: list(read(1, "a"), read(2, "a")), Waits: list(write(1, "a"), write(2, "a"))},
		{Holds: list(read(1, "a"), read(2, "a")), Waits: list(write(2, "a"), write(1, "a"))},
		{Holds: list(read(1, "a"), read(2, "a")), Waits: list(write(1, "a"))},
		{Holds: list(read(1, "a"), read(2, "a")), Waits: list(write(1, "a"), read(2, "a"))},
		{Holds: list(read(-1, ""), read(math.MaxInt64, "\xff"))},
	}
	for i, a := range all {
		for j, b := range all {
			if got := Same(a, clone(b)); got != (i == j) {
				t.Errorf("%+v, %+v: %v", a, b, got)
			}
		}
	}
}

// TestP1202SameEmpty: no list and an empty one are the same.
func TestP1202SameEmpty(t *testing.T) {
	empty := Locks{Holds: []Hold{}, Waits: make([]Hold, 0, 3)}
	if !Same(empty, Locks{}) || !Same(Locks{}, empty) || !Same(Locks{Holds: empty.Holds}, Locks{Waits: empty.Waits}) {
		t.Error("no list is not an empty one")
	}
	for _, l := range []Locks{empty, {}} {
		isAsked(t, l, read(1, "a"), Locks{Holds: list(read(1, "a"))}, true)
		isFreed(t, l, 1, Locks{})
		noRing(t, l)
	}
}

// TestP1203: no two holds of unlike sessions are in conflict; a session has one hold of a table, and waits for one thing.
func TestP1203(t *testing.T) {
	byChance(t, func(l Locks) {
		for i, a := range l.Holds {
			for _, b := range l.Holds[i+1:] {
				if inConflict(a, b) || a.S == b.S && a.Table == b.Table {
					t.Fatalf("%+v and %+v of %+v", a, b, l)
				}
			}
		}
		for i, a := range l.Waits {
			for _, b := range l.Waits[i+1:] {
				if a.S == b.S {
					t.Fatalf("%+v and %+v of %+v", a, b, l)
				}
			}
		}
	})
}

// TestP1203AllStates: of all states that calls of a few sessions and tables lead to, each with all calls.
func TestP1203AllStates(t *testing.T) {
	for _, c := range []struct{ sessions, tables, least int }{{1, 2, 13}, {2, 1, 15}, {3, 1, 100}, {2, 2, 1000}} {
		seen := make(map[[7]Hold]struct{})
		open := []Locks{{}}
		for len(open) > 0 {
			l := open[len(open)-1]
			open = open[:len(open)-1]
			var key [7]Hold
			copy(key[:4], l.Holds)
			copy(key[4:], l.Waits)
			if _, is := seen[key]; is {
				continue
			}
			seen[key] = struct{}{}
			for i, a := range l.Holds {
				if slices.ContainsFunc(l.Holds[:i], func(b Hold) bool { return inConflict(a, b) }) {
					t.Fatalf("%+v", l)
				}
			}
			for s := range c.sessions {
				want, is := wantVictim(l, s)
				isVictim(t, l, s, want, is)
				open = append(open, isFreed(t, l, s, wantFree(l, s)))
				for _, name := range []string{"a", "b"}[:c.tables] {
					for _, h := range list(read(s, name), write(s, name)) {
						want, is := wantAsk(l, h)
						open = append(open, isAsked(t, l, h, want, is))
					}
				}
			}
		}
		if len(seen) < c.least {
			t.Errorf("%d sessions, %d tables: %d states", c.sessions, c.tables, len(seen))
		}
	}
}

// oddHolds are some that may not be, and some that may.
func oddHolds() []Hold {
	var all []Hold
	for _, s := range []int{math.MinInt64, -64, -1, 0, 1, 7, 8, 31, 32, 63, 64, math.MaxInt64} {
		for _, name := range []string{"", "a", "table", "\xff\x00", "a name that is far too long for one"} {
			all = append(all, read(s, name), write(s, name))
		}
	}
	return all
}

// TestP1AnyLocks: each call ends, whatever it is handed.
func TestP1AnyLocks(t *testing.T) {
	odd := oddHolds()
	many := Locks{Holds: slices.Repeat(odd, 5), Waits: slices.Repeat(odd, 5)}
	long := Locks{Holds: make([]Hold, 2000), Waits: make([]Hold, 2000)}
	for i := range 2000 {
		long.Holds[i], long.Waits[i] = write(i, "a"), write(i, "a")
	}
	chain := Locks{}
	for i := range 2000 {
		table := string(rune(1000 + i))
		chain.Holds = append(chain.Holds, write(i, table))
		chain.Waits = append(chain.Waits, write((i+1)%2000, table))
	}
	for _, l := range []Locks{{}, {Holds: odd}, {Waits: odd}, {Holds: odd, Waits: odd}, many, long, chain} {
		for _, h := range odd {
			Ask(l, h)
			Free(l, h.S)
			Same(l, l)
		}
		for _, s := range []int{math.MinInt64, -1, 0, 7, 8, 64, math.MaxInt64} {
			Victim(l, s)
		}
	}
}

// roomy is l in memory of its own, each list of it with two elements of spare room, in which something stands.
func roomy(l Locks) Locks {
	room := list(write(77, "spare"), write(78, "room"))
	return Locks{
		Holds: append(slices.Clone(l.Holds), room...)[:len(l.Holds)],
		Waits: append(slices.Clone(l.Waits), room...)[:len(l.Waits)],
	}
}

// whole is l with all that stands in the spare room of its lists.
func whole(l Locks) Locks {
	return Locks{Holds: l.Holds[:cap(l.Holds)], Waits: l.Waits[:cap(l.Waits)]}
}

// spoil writes over a list, its spare room too.
func spoil(l []Hold) {
	for i := range l[:cap(l)] {
		l[:cap(l)][i] = write(99, "spoiled")
	}
}

// TestP2: what is handed in stays as it was, its spare room too, and no answer shares memory with it, nor the two lists of one answer with each other.
func TestP2(t *testing.T) {
	states := []Locks{
		{},
		{Holds: list(read(1, "a"), write(2, "b"))},
		{Waits: list(write(1, "a"), write(3, "b"))},
		{Holds: list(read(1, "a"), write(2, "b"), read(3, "a"), read(4, "c")), Waits: list(write(1, "a"), read(3, "b"), write(2, "a"))},
	}
	calls := []func(l Locks) Locks{func(l Locks) Locks {
		Victim(l, 1)
		Same(l, l)
		return Locks{}
	}}
	for s := range 6 {
		calls = append(calls, func(l Locks) Locks { return Free(l, s) })
		for _, table := range []string{"a", "b", "c", "d"} {
			for _, x := range []bool{false, true} {
				calls = append(calls, func(l Locks) Locks {
					got, _ := Ask(l, Hold{S: s, Table: table, X: x})
					return got
				})
			}
		}
	}
	for _, was := range states {
		for _, call := range calls {
			l := roomy(was)
			got := call(l)
			want := clone(got)
			spoil(got.Holds)
			if !slices.Equal(got.Waits, want.Waits) {
				t.Fatalf("two lists of an answer share memory: %+v", want)
			}
			spoil(got.Waits)
			if !equal(whole(l), whole(roomy(was))) {
				t.Fatalf("%+v has changed: %+v", was, whole(l))
			}
			got = call(l)
			spoil(l.Holds)
			spoil(l.Waits)
			if !equal(got, want) {
				t.Fatalf("an answer has changed: %+v, not %+v", got, want)
			}
		}
	}
}

// TestP3TheSameAgain: the same calls answer the same.
func TestP3TheSameAgain(t *testing.T) {
	byChance(t, func(l Locks) {
		if len(l.Waits) < 6 {
			return
		}
		for range 5 {
			for s := range api.MaxWork {
				want, is := wantVictim(l, s)
				isVictim(t, l, s, want, is)
			}
		}
	})
}

// TestP7SideBySide: calls of one state at once.
func TestP7SideBySide(t *testing.T) {
	l := Locks{Holds: list(read(1, "a"), read(2, "a"), write(3, "b")), Waits: list(write(1, "a"), write(2, "a"), write(3, "a"))}
	was := clone(l)
	var all sync.WaitGroup
	faults := make([]int, 8)
	for i := range faults {
		all.Go(func() {
			for range 300 {
				want, wantIs := wantAsk(was, read(i, "b"))
				if got, is := Ask(l, read(i, "b")); is != wantIs || !equal(got, want) {
					faults[i]++
				}
				v, isRing := wantVictim(was, i)
				if got, is := Victim(l, i); got != v || is != isRing || !equal(Free(l, i), wantFree(was, i)) || !Same(l, was) {
					faults[i]++
				}
			}
		})
	}
	all.Wait()
	for i, n := range faults {
		if n > 0 {
			t.Errorf("%d: %d answers", i, n)
		}
	}
}
