package lock

import "sync/atomic"

// Where a session was come upon, from the one that is asked about. One that has both marks is in a ring with it.
const (
	above = 1 << iota // among those by whom that one is held up
	below             // among those who are held up by that one
)

// marks are those of the sessions that were come upon. A mark is set and asked for in one step (Or), so that each session is gone on from once, by whoever marks it.
type marks map[int]*atomic.Uint32

// put tells whether s did not have that mark yet.
func (m marks) put(mark uint32, s int) bool {
	if m[s] == nil {
		m[s] = new(atomic.Uint32)
	}
	return m[s].Or(mark)&mark == 0
}

// spread marks the sessions that have one of theirs in conflict with one of s's mine, and all that it comes upon from these likewise. s itself is marked only where the way leads back to it.
func (m marks) spread(mark uint32, s int, mine, theirs []Hold) {
	own := bySession(mine)
	open := []int{s}
	for i := 0; i < len(open); i++ {
		for _, a := range own[open[i]] {
			for _, b := range theirs {
				if a.conflicts(b) && m.put(mark, b.S) {
					open = append(open, b.S)
				}
			}
		}
	}
}

// greatest answers the greatest session that has all of these marks; false: none has.
func (m marks) greatest(all uint32) (greatest int, found bool) {
	for s, mark := range m {
		if mark.Load() == all && (!found || s > greatest) {
			greatest, found = s, true
		}
	}
	return greatest, found
}

func bySession(holds []Hold) map[int][]Hold {
	own := make(map[int][]Hold)
	for _, h := range holds {
		own[h.S] = append(own[h.S], h)
	}
	return own
}
