package table

import (
	"slices"

	"ledgerline/api"
	"ledgerline/value"
)

// spot is where in a table the row of a key stands, or would stand.
type spot struct {
	Table
	at    int
	taken bool // that row stands there
}

// seek leans on the rows' order. Where they have none, the spot still lies within the table.
func seek(t Table, k api.Value) spot {
	at, taken := slices.BinarySearchFunc(t.Rows, k, func(r []api.Value, k api.Value) int {
		return value.Compare(t.key(r), k)
	})
	return spot{Table: t, at: at, taken: taken}
}

// row answers the row that stands there, in memory of its own.
func (p spot) row() []api.Value {
	return slices.Clone(p.Rows[p.at])
}

// next tells where the rows of greater keys begin.
func (p spot) next() int {
	if p.taken {
		return p.at + 1
	}
	return p.at
}

// ahead are the rows of lesser keys.
func (p spot) ahead() [][]api.Value {
	return p.Rows[:p.at]
}

// behind are the rows of greater keys.
func (p spot) behind() [][]api.Value {
	return p.Rows[p.next():]
}
