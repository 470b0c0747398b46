// Package copies: plain things in memory of their own. It is no layer; the layers share it that keep what they are handed, or answer what they keep.
package copies

import (
	"slices"

	"ledgerline/api"
)

// List answers each one's copy, as one makes it, in a list of its own.
func List[T any](l []T, one func(T) T) []T {
	all := slices.Clone(l)
	for i, x := range all {
		all[i] = one(x)
	}
	return all
}

// Change answers c, its row in memory of its own.
func Change(c api.Change) api.Change {
	c.Row = slices.Clone(c.Row)
	return c
}

// Tx answers t, its changes in memory of their own.
func Tx(t api.Tx) api.Tx {
	t.Changes = List(t.Changes, Change)
	return t
}

// Txs answers all transactions of l in memory of their own.
func Txs(l []api.Tx) []api.Tx {
	return List(l, Tx)
}
