package index

import (
	"slices"
	"strings"

	"ledgerline/api"
	"ledgerline/key"
)

// entry is what an index has of a row.
type entry struct {
	order string // by which entries stand: the bytes of the row's value, and those of its key behind them
	key   api.Value
}

func entryOf(v, k api.Value) entry {
	return entry{order: string(append(key.Bytes(v), key.Bytes(k)...)), key: k}
}

func (e entry) compare(order string) int {
	return strings.Compare(e.order, order)
}

// find answers where in all, which are in order, the first entry stands that is not ahead of order, and whether it is that one.
func find(all []entry, order string) (at int, there bool) {
	return slices.BinarySearchFunc(all, order, entry.compare)
}

// front is the bytes of a value. No value's bytes are a front of another one's: the entries that begin so are those of that value, and they stand together.
type front string

func frontOf(v api.Value) front {
	return front(key.Bytes(v))
}

func (f front) begins(e entry) bool {
	return strings.HasPrefix(e.order, string(f))
}
