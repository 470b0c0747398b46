package store

import (
	"slices"

	"ledgerline/api"
	"ledgerline/code"
	"ledgerline/ledger"
	"ledgerline/row"
	"ledgerline/schema"
)

// Which record one is, by its first byte.
const (
	aTable       = 1
	aTableGoes   = 2
	aTransaction = 3
	aBlock       = 4
)

func tableRecord(x api.Schema) []byte {
	return code.Text(code.Byte(nil, aTable), string(schema.Bytes(x)))
}

func dropRecord(name string) []byte {
	return code.Text(code.Byte(nil, aTableGoes), name)
}

// txRecord writes a transaction that closes these blocks: one, or none.
func txRecord(t api.Tx, closed []ledger.Block) []byte {
	root := ledger.Root(t)
	parts := [][]byte{code.Byte(nil, aTransaction), code.Int(nil, t.Id), code.Byte(nil, len(t.Changes))}
	for i, c := range t.Changes {
		parts = append(parts, changeBytes(c, ledger.Row(t.Id, i, c)))
	}
	parts = append(parts, root[:], code.Byte(nil, len(closed)))
	for _, b := range closed {
		hash := ledger.Hash(b)
		parts = append(parts, hash[:])
	}
	return slices.Concat(parts...)
}

func changeBytes(c api.Change, sum api.Hash) []byte {
	b := code.Text(code.Byte(nil, c.Op), c.Table)
	return append(code.Text(b, string(row.Bytes(c.Row))), sum[:]...)
}

func blockRecord(b ledger.Block) []byte {
	hash := ledger.Hash(b)
	return append(code.Int(code.Byte(nil, aBlock), b.N), hash[:]...)
}
