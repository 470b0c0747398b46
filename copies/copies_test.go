package copies

import (
	"fmt"
	"slices"
	"testing"

	"ledgerline/api"
)

func some() []api.Tx {
	return []api.Tx{
		{Id: 3, Changes: []api.Change{{Table: "t", Op: api.Put, Row: []api.Value{{Kind: api.Int, N: 1}, {}}}, {Table: "u", Op: api.Take}}},
		{Id: -1},
	}
}

func show(x any) string { return fmt.Sprintf("%+v", x) }

// TestP2Copies: a copy says the same, and stays when what it was made of is written over.
func TestP2Copies(t *testing.T) {
	want := show(some())
	l := some()
	txs, all := Txs(l), List([][]api.Tx{l, nil}, Txs)
	tx, change := Tx(l[0]), Change(l[0].Changes[0])
	l[0].Changes[0].Row[0].N = 9
	l[0].Changes[1].Op = 9
	l[1].Id = 9
	if show(txs) != want || show(all) != show([][]api.Tx{some(), nil}) || show(tx) != show(some()[0]) || show(change) != show(some()[0].Changes[0]) {
		t.Errorf("%+v, %+v, %+v, %+v", txs, all, tx, change)
	}
	if n := []int{1, 2}; !slices.Equal(List(n, func(x int) int { return -x }), []int{-1, -2}) || n[0] != 1 || List(nil, func(x int) int { return x }) != nil {
		t.Error("List")
	}
}
