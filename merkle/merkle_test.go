package merkle

import (
	"bytes"
	"crypto/sha256"
	"encoding/hex"
	"math"
	"math/rand"
	"slices"
	"testing"

	"ledgerline/api"
)

// The document's words, row by row, over the sums of the language's library.

func wantLeaf(b []byte) api.Hash {
	return api.Hash(sha256.Sum256(append([]byte{0}, b...)))
}

func wantPair(left, right api.Hash) api.Hash {
	b := append([]byte{1}, left[:]...)
	return api.Hash(sha256.Sum256(append(b, right[:]...)))
}

// half answers the greatest power of two that is less than n.
func half(n int) int {
	k := 1
	for 2*k < n {
		k *= 2
	}
	return k
}

func wantRoot(l []api.Hash) api.Hash {
	switch len(l) {
	case 0:
		return api.Hash(sha256.Sum256(nil))
	case 1:
		return l[0]
	}
	k := half(len(l))
	return wantPair(wantRoot(l[:k]), wantRoot(l[k:]))
}

func wantProof(l []api.Hash, i int) []api.Hash {
	if len(l) == 1 {
		return nil
	}
	if k := half(len(l)); i < k {
		return append(wantProof(l[:k], i), wantRoot(l[k:]))
	} else {
		return append(wantProof(l[k:], i-k), wantRoot(l[:k]))
	}
}

// someHashes draws n sums; each seed draws the same ones always.
func someHashes(n int, seed int64) []api.Hash {
	source := rand.New(rand.NewSource(seed))
	l := make([]api.Hash, n)
	for i := range l {
		source.Read(l[i][:])
	}
	return l
}

// sizes are how many leaves are tried where each of them is too much: all small ones, and those about powers of two.
func sizes() []int {
	var all []int
	for n := range 40 {
		all = append(all, n)
	}
	for _, power := range []int{64, 128, 256, 1024} {
		all = append(all, power-1, power, power+1, power+power/2)
	}
	return all
}

func mustProve(t *testing.T, l []api.Hash, i int) []api.Hash {
	t.Helper()
	p, e := Proof(l, i)
	if e != api.OK {
		t.Fatalf("Proof of the %d. of %d: %v", i, len(l), e)
	}
	return p
}

func TestP301Leaf(t *testing.T) {
	for n := range 300 {
		b := bytes.Repeat([]byte{byte(n)}, n)
		if got := Leaf(b); got != wantLeaf(b) {
			t.Fatalf("of %d bytes: %x", n, got)
		}
	}
	if Leaf(nil) != wantLeaf(nil) || Leaf([]byte{}) != wantLeaf(nil) {
		t.Error("of nothing")
	}
}

// TestP301SumsThatAreKnown: a leaf and an empty list as others that build such trees have them (RFC 6962).
func TestP301SumsThatAreKnown(t *testing.T) {
	for name, c := range map[string]struct {
		got  api.Hash
		want string
	}{
		"a leaf of nothing": {Leaf(nil), "6e340b9cffb37a989ca544e6bb780a2c78901d3fb33738768511a30617afa01d"},
		"none":              {Root(nil), "e3b0c44298fc1c149afbf4c8996fb92427ae41e4649b934ca495991b7852b855"},
		"leaves of RFC 6962's eight texts": {Root([]api.Hash{
			Leaf(nil),
			Leaf([]byte{0x00}),
			Leaf([]byte{0x10}),
			Leaf([]byte{0x20, 0x21}),
			Leaf([]byte{0x30, 0x31}),
			Leaf([]byte{0x40, 0x41, 0x42, 0x43}),
			Leaf([]byte{0x50, 0x51, 0x52, 0x53, 0x54, 0x55, 0x56, 0x57}),
			Leaf([]byte{0x60, 0x61, 0x62, 0x63, 0x64, 0x65, 0x66, 0x67, 0x68, 0x69, 0x6a, 0x6b, 0x6c, 0x6d, 0x6e, 0x6f}),
		}), "5dc9da79a70659a9ad559cb701ded9a2ab9d823aad2f4960cfe370eff4604328"},
	} {
		if got := hex.EncodeToString(c.got[:]); got != c.want {
			t.Errorf("%s: %s", name, got)
		}
	}
}

func TestP301Root(t *testing.T) {
	for _, n := range sizes() {
		l := someHashes(n, 1)
		if got := Root(l); got != wantRoot(l) {
			t.Errorf("of %d: %x", n, got)
		}
	}
	if Root(nil) != Root([]api.Hash{}) {
		t.Error("no list is not as an empty one")
	}
}

func TestP301RootOfOneIsItself(t *testing.T) {
	for _, h := range append(someHashes(3, 2), api.Hash{}) {
		if Root([]api.Hash{h}) != h {
			t.Errorf("%x", h)
		}
	}
}

// TestP301RootOfTwo: the document's example, a sum of 65 bytes.
func TestP301RootOfTwo(t *testing.T) {
	l := someHashes(2, 3)
	b := slices.Concat([]byte{1}, l[0][:], l[1][:])
	if len(b) != 65 || Root(l) != api.Hash(sha256.Sum256(b)) {
		t.Errorf("%x", Root(l))
	}
}

func TestP301RootOfLikeOnes(t *testing.T) {
	for n := range 20 {
		l := slices.Repeat(someHashes(1, 4), n)
		if Root(l) != wantRoot(l) {
			t.Errorf("%d times the same", n)
		}
		// One that stands alone is not doubled.
		if n%2 == 1 && n > 1 && Root(l) == Root(append(l, l[0])) {
			t.Errorf("%d times and %d times the same", n, n+1)
		}
	}
}

func TestP301EachLeafAndItsPlaceCount(t *testing.T) {
	for n := 2; n < 20; n++ {
		l := someHashes(n, 5)
		was := Root(l)
		for i := range l {
			l[i][31] ^= 1
			if Root(l) == was {
				t.Errorf("the %d. of %d does not count", i, n)
			}
			l[i][31] ^= 1
			j := (i + 1) % n
			l[i], l[j] = l[j], l[i]
			if Root(l) == was {
				t.Errorf("the order of the %d. and the %d. of %d does not count", i, j, n)
			}
			l[i], l[j] = l[j], l[i]
		}
	}
}

func TestP302Proof(t *testing.T) {
	for _, n := range sizes() {
		l := someHashes(n, 6)
		for i := 0; i < n; i += 1 + n/50 {
			if p := mustProve(t, l, i); !slices.Equal(p, wantProof(l, i)) {
				t.Fatalf("of the %d. of %d: %x", i, n, p)
			}
		}
		if n > 0 && !slices.Equal(mustProve(t, l, n-1), wantProof(l, n-1)) {
			t.Fatalf("of the last one of %d", n)
		}
	}
}

func TestP302ProofOfOneIsEmpty(t *testing.T) {
	if p, e := Proof(someHashes(1, 7), 0); e != api.OK || len(p) != 0 {
		t.Errorf("%x, %v", p, e)
	}
}

func TestP302ProofOfNoPlace(t *testing.T) {
	for _, n := range []int{0, 1, 2, 3, 4, 5, 17} {
		l := someHashes(n, 8)
		for _, i := range []int{-1, -2, -n, n, n + 1, 2*n + 1, math.MaxInt, math.MinInt} {
			if i == 0 && n > 0 {
				continue
			}
			if p, e := Proof(l, i); e != api.ErrArg || p != nil {
				t.Errorf("place %d of %d: %x, %v", i, n, p, e)
			}
		}
	}
	if p, e := Proof(nil, 0); e != api.ErrArg || p != nil {
		t.Errorf("of no list: %x, %v", p, e)
	}
}

func TestP303AProofHoldsAtItsPlace(t *testing.T) {
	for _, n := range sizes() {
		l := someHashes(n, 9)
		root := Root(l)
		for i := 0; i < n; i += 1 + n/50 {
			if !Check(root, l[i], i, n, mustProve(t, l, i)) {
				t.Fatalf("that of the %d. of %d does not hold", i, n)
			}
		}
		if n > 0 && !Check(root, l[n-1], n-1, n, mustProve(t, l, n-1)) {
			t.Fatalf("that of the last one of %d does not hold", n)
		}
	}
}

// TestP303AtNoOtherPlace: leaves that are all unlike each other are not at any other place.
func TestP303AtNoOtherPlace(t *testing.T) {
	for n := range 34 {
		l := someHashes(n, 10)
		root := Root(l)
		for i := range n {
			p := mustProve(t, l, i)
			for j := -2; j < n+3; j++ {
				if Check(root, l[i], j, n, p) != (i == j) {
					t.Errorf("the %d. of %d at place %d", i, n, j)
				}
				if j >= 0 && j < n && Check(root, l[j], i, n, p) != (i == j) {
					t.Errorf("the %d. of %d by the proof of the %d.", j, n, i)
				}
			}
		}
	}
}

func TestP302CheckOfWhatIsWrong(t *testing.T) {
	for n := 1; n < 34; n++ {
		l := someHashes(n, 11)
		root := Root(l)
		for i := range n {
			p := mustProve(t, l, i)
			for bit := (n + i) % 16; bit < 256; bit += 17 {
				if Check(flipped(root, bit), l[i], i, n, p) || Check(root, flipped(l[i], bit), i, n, p) {
					t.Fatalf("the %d. of %d: bit %d of the root or the leaf does not count", i, n, bit)
				}
			}
			for at := range p {
				q := slices.Clone(p)
				q[at] = flipped(p[at], (7*n+at)%256)
				if Check(root, l[i], i, n, q) {
					t.Fatalf("the %d. of %d: the proof's %d. sum does not count", i, n, at)
				}
			}
			if len(p) > 1 {
				q := slices.Clone(p)
				slices.Reverse(q)
				if Check(root, l[i], i, n, q) {
					t.Fatalf("the %d. of %d: the proof's order does not count", i, n)
				}
			}
		}
	}
}

// flipped is h, one bit of it turned over.
func flipped(h api.Hash, bit int) api.Hash {
	h[bit/8] ^= 1 << (bit % 8)
	return h
}

func TestP302CheckOfAnotherLength(t *testing.T) {
	drawn := someHashes(39, 13)
	for n := 1; n < 34; n++ {
		l := someHashes(n, 12)
		root := Root(l)
		for i := range n {
			p := mustProve(t, l, i)
			for size := range p {
				if Check(root, l[i], i, n, p[:size]) || Check(root, l[i], i, n, p[len(p)-size:]) {
					t.Errorf("the %d. of %d by %d of %d sums", i, n, size, len(p))
				}
			}
			for more := 1; more <= len(drawn); more++ {
				if Check(root, l[i], i, n, slices.Concat(p, drawn[:more])) || Check(root, l[i], i, n, slices.Concat(drawn[:more], p)) {
					t.Errorf("the %d. of %d by %d sums more", i, n, more)
				}
			}
		}
	}
}

// TestP302CheckLedUpByTooFew: sums that lead to the root by themselves are none where the place asks for more, or for fewer.
func TestP302CheckLedUpByTooFew(t *testing.T) {
	l := someHashes(8, 14)
	root := Root(l)
	right := wantRoot(l[4:])
	if !Check(root, wantRoot(l[:4]), 0, 2, []api.Hash{right}) {
		t.Error("the first half is not the first of two")
	}
	for n := 3; n < 20; n++ {
		if Check(root, wantRoot(l[:4]), 0, n, []api.Hash{right}) {
			t.Errorf("the first half is the first of %d", n)
		}
	}
	if Check(root, root, 0, 2, nil) || !Check(root, root, 0, 1, nil) {
		t.Error("the root by itself")
	}
	// The last one of five has a way of one step alone.
	five := someHashes(5, 15)
	if p := mustProve(t, five, 4); len(p) != 1 || !Check(Root(five), five[4], 4, 5, p) || Check(Root(five), five[4], 4, 8, p) {
		t.Errorf("the last one of five: %d steps", len(p))
	}
}

// TestP302CheckAsTheWordsSay: of drawn places and counts, Check tells what the leaf leads to, and nothing else.
func TestP302CheckAsTheWordsSay(t *testing.T) {
	source := rand.New(rand.NewSource(16))
	for range 3000 {
		n := 1 + source.Intn(1<<source.Intn(21))
		i := source.Intn(n)
		l := someHashes(1+len(ways(i, n)), source.Int63())
		leaf, p := l[0], l[1:]
		root := led(leaf, i, n, p)
		if !Check(root, leaf, i, n, p) {
			t.Fatalf("the %d. of %d, by %d sums", i, n, len(p))
		}
		if Check(flipped(root, source.Intn(256)), leaf, i, n, p) || Check(root, leaf, i, n, append(p, api.Hash{})) {
			t.Fatalf("the %d. of %d: what is wrong holds", i, n)
		}
	}
}

// led is what leaf, the i-th of n, is led up to by p.
func led(leaf api.Hash, i, n int, p []api.Hash) api.Hash {
	for at, left := range ways(i, n) {
		if left {
			leaf = wantPair(p[at], leaf)
		} else {
			leaf = wantPair(leaf, p[at])
		}
	}
	return leaf
}

// ways tells, from below, at which steps of its way the i-th of n has the other sum on its left.
func ways(i, n int) []bool {
	if n == 1 {
		return nil
	}
	k := half(n)
	if i < k {
		return append(ways(i, k), false)
	}
	return append(ways(i-k, n-k), true)
}

func TestP302CheckOfNumbersThatMayNotBe(t *testing.T) {
	h := someHashes(1, 17)[0]
	for _, c := range [][2]int{{0, 0}, {-1, 0}, {-1, 1}, {1, 1}, {2, 1}, {0, -1}, {-2, -1}, {-1, -1}, {0, math.MinInt}, {math.MinInt, math.MinInt}, {math.MinInt, 1}, {math.MaxInt, 1}, {math.MaxInt, math.MaxInt}, {math.MaxInt - 1, math.MaxInt}, {0, math.MaxInt}, {0, 1<<20 + 1}, {1 << 20, 1<<20 + 1}, {0, 1 << 32}, {1 << 32, 1<<32 + 1}} {
		for size := range 70 {
			if Check(h, h, c[0], c[1], make([]api.Hash, size)) {
				t.Errorf("the %d. of %d by %d sums", c[0], c[1], size)
			}
		}
	}
	if !Check(h, h, 0, 1, nil) || !Check(h, h, 0, 1, []api.Hash{}) {
		t.Error("the one of one")
	}
}

// TestP302CheckOfTheGreatestCount: 2^20 leaves are few enough; of more of them none is at its place, however right its proof is.
func TestP302CheckOfTheGreatestCount(t *testing.T) {
	const most = 1 << 20
	for _, c := range []struct {
		i, n  int
		holds bool
	}{
		{0, most, true}, {1, most, true}, {most / 2, most, true}, {most - 1, most, true}, {most - 2, most - 1, true}, {0, most - 1, true},
		{0, most + 1, false}, {most / 2, most + 1, false}, {most, most + 1, false}, {most + 1, most + 2, false}, {0, 2 * most, false}, {2*most - 1, 2 * most, false}, {1 << 40, 1<<40 + 1, false},
	} {
		l := someHashes(1+len(ways(c.i, c.n)), 18)
		leaf, p := l[0], l[1:]
		if Check(led(leaf, c.i, c.n, p), leaf, c.i, c.n, p) != c.holds {
			t.Errorf("the %d. of %d, by %d sums: not %v", c.i, c.n, len(p), c.holds)
		}
	}
}

func TestP2NothingIsChanged(t *testing.T) {
	for n := range 20 {
		room := someHashes(n+10, 19)
		was := slices.Clone(room)
		l := room[:n]
		root := Root(l)
		for i := range n {
			p := mustProve(t, l, i)
			held := append(make([]api.Hash, 0, 40), p...)
			Check(root, l[i], i, n, held)
			Check(root, l[i], i, n, held[:len(held)/2])
			if !slices.Equal(held, p) || slices.ContainsFunc(held[len(p):40], func(h api.Hash) bool { return h != api.Hash{} }) {
				t.Fatalf("the %d. of %d: Check changes a proof", i, n)
			}
		}
		if !slices.Equal(room, was) {
			t.Fatalf("%d: the list, or its spare room, has changed", n)
		}
	}
	b := bytes.Repeat([]byte{7}, 80)
	if Leaf(b[:40]); !bytes.Equal(b, bytes.Repeat([]byte{7}, 80)) {
		t.Error("Leaf changes bytes, or their spare room")
	}
}

func TestP2ProofsAreNewMemory(t *testing.T) {
	for n := 2; n < 20; n++ {
		l := someHashes(n, 20)
		was := slices.Clone(l)
		for i := range n {
			p, q := mustProve(t, l, i), mustProve(t, l, i)
			p = p[:cap(p)]
			for at := range p {
				p[at] = api.Hash{1}
			}
			if !slices.Equal(l, was) || !slices.Equal(q, wantProof(l, i)) {
				t.Fatalf("the %d. of %d: a proof shares memory", i, n)
			}
		}
	}
}

func TestP2NothingIsKept(t *testing.T) {
	l := someHashes(9, 21)
	root, p := Root(l), mustProve(t, l, 4)
	wasRoot, wasProof := root, slices.Clone(p)
	for i := range l {
		l[i] = api.Hash{}
	}
	if root != wasRoot || !slices.Equal(p, wasProof) || Root(l) != wantRoot(l) {
		t.Error("a list that was handed in is kept")
	}
}

func TestP3TheSameAgain(t *testing.T) {
	for n := range 20 {
		l := someHashes(n, 22)
		if Root(l) != Root(l) {
			t.Errorf("%d: two roots", n)
		}
		for i := range n {
			p, q := mustProve(t, l, i), mustProve(t, l, i)
			if !slices.Equal(p, q) || !Check(Root(l), l[i], i, n, p) || !Check(Root(l), l[i], i, n, p) {
				t.Errorf("the %d. of %d: two answers", i, n)
			}
		}
	}
}

func TestP1AnyCheckEnds(t *testing.T) {
	source := rand.New(rand.NewSource(23))
	numbers := []int{0, 1, 2, 3, 7, 8, 1<<20 - 1, 1 << 20, 1<<20 + 1, -1, math.MaxInt, math.MinInt}
	for range 5000 {
		i, n := numbers[source.Intn(len(numbers))], numbers[source.Intn(len(numbers))]
		p := someHashes(source.Intn(80), source.Int63())
		if len(p) > 0 && Check(api.Hash{}, api.Hash{}, i, n, p) {
			t.Fatalf("the %d. of %d by %d drawn sums", i, n, len(p))
		}
	}
}
