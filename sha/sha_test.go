package sha

import (
	"bytes"
	"crypto/sha256"
	"encoding/hex"
	"math/rand"
	"strings"
	"sync"
	"testing"

	"ledgerline/api"
)

// want is what FIPS 180-4 has, by the library of the language.
func want(b []byte) api.Hash {
	return api.Hash(sha256.Sum256(b))
}

// drawn draws n bytes; each seed draws the same ones always.
func drawn(n int, seed int64) []byte {
	b := make([]byte, n)
	rand.New(rand.NewSource(seed)).Read(b)
	return b
}

func TestP201SumsThatAreKnown(t *testing.T) {
	for text, sum := range map[string]string{
		"":    "e3b0c44298fc1c149afbf4c8996fb92427ae41e4649b934ca495991b7852b855",
		"abc": "ba7816bf8f01cfea414140de5dae2223b00361a396177a9cb410ff61f20015ad",
		"abcdbcdecdefdefgefghfghighijhijkijkljklmklmnlmnomnopnopq":                                                         "248d6a61d20638b8e5c026930c3e6039a33ce45964ff2167f6ecedd419db06c1",
		"abcdefghbcdefghicdefghijdefghijkefghijklfghijklmghijklmnhijklmnoijklmnopjklmnopqklmnopqrlmnopqrsmnopqrstnopqrstu": "cf5b16a778af8380036ce59e7b0492370b249b11e8f07a51afac45037afee9d1",
		strings.Repeat("a", 1000000): "cdc76e5c9914fb9281a1c7e284d73e67f1809a48a497200e046d39ccc7112cd0",
	} {
		if got := Hex(Sum([]byte(text))); got != sum {
			t.Errorf("a text of %d bytes: %s, not %s", len(text), got, sum)
		}
	}
}

func TestP201Example(t *testing.T) {
	if got := Hex(Sum([]byte("a"), []byte("bc"))); !strings.HasPrefix(got, "ba7816bf") {
		t.Error(got)
	}
}

func TestP201SumOfEachLength(t *testing.T) {
	b := drawn(1100, 1)
	for n := range len(b) + 1 {
		if got := Sum(b[:n]); got != want(b[:n]) {
			t.Fatalf("%d bytes: %x", n, got)
		}
	}
}

func TestP201SumOfEachLengthOfOneByte(t *testing.T) {
	for _, x := range []byte{0, 1, 0x80, 255} {
		b := bytes.Repeat([]byte{x}, 300)
		for n := range len(b) + 1 {
			if got := Sum(b[:n]); got != want(b[:n]) {
				t.Fatalf("%d times %d: %x", n, x, got)
			}
		}
	}
}

// TestP201LikeBlocks: rows of blocks in which some are as the one ahead, or as one far ahead, or noughts, or unlike it in one bit.
func TestP201LikeBlocks(t *testing.T) {
	blocks := [][]byte{make([]byte, 64), drawn(64, 2), drawn(64, 3), drawn(64, 3), drawn(64, 3)}
	blocks[3][0] ^= 1
	blocks[4][63] ^= 128
	source := rand.New(rand.NewSource(4))
	for range 500 {
		var b []byte
		for range source.Intn(9) {
			b = append(b, blocks[source.Intn(len(blocks))]...)
		}
		b = append(b, blocks[source.Intn(len(blocks))][:source.Intn(64)]...)
		if got := Sum(b); got != want(b) {
			t.Fatalf("%x: %x", b, got)
		}
	}
}

// TestP201DataThatLooksLikePadding: the padding's block may be as the block ahead of it.
func TestP201DataThatLooksLikePadding(t *testing.T) {
	b := make([]byte, 64)
	b[0], b[62] = 0x80, 2 // what stands behind these 64 bytes: 512 bits
	if got := Sum(b); got != want(b) {
		t.Errorf("%x", got)
	}
	if Sum(b[:1]) == Sum(nil) || Sum(b[:2]) == Sum(b[:1]) {
		t.Error("a byte more does not count")
	}
}

// TestP201LongerThanLowBits: 2^29 bytes are 2^32 bits, more than the lower half of the length holds.
func TestP201LongerThanLowBits(t *testing.T) {
	if testing.Short() {
		t.Skip("sums 512 MiB")
	}
	part := drawn(1<<20, 5)
	parts := [][]byte{[]byte("front")}
	for range 512 {
		parts = append(parts, part)
	}
	h := sha256.New()
	for _, p := range parts {
		h.Write(p)
	}
	if got := Sum(parts...); !bytes.Equal(got[:], h.Sum(nil)) {
		t.Errorf("%x", got)
	}
}

func TestP201Hex(t *testing.T) {
	if got := Hex(api.Hash{}); got != strings.Repeat("0", 64) {
		t.Errorf("of noughts: %q", got)
	}
	for i := range 32 {
		for x := range 256 {
			h := want([]byte{byte(i)})
			h[i] = byte(x)
			if got := Hex(h); got != hex.EncodeToString(h[:]) {
				t.Fatalf("%x: %q", h, got)
			}
		}
	}
}

func TestP202Cuts(t *testing.T) {
	b := drawn(200, 6)
	whole := want(b)
	for i := range len(b) + 1 {
		for j := i; j <= len(b); j++ {
			if Sum(b[:i], b[i:j], b[j:]) != whole {
				t.Fatalf("cut at %d and %d", i, j)
			}
		}
	}
}

func TestP202CutsOfAnySize(t *testing.T) {
	source := rand.New(rand.NewSource(7))
	for range 500 {
		b := drawn(source.Intn(2000), source.Int63())
		most := 1 + source.Intn(200)
		var parts [][]byte
		for rest := b; len(rest) > 0; {
			n := min(source.Intn(most+1), len(rest))
			parts = append(parts, rest[:n])
			rest = rest[n:]
		}
		if got := Sum(parts...); got != want(b) {
			t.Fatalf("%d bytes in %d parts: %x", len(b), len(parts), got)
		}
	}
}

func TestP202ByteByByte(t *testing.T) {
	b := drawn(300, 8)
	parts := make([][]byte, len(b))
	for i := range b {
		parts[i] = b[i : i+1]
	}
	for n := range len(b) + 1 {
		if Sum(parts[:n]...) != want(b[:n]) {
			t.Fatalf("%d parts of a byte", n)
		}
	}
}

func TestP202PartsOfNothing(t *testing.T) {
	none := want(nil)
	for _, parts := range [][][]byte{nil, {}, {nil}, {{}}, {nil, {}, nil}, make([][]byte, 1000)} {
		if got := Sum(parts...); got != none {
			t.Errorf("%d parts: %x", len(parts), got)
		}
	}
	if Sum() != none {
		t.Error("no parts")
	}
	b := drawn(128, 9)
	if Sum(nil, b[:64], nil, []byte{}, b[64:], nil) != want(b) {
		t.Error("between others")
	}
}

func TestP202WhereACutIs(t *testing.T) {
	if Sum([]byte("ab"), []byte("c")) != Sum([]byte("a"), []byte("bc")) {
		t.Error("it counts")
	}
}

func TestP201OrderOfParts(t *testing.T) {
	if Sum([]byte("a"), []byte("b")) == Sum([]byte("b"), []byte("a")) {
		t.Error("it does not count")
	}
}

func TestP2SumLeavesWhatItIsHanded(t *testing.T) {
	room := drawn(300, 10)
	was := bytes.Clone(room)
	first, second := room[:70], room[100:164]
	parts := append(make([][]byte, 0, 5), first, nil, second)
	Sum(parts...)
	Sum(parts[2:]...)
	if !bytes.Equal(room, was) {
		t.Error("bytes, or their spare room, have changed")
	}
	if len(parts[0]) != 70 || parts[1] != nil || len(parts[2]) != 64 || &parts[0][0] != &room[0] || &parts[2][0] != &room[100] {
		t.Error("the list has changed")
	}
	for _, p := range parts[3:5] {
		if p != nil {
			t.Error("the list's spare room has changed")
		}
	}
}

func TestP2SumKeepsNothing(t *testing.T) {
	b := drawn(128, 11)
	h := Sum(b)
	was := h
	for i := range b {
		b[i] ^= 255
	}
	if h != was || Sum(b) != want(b) {
		t.Error("what was handed in is kept")
	}
}

func TestP3SameCallsSameAnswers(t *testing.T) {
	b := drawn(500, 12)
	h := Sum(b)
	for n := range len(b) {
		Sum(b[:n])
		if Sum(b) != h || Hex(h) != hex.EncodeToString(h[:]) {
			t.Fatalf("behind a sum of %d bytes: another one", n)
		}
	}
}

func TestP7SideBySide(t *testing.T) {
	var all sync.WaitGroup
	right := make([]bool, 16)
	for i := range right {
		all.Go(func() {
			b := drawn(1000, int64(i))
			right[i] = Sum(b) == want(b)
		})
	}
	all.Wait()
	for i, ok := range right {
		if !ok {
			t.Errorf("the %d. one", i)
		}
	}
}

func TestP1AnyParts(t *testing.T) {
	source := rand.New(rand.NewSource(13))
	for range 2000 {
		parts := make([][]byte, source.Intn(6))
		for i := range parts {
			parts[i] = drawn(source.Intn(140), source.Int63())
		}
		if got := Sum(parts...); got != want(bytes.Join(parts, nil)) {
			t.Fatalf("%x: %x", parts, got)
		}
	}
}
