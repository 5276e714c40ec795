package sha

import (
	"bytes"
	"crypto/sha256"
	"encoding/hex"
	"math/big"
	"strings"
	"testing"
)

// edges are lengths at both sides of where the padding, or the message, goes over into one more block.
var edges = []int{0, 1, 3, 54, 55, 56, 57, 62, 63, 64, 65, 118, 119, 120, 127, 128, 129, 183, 184, 191, 192, 193, 1000, 4096, 8192}

// message is so many bytes that don't repeat at a block's end.
func message(size int) []byte {
	b := make([]byte, size)
	for i := range b {
		b[i] = byte(i*7 + i/64*13 + i>>8)
	}
	return b
}

// want is a digest that is written in hex figures.
func want(t *testing.T, figures string) [32]byte {
	t.Helper()
	b, err := hex.DecodeString(figures)
	if err != nil || len(b) != 32 {
		t.Fatalf("no digest: %s", figures)
	}
	return [32]byte(b)
}

// taken is a hash that has taken pieces in.
func taken(pieces ...[]byte) *Hash {
	h := New()
	for _, p := range pieces {
		h.Write(p)
	}
	return h
}

// P2.1 (S1): the chapter's example, and digests that were published with the algorithm.
func TestSumKnown(t *testing.T) {
	for _, c := range []struct{ text, digest string }{
		{"", "e3b0c44298fc1c149afbf4c8996fb92427ae41e4649b934ca495991b7852b855"},
		{"a", "ca978112ca1bbdcafac231b39a23dc4da786eff8147c4e72b9807785afee48bb"},
		{"abc", "ba7816bf8f01cfea414140de5dae2223b00361a396177a9cb410ff61f20015ad"},
		{"message digest", "f7846f55cf23e14eebeab5b4e1550cad5b509e3348fbc4efa3a1413d393cb650"},
		{"The quick brown fox jumps over the lazy dog", "d7a8fbb307d7809469ca9abcb0082e4f8d5651e46d3cdb762d02d0bf37c9e592"},
		{"abcdbcdecdefdefgefghfghighijhijkijkljklmklmnlmnomnopnopq", "248d6a61d20638b8e5c026930c3e6039a33ce45964ff2167f6ecedd419db06c1"},
		{"abcdefghbcdefghicdefghijdefghijkefghijklfghijklmghijklmnhijklmnoijklmnopjklmnopqklmnopqrlmnopqrsmnopqrstnopqrstu", "cf5b16a778af8380036ce59e7b0492370b249b11e8f07a51afac45037afee9d1"},
		{strings.Repeat("a", 1000000), "cdc76e5c9914fb9281a1c7e284d73e67f1809a48a497200e046d39ccc7112cd0"},
	} {
		name := c.text[:min(20, len(c.text))]
		if got := Sum([]byte(c.text)); got != want(t, c.digest) {
			t.Errorf("Sum(%q..): %x; want %s", name, got, c.digest)
		}
		if got := taken([]byte(c.text)).Sum(); got != want(t, c.digest) {
			t.Errorf("a hash of %q..: %x; want %s", name, got, c.digest)
		}
	}
}

// P2.1 (S1): no bytes, handed in as nil or not.
func TestSumOfNothing(t *testing.T) {
	none := want(t, "e3b0c44298fc1c149afbf4c8996fb92427ae41e4649b934ca495991b7852b855")
	for name, got := range map[string][32]byte{
		"Sum(nil)":                  Sum(nil),
		"Sum of an empty list":      Sum([]byte{}),
		"New's Sum":                 New().Sum(),
		"Sum behind Write(nil)":     taken(nil).Sum(),
		"Sum behind empty pieces":   taken([]byte{}, nil, []byte{}).Sum(),
		"Sum of a list cut to none": Sum([]byte("abc")[:0]),
	} {
		if got != none {
			t.Errorf("%s: %x", name, got)
		}
	}
}

// P2.1 (S1): every length around the first blocks' ends, and longer ones, held against the library's SHA-256.
func TestSumLengths(t *testing.T) {
	for size := range 300 {
		if got := Sum(message(size)); got != sha256.Sum256(message(size)) {
			t.Errorf("Sum of %d bytes: %x", size, got)
		}
	}
	for _, size := range edges {
		for _, fill := range []byte{0, 128, 255} {
			b := bytes.Repeat([]byte{fill}, size)
			if got := Sum(b); got != sha256.Sum256(b) {
				t.Errorf("Sum of %d bytes %d: %x", size, fill, got)
			}
		}
	}
}

// P2.1 (S1): lengths whose number of bits takes three and four bytes.
func TestSumLong(t *testing.T) {
	for _, size := range []int{1<<13 - 1, 1 << 13, 1<<16 + 7, 1<<21 - 1, 1 << 21, 1<<21 + 1, 1<<22 + 55} {
		if got := Sum(message(size)); got != sha256.Sum256(message(size)) {
			t.Errorf("Sum of %d bytes: %x", size, got)
		}
	}
}

// P2.1 (S1): the padded message is whole blocks, with the number of bits at its end, also where that takes more than four bytes.
func TestPadding(t *testing.T) {
	for _, size := range []uint64{0, 1, 55, 56, 63, 64, 119, 120, 128, 1 << 29, 1<<29 + 55, 1<<31 - 1, 1<<31 - 8} {
		p := padding(size)
		noughts := p[1 : len(p)-8]
		bits := new(big.Int).SetBytes(p[len(p)-8:]).Uint64()
		if (size+uint64(len(p)))%64 != 0 || p[0] != 128 || len(noughts) > 63 || len(bytes.Trim(noughts, "\x00")) > 0 || bits != 8*size {
			t.Errorf("padding of %d bytes: %v", size, p)
		}
	}
}

// P2.1 (S1): the constants are what their words say.
func TestConstants(t *testing.T) {
	primes := []int64{}
	for n := int64(2); len(primes) < 64; n++ {
		if big.NewInt(n).ProbablyPrime(0) {
			primes = append(primes, n)
		}
	}
	for i, p := range primes {
		if !isRoot(constants[i], p, 3) {
			t.Errorf("constant %d is not of the cube root of %d", i, p)
		}
		if i < len(firstState) && !isRoot(firstState[i], p, 2) {
			t.Errorf("word %d of the first state is not of the square root of %d", i, p)
		}
	}
}

// isRoot tells whether a word is the first 32 bits behind the point of a number's root.
func isRoot(word uint32, n, power int64) bool {
	scaled := new(big.Int).Lsh(big.NewInt(n), uint(32*power))
	for whole := range n {
		root := big.NewInt(whole<<32 | int64(word))
		above := new(big.Int).Add(root, big.NewInt(1))
		low := new(big.Int).Exp(root, big.NewInt(power), nil)
		high := new(big.Int).Exp(above, big.NewInt(power), nil)
		if low.Cmp(scaled) <= 0 && high.Cmp(scaled) > 0 {
			return true
		}
	}
	return false
}

// P2.1 (S1): Sum tells the digest of all that was taken in, and changes nothing.
func TestSumChangesNothing(t *testing.T) {
	for _, size := range edges {
		h := taken(message(size))
		first, second := h.Sum(), h.Sum()
		if first != second || first != sha256.Sum256(message(size)) {
			t.Errorf("Sum told twice of %d bytes: %x, %x", size, first, second)
		}
		for _, more := range edges {
			h := taken(message(size))
			h.Sum()
			h.Write(message(more))
			all := append(message(size), message(more)...)
			if got := h.Sum(); got != sha256.Sum256(all) {
				t.Errorf("%d bytes, Sum, %d bytes: %x", size, more, got)
			}
		}
	}
	h := New()
	for i, b := range message(200) {
		if h.Sum() != sha256.Sum256(message(200)[:i]) {
			t.Fatalf("Sum of the first %d bytes", i)
		}
		h.Write([]byte{b})
	}
}

// P2.1 (S1): a Sum that was told stays as it is.
func TestSumIsKept(t *testing.T) {
	h := taken([]byte("abc"))
	told := h.Sum()
	h.Write(message(100))
	h.Sum()
	if told != sha256.Sum256([]byte("abc")) {
		t.Errorf("a digest that was told is now %x", told)
	}
	told[0] = 0
	if taken([]byte("abc")).Sum() != sha256.Sum256([]byte("abc")) {
		t.Error("a digest that is written into changes others")
	}
}

// P2.1 (S1), P2: hashes side by side know nothing of each other.
func TestSideBySide(t *testing.T) {
	one, two := New(), New()
	if one == two {
		t.Fatal("New tells one hash twice")
	}
	for i := range 50 {
		one.Write(message(i))
		two.Write(bytes.Repeat([]byte("x"), i+3))
		if i%7 == 0 {
			two.Sum()
			Sum(message(i))
		}
	}
	var a, b []byte
	for i := range 50 {
		a = append(a, message(i)...)
		b = append(b, bytes.Repeat([]byte("x"), i+3)...)
	}
	if one.Sum() != sha256.Sum256(a) || two.Sum() != sha256.Sum256(b) {
		t.Error("two hashes side by side")
	}
	if New().Sum() != Sum(nil) {
		t.Error("a new hash has taken something in")
	}
}

// P2.1 (S1): on a nil hash Write does nothing, and Sum tells 32 noughts.
func TestNil(t *testing.T) {
	var h *Hash
	for _, b := range [][]byte{nil, {}, []byte("abc"), message(64), message(200)} {
		h.Write(b)
		if h != nil || h.Sum() != [32]byte{} {
			t.Errorf("a nil hash behind %d bytes: %x", len(b), h.Sum())
		}
	}
	if New() == nil || New().Sum() == [32]byte{} {
		t.Error("New: as a nil hash")
	}
}

// Rule 4: bytes that are handed in are neither written into nor kept, and what lies behind their length is not read.
func TestArgumentsStay(t *testing.T) {
	for _, size := range edges {
		b := message(size + 64)
		Sum(b[:size])
		h := taken(b[:size])
		h.Sum()
		if !bytes.Equal(b, message(size+64)) {
			t.Errorf("%d bytes that were handed in were written into", size)
		}
		digest := sha256.Sum256(b[:size])
		for i := range b {
			b[i] ^= 255
		}
		if h.Sum() != digest {
			t.Errorf("%d bytes that were handed in are kept, or read behind their length", size)
		}
	}
}

// P2.2 (pieces): a message in two pieces, cut at every place.
func TestTwoPieces(t *testing.T) {
	for _, size := range []int{0, 1, 55, 56, 63, 64, 65, 119, 120, 127, 128, 129, 200} {
		m := message(size)
		for cut := range size + 1 {
			if got := taken(m[:cut], m[cut:]).Sum(); got != Sum(m) || got != sha256.Sum256(m) {
				t.Errorf("%d bytes and %d: %x", cut, size-cut, got)
			}
		}
	}
}

// P2.2 (pieces): three pieces, the middle one empty, up to a block's end, or over one or more of them.
func TestThreePieces(t *testing.T) {
	m := message(400)
	for first := range 130 {
		for _, second := range []int{0, 1, 2, 63 - first%64, 64 - first%64, 65 - first%64, 64, 65, 127, 128, 129, 192} {
			got := taken(m[:first], m[first:first+second], m[first+second:]).Sum()
			if got != sha256.Sum256(m) {
				t.Errorf("%d bytes, %d and the rest: %x", first, second, got)
			}
		}
	}
}

// P2.2 (pieces): pieces of one size each, with empty ones between.
func TestManyPieces(t *testing.T) {
	m := message(3001)
	for _, step := range []int{1, 2, 3, 7, 31, 32, 33, 55, 56, 63, 64, 65, 100, 127, 128, 129, 1000, 3000, 3001, 4000} {
		h := New()
		for at := 0; at < len(m); at += step {
			h.Write(m[at:min(at+step, len(m))])
			h.Write(nil)
		}
		if got := h.Sum(); got != Sum(m) || got != sha256.Sum256(m) {
			t.Errorf("pieces of %d: %x", step, got)
		}
	}
}

// P2.2 (pieces): however it is cut, and whoever asks between.
func FuzzPieces(f *testing.F) {
	f.Add([]byte("abc"), []byte{1, 1})
	f.Add(message(300), []byte{0, 64, 1, 63, 55, 8, 0})
	f.Fuzz(func(t *testing.T, m, cuts []byte) {
		h, left := New(), m
		for _, c := range cuts {
			n := min(int(c), len(left))
			h.Write(left[:n])
			left = left[n:]
			if h.Sum() != Sum(m[:len(m)-len(left)]) {
				t.Fatalf("the first %d bytes, cut as %v", len(m)-len(left), cuts)
			}
		}
		h.Write(left)
		if h.Sum() != sha256.Sum256(m) || Sum(m) != sha256.Sum256(m) {
			t.Fatalf("%d bytes, cut as %v", len(m), cuts)
		}
	})
}
