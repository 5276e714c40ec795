package aes

import (
	"bytes"
	stdaes "crypto/aes"
	"encoding/hex"
	"math/bits"
	"testing"

	"cofferdam/api"
)

// goodSizes are the lengths that a key may have.
var goodSizes = []int{16, 32}

// figures are bytes that are written in hex figures.
func figures(t *testing.T, text string) []byte {
	t.Helper()
	b, err := hex.DecodeString(text)
	if err != nil {
		t.Fatalf("no hex figures: %s", text)
	}
	return b
}

// filled is so many bytes that differ from each other; another seed makes others.
func filled(size, seed int) []byte {
	b := make([]byte, size)
	for i := range b {
		b[i] = byte(i*7 + i>>5*13 + seed*31 + seed>>3)
	}
	return b
}

// cipher is one of a key that is right.
func cipher(t *testing.T, key []byte) *Cipher {
	t.Helper()
	c, e := New(key)
	if e != api.OK || c == nil {
		t.Fatalf("New of a key of %d bytes: %v, %v", len(key), c, e)
	}
	return c
}

// library is the library's answers for a block: encrypted, decrypted.
func library(t *testing.T, key []byte, b [16]byte) (there, back [16]byte) {
	t.Helper()
	c, err := stdaes.NewCipher(key)
	if err != nil {
		t.Fatal(err)
	}
	c.Encrypt(there[:], b[:])
	c.Decrypt(back[:], b[:])
	return there, back
}

// hold holds a cipher of a key against the library, and against itself both ways (P4.1, P4.2).
func hold(t *testing.T, key []byte, b [16]byte) {
	t.Helper()
	c := cipher(t, key)
	there, back := library(t, key, b)
	if got := c.Encrypt(b); got != there || c.Decrypt(got) != b {
		t.Errorf("key %x: Encrypt(%x): %x, and back %x; want %x", key, b, got, c.Decrypt(got), there)
	}
	if got := c.Decrypt(b); got != back || c.Encrypt(got) != b {
		t.Errorf("key %x: Decrypt(%x): %x, and back %x; want %x", key, b, got, c.Encrypt(got), back)
	}
}

// times is the product of two bytes, by the chapter's words: bit by bit, modulo 0x11b.
func times(a, b byte) byte {
	product := 0
	for bit := range 8 {
		if b>>bit&1 == 1 {
			product ^= int(a) << bit
		}
	}
	for bit := 14; bit >= 8; bit-- {
		if product>>bit&1 == 1 {
			product ^= 0x11b << (bit - 8)
		}
	}
	return byte(product)
}

// defined is S of a byte, by the chapter's words.
func defined(x byte) byte {
	inverse := byte(0)
	for y := range 256 {
		if times(x, byte(y)) == 1 {
			inverse = byte(y)
		}
	}
	s := byte(0x63)
	for turn := range 5 {
		s ^= bits.RotateLeft8(inverse, turn)
	}
	return s
}

// P4.1 (A1): the chapter's example, and blocks that were published (FIPS 197, SP 800-38A, and keys and blocks of noughts), both ways.
func TestKnown(t *testing.T) {
	const (
		short = "2b7e151628aed2a6abf7158809cf4f3c"
		long  = "603deb1015ca71be2b73aef0857d77811f352c073b6108d72d9810a30914dff4"
	)
	for _, c := range []struct{ key, plain, sealed string }{
		{"000102030405060708090a0b0c0d0e0f", "00112233445566778899aabbccddeeff", "69c4e0d86a7b0430d8cdb78070b4c55a"},
		{"000102030405060708090a0b0c0d0e0f101112131415161718191a1b1c1d1e1f", "00112233445566778899aabbccddeeff", "8ea2b7ca516745bfeafc49904b496089"},
		{short, "3243f6a8885a308d313198a2e0370734", "3925841d02dc09fbdc118597196a0b32"},
		{short, "6bc1bee22e409f96e93d7e117393172a", "3ad77bb40d7a3660a89ecaf32466ef97"},
		{short, "ae2d8a571e03ac9c9eb76fac45af8e51", "f5d3d58503b9699de785895a96fdbaaf"},
		{short, "30c81c46a35ce411e5fbc1191a0a52ef", "43b1cd7f598ece23881b00e3ed030688"},
		{short, "f69f2445df4f9b17ad2b417be66c3710", "7b0c785e27e8ad3f8223207104725dd4"},
		{long, "6bc1bee22e409f96e93d7e117393172a", "f3eed1bdb5d2a03c064b5a7e3db181f8"},
		{long, "ae2d8a571e03ac9c9eb76fac45af8e51", "591ccb10d410ed26dc5ba74a31362870"},
		{long, "30c81c46a35ce411e5fbc1191a0a52ef", "b6ed21b99ca6f4f9f153e7b1beafed1d"},
		{long, "f69f2445df4f9b17ad2b417be66c3710", "23304b7a39f9f3ff067d8d8f9e24ecc7"},
		{"00000000000000000000000000000000", "00000000000000000000000000000000", "66e94bd4ef8a2c3b884cfa59ca342b2e"},
		{"0000000000000000000000000000000000000000000000000000000000000000", "00000000000000000000000000000000", "dc95c078a2408989ad48a21492842087"},
		{"00000000000000000000000000000000", "ffffffffffffffffffffffffffffffff", "3f5b8cc9ea855a0afa7347d23e8d664e"},
	} {
		a := cipher(t, figures(t, c.key))
		plain, sealed := [16]byte(figures(t, c.plain)), [16]byte(figures(t, c.sealed))
		if got := a.Encrypt(plain); got != sealed {
			t.Errorf("key %s: Encrypt(%s): %x; want %s", c.key, c.plain, got, c.sealed)
		}
		if got := a.Decrypt(sealed); got != plain {
			t.Errorf("key %s: Decrypt(%s): %x; want %s", c.key, c.sealed, got, c.plain)
		}
	}
}

// P4.1 (A1): the chapter's examples of S, each of its bytes against its definition, and each back by a cipher's other way.
func TestSubstitutes(t *testing.T) {
	s := substitutes()
	if s[0] != 0x63 || s[0x53] != 0xed {
		t.Errorf("S(0) is %#x, S(0x53) is %#x; want 0x63, 0xed", s[0], s[0x53])
	}
	for _, size := range goodSizes {
		c := cipher(t, filled(size, 1))
		for x := range 256 {
			if want := defined(byte(x)); s[x] != want {
				t.Errorf("S(%#x) is %#x; want %#x", x, s[x], want)
			}
			if got := c.back[s[x]]; got != byte(x) {
				t.Errorf("back from S(%#x): %#x", x, got)
			}
		}
	}
}

// P4.1 (A1): each byte goes through S, at each place of a block and of a key.
func TestEachByteEverywhere(t *testing.T) {
	for _, size := range goodSizes {
		for x := range 256 {
			for place := range size {
				key, b := filled(size, 2), [16]byte(filled(16, 3))
				b[place%16] = byte(x)
				hold(t, key, b)
				key[place] = byte(x)
				hold(t, key, b)
			}
		}
	}
}

// P4.1 (A1): each byte is doubled as it is multiplied by 2.
func TestDouble(t *testing.T) {
	for x := range 256 {
		if got, want := double(byte(x)), times(byte(x), 2); got != want {
			t.Errorf("double(%#x): %#x; want %#x", x, got, want)
		}
	}
}

// P4.1 (A1): a column is mixed as the chapter says, each byte of it at each place; unmix is back.
func TestMix(t *testing.T) {
	for x := range 256 {
		for place := range 4 {
			v := [4]byte(filled(4, x))
			v[place] = byte(x)
			a, b, c, d := v[0], v[1], v[2], v[3]
			want := [4]byte{
				times(2, a) ^ times(3, b) ^ c ^ d,
				a ^ times(2, b) ^ times(3, c) ^ d,
				a ^ b ^ times(2, c) ^ times(3, d),
				times(3, a) ^ b ^ c ^ times(2, d),
			}
			if got := mix(v); got != want || unmix(got) != v || mix(unmix(v)) != v {
				t.Errorf("mix(%x): %x, unmix of it %x; want %x", v, got, unmix(got), want)
			}
		}
	}
}

// P4.1 (A1): row r is turned left by r; three times as far is back.
func TestTurnRows(t *testing.T) {
	b := [16]byte{0, 1, 2, 3, 4, 5, 6, 7, 8, 9, 10, 11, 12, 13, 14, 15}
	turned := [16]byte{0, 5, 10, 15, 4, 9, 14, 3, 8, 13, 2, 7, 12, 1, 6, 11}
	if got := turnRows(b, 1); got != turned {
		t.Errorf("rows turned: %v; want %v", got, turned)
	}
	if got := turnRows(turned, 3); got != b {
		t.Errorf("rows turned back: %v; want %v", got, b)
	}
}

// P4.1 (A1): how many round keys there are, and the words that were published (FIPS 197): the first and the last ones, and some between.
func TestRoundKeys(t *testing.T) {
	for _, c := range []struct {
		key    string
		rounds int
		words  map[int]string
	}{
		{"2b7e151628aed2a6abf7158809cf4f3c", 10, map[int]string{
			0: "2b7e1516", 3: "09cf4f3c", 4: "a0fafe17", 5: "88542cb1", 8: "f2c295f2", 36: "ac7766f3", 40: "d014f9a8", 41: "c9ee2589", 42: "e13f0cc8", 43: "b6630ca6",
		}},
		{"603deb1015ca71be2b73aef0857d77811f352c073b6108d72d9810a30914dff4", 14, map[int]string{
			0: "603deb10", 7: "0914dff4", 8: "9ba35411", 12: "a8b09c1a", 16: "d59aecb8", 20: "b5a9328a", 56: "fe4890d1", 57: "e6188d0b", 58: "046df344", 59: "706c631e",
		}},
	} {
		a := cipher(t, figures(t, c.key))
		if a.rounds != c.rounds {
			t.Errorf("key %s: %d rounds; want %d", c.key, a.rounds, c.rounds)
		}
		for i, word := range c.words {
			if got := a.keys[i/4][i%4*4 : i%4*4+4]; !bytes.Equal(got, figures(t, word)) {
				t.Errorf("key %s: word %d is %x; want %s", c.key, i, got, word)
			}
		}
	}
}

// P4.1 (A1), P4.2: the edges: keys and blocks of noughts, of 255s, of any one byte, each with each.
func TestEdges(t *testing.T) {
	edges := []byte{0, 1, 0x7f, 0x80, 0x63, 0x1b, 0xfe, 255}
	for _, size := range goodSizes {
		for _, k := range edges {
			for _, x := range edges {
				hold(t, bytes.Repeat([]byte{k}, size), [16]byte(bytes.Repeat([]byte{x}, 16)))
			}
		}
	}
}

// P4.1 (A1), P4.2: each bit of a block, and of a key, alone, and all up to it.
func TestBits(t *testing.T) {
	for _, size := range goodSizes {
		key, grown := make([]byte, size), make([]byte, size)
		var b, grownBlock [16]byte
		for bit := range 8 * size {
			mark := byte(0x80 >> (bit % 8))
			key[bit/8], b[bit/8%16] = mark, mark
			grown[bit/8] |= mark
			grownBlock[bit/8%16] |= mark
			hold(t, key, [16]byte{})
			hold(t, grown, [16]byte{})
			hold(t, make([]byte, size), b)
			hold(t, make([]byte, size), grownBlock)
			hold(t, key, b)
			key[bit/8], b[bit/8%16] = 0, 0
		}
	}
}

// P4.1 (A1), P4.2: chains, each block the answer of the one ahead, each key made of answers.
func TestChains(t *testing.T) {
	for _, size := range goodSizes {
		key, b := filled(size, 4), [16]byte(filled(16, 5))
		for range 2000 {
			hold(t, key, b)
			b, _ = library(t, key, b)
			key = append(key[16:], b[:]...)
			b, _ = library(t, key, b)
		}
	}
}

// P4.2: many blocks through one cipher, there and back in either order.
func TestBack(t *testing.T) {
	for _, size := range goodSizes {
		c := cipher(t, filled(size, 6))
		first := [16]byte(filled(16, 7))
		b := first
		for range 1000 {
			b = c.Encrypt(b)
		}
		for range 2000 {
			b = c.Decrypt(b)
		}
		for range 1000 {
			b = c.Encrypt(b)
		}
		if b != first {
			t.Errorf("a key of %d bytes: there and back: %x; want %x", size, b, first)
		}
	}
}

// P4.1 (A1): a key of any other length is none, and no cipher comes with the error.
func TestWrongKeys(t *testing.T) {
	if c, e := New(nil); c != nil || e != api.ErrAesKey {
		t.Errorf("New without a key: %v, %v; want ErrAesKey", c, e)
	}
	sizes := []int{127, 128, 256, 272, 288, 1000, 4096, 65536, 65552, 1 << 20}
	for size := range 100 {
		sizes = append(sizes, size)
	}
	for _, size := range sizes {
		if size == 16 || size == 32 {
			continue
		}
		for _, key := range [][]byte{make([]byte, size), filled(size+32, 8)[:size]} {
			if c, e := New(key); c != nil || e != api.ErrAesKey {
				t.Errorf("New of a key of %d bytes: %v, %v; want ErrAesKey", size, c, e)
			}
		}
	}
}

// P4.1 (A1): a nil cipher, that of an error too, tells 16 noughts, both ways.
func TestNil(t *testing.T) {
	var none *Cipher
	wrong, _ := New(make([]byte, 24))
	for _, c := range []*Cipher{none, wrong} {
		for _, b := range [][16]byte{{}, {1}, [16]byte(filled(16, 9)), [16]byte(bytes.Repeat([]byte{255}, 16))} {
			if c.Encrypt(b) != [16]byte{} || c.Decrypt(b) != [16]byte{} {
				t.Errorf("a nil cipher tells more than noughts of %x", b)
			}
		}
	}
}

// P4.1 (A1), rule 4: the key stays as it is, with what lies behind it; what its owner writes into it behind New changes no answer.
func TestKeyStaysItsOwners(t *testing.T) {
	for _, size := range goodSizes {
		memory := filled(100, 10)
		c := cipher(t, memory[:size])
		b := [16]byte(filled(16, 11))
		there, back := library(t, filled(100, 10)[:size], b)
		for range 2 {
			if c.Encrypt(b) != there || c.Decrypt(b) != back {
				t.Errorf("a key of %d bytes: another answer than before", size)
			}
			if !bytes.Equal(memory, filled(100, 10)) {
				t.Errorf("a key of %d bytes is changed, or what lies behind it", size)
			}
		}
		clear(memory)
		if c.Encrypt(b) != there || c.Decrypt(b) != back {
			t.Errorf("a key of %d bytes: what its owner writes is heard", size)
		}
	}
}

// P4.1 (A1), P2: ciphers beside each other, of other keys, of like keys and of other lengths, don't hear each other, nor a key that is wrong.
func TestSideBySide(t *testing.T) {
	keys := [][]byte{filled(16, 12), filled(32, 12), filled(32, 13), filled(16, 13), filled(16, 12)}
	var ciphers []*Cipher
	for _, key := range keys {
		ciphers = append(ciphers, cipher(t, key))
		New(key[:15])
	}
	for seed := range 50 {
		b := [16]byte(filled(16, seed))
		for i, c := range ciphers {
			there, back := library(t, keys[i], b)
			if c.Encrypt(b) != there || c.Decrypt(b) != back {
				t.Errorf("cipher %d beside others: another answer", i)
			}
		}
	}
}

// P4.1 (A1), P2: a call hangs on no call ahead of it on the same cipher, and writes nothing into the block that is handed in.
func TestSameAgain(t *testing.T) {
	for _, size := range goodSizes {
		c := cipher(t, filled(size, 14))
		b := [16]byte(filled(16, 15))
		there, back := c.Encrypt(b), c.Decrypt(b)
		for seed := range 20 {
			c.Encrypt([16]byte(filled(16, seed)))
			c.Decrypt([16]byte(filled(16, seed+100)))
			if c.Encrypt(b) != there || c.Decrypt(b) != back || b != [16]byte(filled(16, 15)) {
				t.Errorf("a key of %d bytes: the same block, another answer", size)
			}
		}
	}
}

// P4.1, P4.2: any key and block.
func FuzzBlocks(f *testing.F) {
	f.Add(filled(16, 1), filled(16, 2))
	f.Add(filled(32, 3), filled(16, 4))
	f.Add(filled(24, 5), filled(16, 6))
	f.Add([]byte{}, []byte{})
	f.Fuzz(func(t *testing.T, key, data []byte) {
		var b [16]byte
		copy(b[:], data)
		if len(key) == 16 || len(key) == 32 {
			hold(t, key, b)
			return
		}
		if c, e := New(key); c != nil || e != api.ErrAesKey {
			t.Errorf("New of a key of %d bytes: %v, %v; want ErrAesKey", len(key), c, e)
		}
	})
}
