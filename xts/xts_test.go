package xts

import (
	"bytes"
	stdaes "crypto/aes"
	"encoding/hex"
	"math/big"
	"testing"

	"cofferdam/api"
)

// goodSizes are the lengths that a key may have.
var goodSizes = []int{32, 64}

// sectors are the least numbers, the greatest ones, and some in which one byte alone is not nought.
var sectors = []uint64{0, 1, 2, 7, 255, 256, 0xff00, 1 << 16, 1 << 24, 1<<32 - 1, 1 << 32, 1 << 40, 1 << 48, 1 << 56, 255 << 56, 1 << 63, 1<<63 - 1, 1<<64 - 2, 1<<64 - 1}

// figures are bytes that are written in hex figures.
func figures(t *testing.T, text string) []byte {
	t.Helper()
	b, err := hex.DecodeString(text)
	if err != nil {
		t.Fatalf("no hex figures: %s", text)
	}
	return b
}

// filled is so many bytes that differ from each other; another seed makes others.
func filled(size, seed int) []byte {
	b := make([]byte, size)
	for i := range b {
		b[i] = byte(i*7 + i>>5*13 + seed*31 + seed>>3)
	}
	return b
}

// upwards is so many bytes, each one more than the one ahead of it.
func upwards(size int, first byte) []byte {
	b := make([]byte, size)
	for i := range b {
		b[i] = first + byte(i)
	}
	return b
}

// cipher is one of a key that is right.
func cipher(t *testing.T, key []byte) *Cipher {
	t.Helper()
	c, e := New(key)
	if e != api.OK || c == nil {
		t.Fatalf("New of a key of %d bytes: %v, %v", len(key), c, e)
	}
	return c
}

// sealed is what Seal tells of data that is right.
func sealed(t *testing.T, c *Cipher, sector uint64, data []byte) []byte {
	t.Helper()
	s, e := c.Seal(sector, data)
	if e != api.OK || len(s) != len(data) {
		t.Fatalf("Seal(%d, %d bytes): %d bytes, %v", sector, len(data), len(s), e)
	}
	return s
}

// opened is what Open tells of data that is right.
func opened(t *testing.T, c *Cipher, sector uint64, data []byte) []byte {
	t.Helper()
	o, e := c.Open(sector, data)
	if e != api.OK || len(o) != len(data) {
		t.Fatalf("Open(%d, %d bytes): %d bytes, %v", sector, len(data), len(o), e)
	}
	return o
}

// turned is the bytes the other way round.
func turned(b []byte) []byte {
	var back []byte
	for _, octet := range b {
		back = append([]byte{octet}, back...)
	}
	return back
}

// tweakOf is the tweak of a block by the chapter's words, with numbers of any size: the first one, so often doubled modulo x^128 + 0x87.
func tweakOf(t *testing.T, key []byte, sector uint64, block int) []byte {
	t.Helper()
	l, err := stdaes.NewCipher(key[len(key)/2:])
	if err != nil {
		t.Fatal(err)
	}
	var b [16]byte
	new(big.Int).SetUint64(sector).FillBytes(b[:])
	copy(b[:], turned(b[:]))
	l.Encrypt(b[:], b[:])
	tweak := new(big.Int).SetBytes(turned(b[:]))
	modulus := new(big.Int).SetBit(big.NewInt(0x87), 128, 1)
	for range block {
		if tweak.Lsh(tweak, 1); tweak.Bit(128) == 1 {
			tweak.Xor(tweak, modulus)
		}
	}
	return turned(tweak.FillBytes(b[:]))
}

// meant is the sector, sealed and opened, by the chapter's words and the library's AES.
func meant(t *testing.T, key []byte, sector uint64, data []byte) (there, back []byte) {
	t.Helper()
	k, err := stdaes.NewCipher(key[:len(key)/2])
	if err != nil {
		t.Fatal(err)
	}
	one := func(do func(to, from []byte), tweak, b []byte) []byte {
		var x [16]byte
		for i := range x {
			x[i] = b[i] ^ tweak[i]
		}
		do(x[:], x[:])
		for i := range x {
			x[i] ^= tweak[i]
		}
		return x[:]
	}
	for block := range len(data) / 16 {
		tweak, b := tweakOf(t, key, sector, block), data[16*block:16*block+16]
		there = append(there, one(k.Encrypt, tweak, b)...)
		back = append(back, one(k.Decrypt, tweak, b)...)
	}
	return there, back
}

// hold holds a cipher of a key against what is meant, and against itself both ways (P5.1, P5.2).
func hold(t *testing.T, key []byte, sector uint64, data []byte) {
	t.Helper()
	c := cipher(t, key)
	there, back := meant(t, key, sector, data)
	s, o := sealed(t, c, sector, data), opened(t, c, sector, data)
	if !bytes.Equal(s, there) {
		t.Errorf("key %x: Seal(%d, %x): %x; want %x", key, sector, data, s, there)
	}
	if !bytes.Equal(o, back) {
		t.Errorf("key %x: Open(%d, %x): %x; want %x", key, sector, data, o, back)
	}
	if !bytes.Equal(opened(t, c, sector, s), data) || !bytes.Equal(sealed(t, c, sector, o), data) {
		t.Errorf("key %x, sector %d: there and back is another than %x", key, sector, data)
	}
}

// wrong asks that no cipher comes of a key.
func wrong(t *testing.T, key []byte) {
	t.Helper()
	if c, e := New(key); c != nil || e != api.ErrXtsKey {
		t.Errorf("New of a key of %d bytes: %v, %v; want ErrXtsKey", len(key), c, e)
	}
}

// refused asks for one error, and no bytes with it, of both ways.
func refused(t *testing.T, c *Cipher, sector uint64, data []byte, want api.Errno) {
	t.Helper()
	if s, e := c.Seal(sector, data); len(s) != 0 || e != want {
		t.Errorf("Seal(%d, %d bytes): %d bytes, %v; want %v", sector, len(data), len(s), e, want)
	}
	if o, e := c.Open(sector, data); len(o) != 0 || e != want {
		t.Errorf("Open(%d, %d bytes): %d bytes, %v; want %v", sector, len(data), len(o), e, want)
	}
}

// P5.1 (X1): sectors that were published (IEEE 1619): the whole of the short ones, the first and the last bytes of those of 512.
func TestPublished(t *testing.T) {
	const (
		twice = "4444444444444444444444444444444444444444444444444444444444444444"
		short = "2718281828459045235360287471352631415926535897932384626433832795"
		long  = "2718281828459045235360287471352662497757247093699959574966967627" + "3141592653589793238462643383279502884197169399375105820974944592"
	)
	run := hex.EncodeToString(upwards(512, 0))
	for _, c := range []struct {
		key               string
		sector            uint64
		data, first, last string
	}{
		{"1111111111111111111111111111111122222222222222222222222222222222", 0x3333333333, twice, "c454185e6a16936e39334038acef838b", "fb186fff7480adc4289382ecd6d394f0"},
		{"fffefdfcfbfaf9f8f7f6f5f4f3f2f1f022222222222222222222222222222222", 0x3333333333, twice, "af85336b597afc1a900b2eb21ec949d2", "92df4c047e0b21532186a5971a227a89"},
		{short, 0, run, "27a7479befa1d476489f308cd4cfa6e2a96e4bbe3208ff25287dd3819616e89cc78cf7f5e543445f8333d8fa7f56000005279fa5d8b5e4ad40e736ddb4d35412", "0a282df920147beabe421ee5319d0568"},
		{long, 0xff, run, "1c3b3a102f770386e4836c99e370cf9bea00803f5e482357a4ae12d414a3e63b5d31e276f8fe4a8d66b317f9ac683f44680a86ac35adfc3345befecb4bb188fd", "c4f36ffda9fcea70b9c6e693e148c151"},
		{long, 0xffff, run, "77a31251618a15e6b92d1d66dffe7b50b50bad552305ba0217a610688eff7e11e1d0225438e093242d6db274fde801d4cae06f2092c728b2478559df58e837c2", "a4f9e27b42af8100cb9d59cef9645803"},
		{long, 0xffffff, run, "e387aaa58ba483afa7e8eb469778317ecf4cf573aa9d4eac23f2cdf914e4e200a8b490e42ee646802dc6ee2b471b278195d60918ececb44bf79966f83faba049", "2263a1eef52dd6888c309f5a7d712826"},
		{long, 0xffffffff, run, "bf53d2dade78e822a4d949a9bc6766b01b06a8ef70d26748c6a7fc36d80ae4c5520f7c4ab0ac8544424fa405162fef5a6b7f229498063618d39f0003cb5fb8d1", "4c82f335abb152c4a93411373aaa8220"},
		{long, 0xffffffffff, run, "64497e5a831e4a932c09be3e5393376daa599548b816031d224bbf50a818ed2350eae7e96087c8a0db51ad290bd00c1ac1620857635bf246c176ab463be30b80", "d609d273ad5b0d59631c531f6a0a57b9"},
	} {
		x := cipher(t, figures(t, c.key))
		data := figures(t, c.data)
		s := sealed(t, x, c.sector, data)
		if !bytes.HasPrefix(s, figures(t, c.first)) || !bytes.HasSuffix(s, figures(t, c.last)) {
			t.Errorf("key %s: Seal(%d): %x; want %s .. %s", c.key, c.sector, s, c.first, c.last)
		}
		if o := opened(t, x, c.sector, s); !bytes.Equal(o, data) {
			t.Errorf("key %s: Open(%d): %x; want %s", c.key, c.sector, o, c.data)
		}
	}
}

// P5.1 (X1): one, two and four blocks, of noughts, of 255s and of others, in the first sector, the last one and two that differ in their highest byte alone; the answers are another program's.
func TestKnown(t *testing.T) {
	nought, full := make([]byte, 16), bytes.Repeat([]byte{255}, 16)
	for _, c := range []struct {
		size   int
		sector uint64
		data   []byte
		want   string
	}{
		{32, 0, nought, "1d6755f7bd94017ddca5334c38f973a7"},
		{32, 0, full, "dc6435d53a42a15c7d58e9d212683154"},
		{32, 0, make([]byte, 32), "1d6755f7bd94017ddca5334c38f973a746ba7216179523753d1522007440c08a"},
		{32, 0, upwards(64, 0), "77df1893b459c5d689d5fdaa56300d434c41c91d9ad9a8adf2dc47a9ca37495dd66603dfbe631589e59f56bd4d513caba4dd2de56ad590f99c4ff63cac0a8186"},
		{64, 0, nought, "a5556647388845fd85a1e3d4bffdd8ba"},
		{64, 0, full, "e5244400f45ab9caf7f70eff65a1b2a5"},
		{64, 0, make([]byte, 32), "a5556647388845fd85a1e3d4bffdd8baf09850145dd78f1c7940ec49e76916af"},
		{64, 0, upwards(64, 0), "40818e61a7e4e0de6f75ae7f3f62953a999e5db9301b576113af4ec9fb1843cd7da581702429a28cf78c294bd43dd7824d6b119b15c298514fc63488a583c24e"},
		{32, 1<<64 - 1, nought, "c2497f33aae9fbaffed4a53b63930d9a"},
		{32, 1<<64 - 1, upwards(64, 0), "12556a5f0aed50a9a5cd86537e1ab0a9b6ec69b0eeb1bda5e88c57483f7ee708eb886e2f574d3fe0700d4b1236800c7c5ebf59c585cd7d6c3e40c3ca7011e25a"},
		{64, 1<<64 - 1, full, "d6dc42d4923f6ffc6b4660580028cf82"},
		{64, 1<<64 - 1, make([]byte, 32), "dcb3488a75323d01a5b421aa0a72dc1414dd55e614b210afb07c055ea73dd722"},
		{32, 1 << 56, nought, "cdd80e92fef5df040b40d5fb0e24e2c7"},
		{32, 1 << 56, make([]byte, 32), "cdd80e92fef5df040b40d5fb0e24e2c70f1afb0a66c4790a0dee18fe262d26cd"},
		{64, 1 << 56, nought, "c2ae13481836d6ae550a18bd5cb188ce"},
		{64, 1 << 56, upwards(64, 0), "69d13e5547fd3d9a5ad4cad012690d9df28f3100641a5e1e686f06e82852e4442b3f17255836da616eeabe43f67b9c85b48e4cd110fc4530ac783e88dc6f5cdc"},
		{32, 7, upwards(64, 0), "8a129f9d66def6d010e823beb7cd5f07e74e746c45e7a20a868eae6d8a776a04afa9758e268cd2096641554e60d58a4b3bfd6dfc7f76ff2139c81a3dc7b2aaf2"},
		{64, 7, upwards(64, 0), "32ad7c12752b91d17bc621a47f89141e54f0a2d7a290e54deffe36dadd7e73420f2254d18a08d37916648fef8b31dd6ef506487dd91dc21b465ee3fc5cc84624"},
	} {
		x := cipher(t, upwards(c.size, 1))
		want := figures(t, c.want)
		if s := sealed(t, x, c.sector, c.data); !bytes.Equal(s, want) {
			t.Errorf("a key of %d bytes: Seal(%d, %x): %x; want %s", c.size, c.sector, c.data, s, c.want)
		}
		if o := opened(t, x, c.sector, want); !bytes.Equal(o, c.data) {
			t.Errorf("a key of %d bytes: Open(%d, %s): %x; want %x", c.size, c.sector, c.want, o, c.data)
		}
	}
}

// P5.1 (X1): a tweak that is doubled: bits that move within a byte, from one byte to the next, and out above.
func TestDouble(t *testing.T) {
	for _, c := range []struct{ tweak, want string }{
		{"00000000000000000000000000000000", "00000000000000000000000000000000"},
		{"01000000000000000000000000000000", "02000000000000000000000000000000"},
		{"80000000000000000000000000000000", "00010000000000000000000000000000"},
		{"00000000000000800000000000000000", "00000000000000000100000000000000"},
		{"00000000000000000000000000008000", "00000000000000000000000000000001"},
		{"00000000000000000000000000000040", "00000000000000000000000000000080"},
		{"00000000000000000000000000000080", "87000000000000000000000000000000"},
		{"01000000000000000000000000000080", "85000000000000000000000000000000"},
		{"ffffffffffffffffffffffffffffff7f", "feffffffffffffffffffffffffffffff"},
		{"ffffffffffffffffffffffffffffffff", "79ffffffffffffffffffffffffffffff"},
		{"80808080808080808080808080808080", "87010101010101010101010101010101"},
	} {
		if got := double([16]byte(figures(t, c.tweak))); !bytes.Equal(got[:], figures(t, c.want)) {
			t.Errorf("double of %s: %x; want %s", c.tweak, got, c.want)
		}
	}
}

// P5.1 (X1): each bit of a tweak moves up by one, and the highest one comes back as 0x87.
func TestDoubleEachBit(t *testing.T) {
	for bit := range 128 {
		var tweak, want [16]byte
		tweak[bit/8] = 1 << (bit % 8)
		if bit < 127 {
			want[(bit+1)/8] = 1 << ((bit + 1) % 8)
		} else {
			want[0] = 0x87
		}
		if got := double(tweak); got != want {
			t.Errorf("double of bit %d: %x; want %x", bit, got, want)
		}
	}
}

// P5.1 (X1): two blocks, where doubling the first one's tweak carries a bit out above, and where it does not.
func TestCarry(t *testing.T) {
	for _, size := range goodSizes {
		key := filled(size, 1)
		seen := map[bool]int{}
		for sector := range uint64(40) {
			carries := tweakOf(t, key, sector, 0)[15] >= 0x80
			seen[carries]++
			hold(t, key, sector, filled(32, 2))
		}
		if seen[true] == 0 || seen[false] == 0 {
			t.Errorf("a key of %d bytes: only one kind of tweak: %v", size, seen)
		}
	}
}

// P5.1 (X1): the first tweak, with a number whose every byte is another one.
func TestFirstTweak(t *testing.T) {
	for _, size := range goodSizes {
		key := filled(size, 3)
		c := cipher(t, key)
		for _, sector := range append(sectors, 0x0102030405060708, 0x8070605040302010) {
			if got := c.firstTweak(sector); !bytes.Equal(got[:], tweakOf(t, key, sector, 0)) {
				t.Errorf("a key of %d bytes: the first tweak of sector %d: %x; want %x", size, sector, got, tweakOf(t, key, sector, 0))
			}
		}
	}
}

// P5.1 (X1), P5.2: sectors of one block to many, each of the edges of numbers.
func TestSizesAndSectors(t *testing.T) {
	for _, size := range goodSizes {
		key := filled(size, 4)
		for _, sector := range sectors {
			for _, blocks := range []int{1, 2, 3, 4, 5, 8} {
				hold(t, key, sector, filled(16*blocks, blocks))
			}
		}
		for blocks := 1; blocks <= 40; blocks++ {
			hold(t, key, 9, filled(16*blocks, 5))
		}
		// More blocks than a tweak has bits: each of its bits has left it above.
		hold(t, key, 10, filled(16*300, 6))
	}
}

// P5.1 (X1), P5.2: the edges: data of noughts, of 255s, of any one byte, with keys of such halves.
func TestEdges(t *testing.T) {
	edges := []byte{0, 1, 0x7f, 0x80, 0x87, 255}
	for _, size := range goodSizes {
		for _, first := range edges {
			for _, second := range edges {
				if first == second {
					continue
				}
				key := append(bytes.Repeat([]byte{first}, size/2), bytes.Repeat([]byte{second}, size/2)...)
				for _, x := range edges {
					hold(t, key, uint64(x), bytes.Repeat([]byte{x}, 64))
				}
			}
		}
	}
}

// P5.1 (X1): each sector seals the same data otherwise, and each place within it too.
func TestPlacesDiffer(t *testing.T) {
	for _, size := range goodSizes {
		c := cipher(t, filled(size, 7))
		for _, x := range []byte{0, 255, 0x5a} {
			seen := map[string]uint64{}
			for _, sector := range sectors {
				s := sealed(t, c, sector, bytes.Repeat([]byte{x}, 64))
				for at := 0; at < 64; at += 16 {
					if other, ok := seen[string(s[at:at+16])]; ok {
						t.Errorf("a block of sector %d is sealed as one of sector %d", sector, other)
					}
					seen[string(s[at:at+16])] = sector
				}
			}
		}
	}
}

// P5.2: there and back, many times over, in either order.
func TestBack(t *testing.T) {
	for _, size := range goodSizes {
		c := cipher(t, filled(size, 8))
		for _, sector := range sectors {
			for _, data := range [][]byte{make([]byte, 64), bytes.Repeat([]byte{255}, 64), filled(64, 9), filled(16, 9), filled(1024, 9)} {
				x := data
				for range 10 {
					x = sealed(t, c, sector, x)
				}
				for range 20 {
					x = opened(t, c, sector, x)
				}
				for range 10 {
					x = sealed(t, c, sector, x)
				}
				if !bytes.Equal(x, data) {
					t.Errorf("a key of %d bytes, sector %d: there and back: %x; want %x", size, sector, x, data)
				}
			}
		}
	}
}

// changes are the places where two lists of one length differ, told by blocks.
func changes(a, b []byte) []int {
	var blocks []int
	for at := 0; at < len(a); at += 16 {
		if !bytes.Equal(a[at:at+16], b[at:at+16]) {
			blocks = append(blocks, at/16)
		}
	}
	return blocks
}

// P5.3 (apart): any byte of a block is changed, each block in turn: only that one of the answer is, both ways.
func TestApart(t *testing.T) {
	for _, size := range goodSizes {
		c := cipher(t, filled(size, 10))
		for _, blocks := range []int{1, 2, 4, 9} {
			data := filled(16*blocks, 11)
			s, o := sealed(t, c, 12, data), opened(t, c, 12, data)
			for at := range data {
				for _, mark := range []byte{1, 0x80, 255} {
					other := bytes.Clone(data)
					other[at] ^= mark
					if got := changes(s, sealed(t, c, 12, other)); len(got) != 1 || got[0] != at/16 {
						t.Errorf("Seal of %d blocks: byte %d changed: other blocks are %v", blocks, at, got)
					}
					if got := changes(o, opened(t, c, 12, other)); len(got) != 1 || got[0] != at/16 {
						t.Errorf("Open of %d blocks: byte %d changed: other blocks are %v", blocks, at, got)
					}
				}
			}
		}
	}
}

// P5.3 (apart): a whole block is another one, each in turn; so is what stands behind it, or none does: the blocks ahead stay.
func TestApartByBlocks(t *testing.T) {
	for _, size := range goodSizes {
		c := cipher(t, filled(size, 13))
		data := filled(16*6, 14)
		for _, do := range []func(uint64, []byte) ([]byte, api.Errno){c.Seal, c.Open} {
			whole, e := do(15, data)
			if e != api.OK {
				t.Fatal(e)
			}
			for block := range 6 {
				other := bytes.Clone(data)
				copy(other[16*block:16*block+16], filled(16, 100+block))
				if got, _ := do(15, other); len(got) != len(whole) || len(changes(whole, got)) != 1 || changes(whole, got)[0] != block {
					t.Errorf("block %d is another: other blocks of the answer too", block)
				}
				clear(other[:16*block])
				if got, _ := do(15, other); len(got) != len(whole) || !bytes.Equal(got[16*block+16:], whole[16*block+16:]) {
					t.Errorf("blocks up to %d are others: so are those behind them", block)
				}
				if got, _ := do(15, data[:16*block+16]); !bytes.Equal(got, whole[:16*block+16]) {
					t.Errorf("only the first %d blocks: %x; want %x", block+1, got, whole[:16*block+16])
				}
			}
		}
	}
}

// P5.1 (X1): a key of any other length is none, and no cipher comes with the error.
func TestWrongKeys(t *testing.T) {
	wrong(t, nil)
	sizes := []int{255, 256, 288, 320, 512, 1000, 4096, 65536, 65568, 65600, 1 << 20}
	for size := range 200 {
		sizes = append(sizes, size)
	}
	for _, size := range sizes {
		if size == 32 || size == 64 {
			continue
		}
		wrong(t, make([]byte, size))
		wrong(t, filled(size+64, 16)[:size])
	}
}

// P5.1 (X1): a key whose two halves are one is none; one bit between them, wherever it is, makes it one.
func TestHalves(t *testing.T) {
	for _, size := range goodSizes {
		for _, half := range [][]byte{make([]byte, size/2), bytes.Repeat([]byte{255}, size/2), filled(size/2, 17), upwards(size/2, 1)} {
			key := append(bytes.Clone(half), half...)
			wrong(t, key)
			for bit := range 8 * size {
				key[bit/8] ^= 1 << (bit % 8)
				cipher(t, key)
				key[bit/8] ^= 1 << (bit % 8)
			}
			wrong(t, key)
		}
	}
	// Halves are told by the key's own length: quarters that are one, or ends, are no fault.
	quarter := filled(16, 18)
	hold(t, bytes.Join([][]byte{quarter, quarter, quarter, filled(16, 19)}, nil), 20, filled(64, 20))
	hold(t, bytes.Join([][]byte{quarter, quarter, filled(16, 19), filled(16, 19)}, nil), 20, filled(64, 20))
	hold(t, bytes.Join([][]byte{quarter, filled(16, 19), filled(16, 19), quarter}, nil), 20, filled(64, 20))
}

// P5.1 (X1): data without a byte, and data that is no whole number of blocks, both ways; a cipher goes on as before.
func TestWrongData(t *testing.T) {
	for _, size := range goodSizes {
		key := filled(size, 21)
		c := cipher(t, key)
		there, back := meant(t, key, 22, filled(64, 23))
		sizes := []int{1000, 1023, 1025, 4095, 4097, 65535, 65537}
		for length := range 200 {
			sizes = append(sizes, length)
		}
		for _, length := range sizes {
			if length > 0 && length%16 == 0 {
				continue
			}
			for _, sector := range []uint64{0, 22, 1<<64 - 1} {
				refused(t, c, sector, filled(length+16, 24)[:length], api.ErrXtsData)
			}
			if !bytes.Equal(sealed(t, c, 22, filled(64, 23)), there) || !bytes.Equal(opened(t, c, 22, filled(64, 23)), back) {
				t.Errorf("behind data of %d bytes a cipher's answers are others", length)
			}
		}
		refused(t, c, 0, nil, api.ErrXtsData)
		refused(t, c, 0, []byte{}, api.ErrXtsData)
	}
}

// P5.1 (X1), rule 8: a nil cipher, that of an error too, ahead of all else, whatever the data.
func TestNil(t *testing.T) {
	var none *Cipher
	long, _ := New(make([]byte, 48))
	same, _ := New(make([]byte, 64))
	for _, c := range []*Cipher{none, long, same} {
		for _, sector := range sectors {
			for _, length := range []int{0, 1, 15, 16, 17, 64, 100, 4096} {
				refused(t, c, sector, filled(length, 25), api.ErrArg)
			}
			refused(t, c, sector, nil, api.ErrArg)
		}
	}
}

// P5.1 (X1), rule 4: the key stays as it is, with what lies behind it; what its owner writes into it behind New changes no answer.
func TestKeyStaysItsOwners(t *testing.T) {
	for _, size := range goodSizes {
		memory := filled(200, 26)
		c := cipher(t, memory[:size])
		data := filled(64, 27)
		there, back := meant(t, filled(200, 26)[:size], 28, data)
		for range 2 {
			if !bytes.Equal(sealed(t, c, 28, data), there) || !bytes.Equal(opened(t, c, 28, data), back) {
				t.Errorf("a key of %d bytes: another answer than before", size)
			}
			if !bytes.Equal(memory, filled(200, 26)) {
				t.Errorf("a key of %d bytes is changed, or what lies behind it", size)
			}
		}
		clear(memory)
		if !bytes.Equal(sealed(t, c, 28, data), there) || !bytes.Equal(opened(t, c, 28, data), back) {
			t.Errorf("a key of %d bytes: what its owner writes is heard", size)
		}
	}
}

// P5.1 (X1), rule 4: the data stays as it is, with what lies behind it, where it is refused too.
func TestDataStays(t *testing.T) {
	c := cipher(t, filled(64, 29))
	for length := range 100 {
		memory := filled(200, 30)
		c.Seal(31, memory[:length])
		c.Open(31, memory[:length])
		if !bytes.Equal(memory, filled(200, 30)) {
			t.Errorf("data of %d bytes is changed, or what lies behind it", length)
		}
		other := append(filled(length, 30), filled(100, 32)...)
		s, _ := c.Seal(31, memory[:length])
		o, _ := c.Seal(31, other[:length])
		if !bytes.Equal(s, o) {
			t.Errorf("data of %d bytes: what lies behind it is heard", length)
		}
	}
}

// P5.1 (X1), rule 4: what is answered is new memory: neither the data's owner nor that of another answer writes into it, nor does a later call.
func TestAnswersAreNew(t *testing.T) {
	for _, size := range goodSizes {
		key := filled(size, 33)
		c := cipher(t, key)
		data := filled(64, 34)
		there, back := meant(t, key, 35, data)
		first, second := sealed(t, c, 35, data), sealed(t, c, 35, data)
		third, fourth := opened(t, c, 35, data), opened(t, c, 35, data)
		clear(first)
		clear(third)
		clear(first[:cap(first)])
		clear(third[:cap(third)])
		if !bytes.Equal(data, filled(64, 34)) {
			t.Error("what is written into an answer is in the data")
		}
		clear(data)
		sealed(t, c, 36, data)
		opened(t, c, 36, data)
		if !bytes.Equal(second, there) || !bytes.Equal(fourth, back) {
			t.Error("an answer is another behind later calls")
		}
		if !bytes.Equal(sealed(t, c, 35, filled(64, 34)), there) || !bytes.Equal(opened(t, c, 35, filled(64, 34)), back) {
			t.Error("what is written into an answer is heard by a later call")
		}
	}
}

// P5.1 (X1), P2: ciphers beside each other, of other keys, of like ones, of other lengths and of halves the other way round, don't hear each other, nor a key that is wrong.
func TestSideBySide(t *testing.T) {
	other := append(filled(32, 37)[16:], filled(32, 37)[:16]...)
	keys := [][]byte{filled(32, 37), filled(64, 37), other, filled(64, 38), filled(32, 38), filled(32, 37)}
	var ciphers []*Cipher
	for _, key := range keys {
		ciphers = append(ciphers, cipher(t, key))
		New(key[:31])
	}
	for seed := range 20 {
		data := filled(48, seed)
		for i, c := range ciphers {
			there, back := meant(t, keys[i], uint64(seed), data)
			if !bytes.Equal(sealed(t, c, uint64(seed), data), there) || !bytes.Equal(opened(t, c, uint64(seed), data), back) {
				t.Errorf("cipher %d beside others: another answer", i)
			}
		}
	}
}

// P5.1 (X1), P2: a call hangs on no call ahead of it on the same cipher, whatever its sector and its length.
func TestSameAgain(t *testing.T) {
	for _, size := range goodSizes {
		c := cipher(t, filled(size, 39))
		data := filled(64, 40)
		there, back := sealed(t, c, 41, data), opened(t, c, 41, data)
		for seed := range 20 {
			sealed(t, c, uint64(seed), filled(16*(seed+1), seed))
			opened(t, c, uint64(seed+100), filled(16*(seed+1), seed))
			c.Seal(41, data[:seed])
			if !bytes.Equal(sealed(t, c, 41, data), there) || !bytes.Equal(opened(t, c, 41, data), back) {
				t.Errorf("a key of %d bytes: the same sector, another answer", size)
			}
		}
	}
}

// P5.1, P5.2: any key, sector and data.
func FuzzSectors(f *testing.F) {
	f.Add(filled(32, 1), uint64(0), filled(64, 2))
	f.Add(filled(64, 3), uint64(1<<64-1), filled(16, 4))
	f.Add(make([]byte, 64), uint64(5), filled(16, 6))
	f.Add(filled(48, 7), uint64(1<<56), filled(17, 8))
	f.Add([]byte{}, uint64(9), []byte{})
	f.Fuzz(func(t *testing.T, key []byte, sector uint64, data []byte) {
		half := len(key) / 2
		if len(key) != 32 && len(key) != 64 || bytes.Equal(key[:half], key[half:]) {
			wrong(t, key)
			return
		}
		if len(data) == 0 || len(data)%16 != 0 {
			refused(t, cipher(t, key), sector, data, api.ErrXtsData)
			return
		}
		hold(t, key, sector, data)
	})
}
