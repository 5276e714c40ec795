package hmac

import (
	"bytes"
	stdhmac "crypto/hmac"
	"crypto/sha256"
	"encoding/binary"
	"encoding/hex"
	"math"
	"testing"

	"cofferdam/api"
)

// keySizes are lengths at both sides of where a key goes over into its digest, and of a digest's own length.
var keySizes = []int{0, 1, 4, 16, 31, 32, 33, 62, 63, 64, 65, 66, 127, 128, 129, 131, 1000, 100000}

// dataSizes are lengths at both sides of where the inner message goes over into one more block, with a sector's number ahead of them or not.
var dataSizes = []int{0, 1, 8, 46, 47, 48, 54, 55, 56, 63, 64, 65, 119, 120, 127, 128, 129, 1000, 4096}

// sectors are numbers at the edges, and such as show where each byte of them stands.
var sectors = []int{0, 1, 2, 5, 255, 256, 2047, 2048, 1 << 16, 1 << 24, 1 << 31, 1<<31 - 1, 1 << 32, 1 << 40, 1 << 48, 1 << 56, 0x0102030405060708, math.MaxInt, -1, -2, -255, -256, -257, -0x0102030405060708, math.MinInt + 1, math.MinInt}

// message is so many bytes that don't repeat at a block's end; another seed makes others.
func message(size, seed int) []byte {
	b := make([]byte, size)
	for i := range b {
		b[i] = byte(i*7 + i/64*13 + i>>8 + seed)
	}
	return b
}

// figures are bytes that are written in hex figures.
func figures(t *testing.T, text string) []byte {
	t.Helper()
	b, err := hex.DecodeString(text)
	if err != nil {
		t.Fatalf("no hex figures: %s", text)
	}
	return b
}

// oracle is the library's HMAC.
func oracle(key, b []byte) [32]byte {
	h := stdhmac.New(sha256.New, key)
	h.Write(b)
	return [32]byte(h.Sum(nil))
}

// oracleTag is a tag by the library.
func oracleTag(key []byte, sector int, data []byte) [api.TagSize]byte {
	s := oracle(key, append(binary.BigEndian.AppendUint64(nil, uint64(sector)), data...))
	return [api.TagSize]byte(s[:])
}

// P3.1 (H1): the chapter's example, and sums that were published (most of them in RFC 4231); no key and no data.
func TestSumKnown(t *testing.T) {
	long := bytes.Repeat([]byte{0xaa}, 131)
	for _, c := range []struct {
		key, data []byte
		sum       string
	}{
		{[]byte("Jefe"), []byte("what do ya want for nothing?"), "5bdcc146bf60754e6a042426089575c75a003f089d2739839dec58b964ec3843"},
		{bytes.Repeat([]byte{0x0b}, 20), []byte("Hi There"), "b0344c61d8db38535ca8afceaf0bf12b881dc200c9833da726e9376c2e32cff7"},
		{bytes.Repeat([]byte{0xaa}, 20), bytes.Repeat([]byte{0xdd}, 50), "773ea91e36800e46854db8ebd09181a72959098b3ef8c122d9635514ced565fe"},
		{figures(t, "0102030405060708090a0b0c0d0e0f10111213141516171819"), bytes.Repeat([]byte{0xcd}, 50), "82558a389a443c0ea4cc819899f2083a85f0faa3e578f8077a2e3ff46729665b"},
		{long, []byte("Test Using Larger Than Block-Size Key - Hash Key First"), "60e431591ee0b67f0d8a26aacbf5b77f8e0bc6213728c5140546040f0ee37f54"},
		{long, []byte("This is a test using a larger than block-size key and a larger than block-size data. The key needs to be hashed before being used by the HMAC algorithm."), "9b09ffa71b942fcb27635fbcd5b0e944bfdc63644f0713938a7f51535c3a35e2"},
		{[]byte("key"), []byte("The quick brown fox jumps over the lazy dog"), "f7bc83f430538424b13298e6aa6fb143ef4d59a14946175997479dbc2d1a3cd8"},
		{nil, nil, "b613679a0814d9ec772f95d778c35fc5ff1697c493715653c6c712144292c5ad"},
		{[]byte{}, []byte{}, "b613679a0814d9ec772f95d778c35fc5ff1697c493715653c6c712144292c5ad"},
	} {
		if got := Sum(c.key, c.data); !bytes.Equal(got[:], figures(t, c.sum)) {
			t.Errorf("Sum(%x, %q): %x; want %s", c.key, c.data, got, c.sum)
		}
	}
}

// P3.1 (H1): keys and data of all lengths around the edges, and long ones.
func TestSumLengths(t *testing.T) {
	for _, k := range keySizes {
		for _, n := range append(dataSizes, 300000) {
			key, data := message(k, 3), message(n, 90)
			if got, want := Sum(key, data), oracle(key, data); got != want {
				t.Errorf("Sum of a key of %d bytes and %d bytes: %x; want %x", k, n, got, want)
			}
		}
	}
}

// P3.1 (H1): a key of more than 64 bytes is as its digest; one of 64 is not.
func TestSumKeyDigest(t *testing.T) {
	data := message(100, 1)
	for _, size := range []int{63, 64, 65, 66, 128, 1000} {
		key := message(size, 5)
		short := sha256.Sum256(key)
		if same := Sum(key, data) == Sum(short[:], data); same != (size > 64) {
			t.Errorf("a key of %d bytes and its digest tell the same: %v", size, same)
		}
	}
}

// P3.1 (H1): noughts stand behind a key that is short, and none ahead of it.
func TestSumKeyNoughts(t *testing.T) {
	data := message(64, 2)
	for size := range 64 {
		key := bytes.Repeat([]byte{7}, size)
		want := Sum(key, data)
		behind := append(bytes.Clone(key), make([]byte, 64-size)...)
		if Sum(behind, data) != want {
			t.Errorf("a key of %d bytes is not as with noughts behind it", size)
		}
		ahead := append(make([]byte, 64-size), key...)
		if size > 0 && Sum(ahead, data) == want {
			t.Errorf("a key of %d bytes is as with noughts ahead of it", size)
		}
	}
}

// P3.1 (H2): a tag is the first bytes of the sum that H2 names, with the sector's number written out.
func TestTagKnown(t *testing.T) {
	data := []byte("sector")
	for _, c := range []struct {
		sector int
		number string
	}{
		{0, "0000000000000000"},
		{1, "0000000000000001"},
		{0x0102030405060708, "0102030405060708"},
		{math.MaxInt, "7fffffffffffffff"},
		{-1, "ffffffffffffffff"},
		{-2, "fffffffffffffffe"},
		{-256, "ffffffffffffff00"},
		{math.MinInt, "8000000000000000"},
	} {
		s := Sum([]byte("Jefe"), append(figures(t, c.number), data...))
		if got := Tag([]byte("Jefe"), c.sector, data); got != [api.TagSize]byte(s[:]) {
			t.Errorf("Tag of sector %d: %x; want %x", c.sector, got, s[:api.TagSize])
		}
	}
}

// P3.1 (H2): numbers at the edges, with data and keys of many lengths.
func TestTagPlaces(t *testing.T) {
	for _, k := range []int{0, 32, 64, 65} {
		key := message(k, 11)
		for _, sector := range sectors {
			for _, n := range dataSizes {
				data := message(n, 40)
				if got, want := Tag(key, sector, data), oracleTag(key, sector, data); got != want {
					t.Errorf("Tag of a key of %d bytes, sector %d, %d bytes: %x; want %x", k, sector, n, got, want)
				}
			}
		}
	}
}

// P3.1 (H2), P3.2: what Tag tells is Right, for all keys, sectors and data.
func TestRightOwn(t *testing.T) {
	for _, k := range keySizes {
		key := message(k, 17)
		for _, sector := range sectors {
			for _, n := range []int{0, 1, api.SectorSize, 1000} {
				data := message(n, 23)
				tag := Tag(key, sector, data)
				if !Right(key, sector, data, tag[:]) {
					t.Errorf("a tag of a key of %d bytes, sector %d, %d bytes is not Right", k, sector, n)
				}
			}
		}
	}
	if tag := Tag(nil, 0, nil); !Right([]byte{}, 0, []byte{}, tag[:]) {
		t.Error("no key and no data are not as an empty key and empty data")
	}
}

// P3.2: any one byte changed, in any way, it is not Right.
func TestRightByteChanged(t *testing.T) {
	key, data := message(api.KeySize, 1), message(api.SectorSize, 2)
	tag := Tag(key, 5, data)
	for i := range tag {
		for change := 1; change < 256; change++ {
			wrong := tag
			wrong[i] ^= byte(change)
			if Right(key, 5, data, wrong[:]) {
				t.Errorf("a tag whose byte %d is changed by %d is Right", i, change)
			}
		}
	}
}

// P3.2: one byte more or less, or none at all, it is not Right.
func TestRightLength(t *testing.T) {
	key, data := message(api.KeySize, 1), message(api.SectorSize, 2)
	s := oracle(key, append(make([]byte, 8), data...))
	for size := range len(s) + 1 {
		if Right(key, 0, data, s[:size]) != (size == api.TagSize) {
			t.Errorf("the sum's first %d bytes: Right is wrong", size)
		}
	}
	tag := s[:api.TagSize]
	for more := range 256 {
		if Right(key, 0, data, append(bytes.Clone(tag), byte(more))) || Right(key, 0, data, append([]byte{byte(more)}, tag...)) {
			t.Errorf("a tag with a byte %d more is Right", more)
		}
	}
	for i := range tag {
		if Right(key, 0, data, append(bytes.Clone(tag[:i]), tag[i+1:]...)) {
			t.Errorf("a tag without byte %d is Right", i)
		}
	}
	if Right(key, 0, data, nil) || Right(nil, 0, nil, nil) || Right(nil, 0, nil, []byte{}) {
		t.Error("no tag is Right")
	}
}

// P3.2: a tag of another key, sector or data is not Right.
func TestRightOther(t *testing.T) {
	key, data := message(api.KeySize, 1), message(api.SectorSize, 2)
	tag := Tag(key, 5, data)
	turned := func(b []byte, i int) []byte {
		c := bytes.Clone(b)
		c[i] ^= 1
		return c
	}
	for i := range key {
		if Right(turned(key, i), 5, data, tag[:]) {
			t.Errorf("a tag of a key whose byte %d is another is Right", i)
		}
	}
	for i := range data {
		if Right(key, 5, turned(data, i), tag[:]) {
			t.Errorf("a tag of data whose byte %d is another is Right", i)
		}
	}
	for _, sector := range sectors {
		if Right(key, sector, data, tag[:]) != (sector == 5) {
			t.Errorf("a tag of sector 5, asked of sector %d: Right is wrong", sector)
		}
	}
	for bit := range 64 {
		if Right(key, 5^1<<bit, data, tag[:]) {
			t.Errorf("a tag of a sector whose bit %d is another is Right", bit)
		}
	}
	if Right(key, 5, data[:63], tag[:]) || Right(key, 5, append(data, 0), tag[:]) || Right(key, 5, nil, tag[:]) || Right(nil, 5, data, tag[:]) {
		t.Error("a tag of other lengths is Right")
	}
}

// Rule 4: what is handed in stays as it is, and what lies behind it in its memory too.
func TestArgumentsStay(t *testing.T) {
	for _, k := range []int{0, 3, 63, 64, 65, 200} {
		memory := func(size, seed int) ([]byte, []byte) {
			whole := message(size+100, seed)
			return whole[:size], whole
		}
		key, keyMemory := memory(k, 1)
		data, dataMemory := memory(api.SectorSize, 2)
		want := Tag(message(k, 1), 9, message(api.SectorSize, 2))
		tag, tagMemory := memory(api.TagSize, 3)
		copy(tag, want[:])
		wantTag := bytes.Clone(tagMemory)
		if Sum(key, data) != oracle(message(k, 1), message(api.SectorSize, 2)) || Tag(key, 9, data) != want || !Right(key, 9, data, tag) {
			t.Errorf("a key of %d bytes: what lies behind the lists is heard", k)
		}
		if !bytes.Equal(keyMemory, message(k+100, 1)) || !bytes.Equal(dataMemory, message(api.SectorSize+100, 2)) || !bytes.Equal(tagMemory, wantTag) {
			t.Errorf("a key of %d bytes: what was handed in is changed", k)
		}
	}
}

// P2: one list as key, data and tag at once is as three of the same bytes, and calls don't hang on those ahead.
func TestSharedArguments(t *testing.T) {
	b := message(api.SectorSize, 77)
	first := Tag(b, 3, b)
	if first != oracleTag(b, 3, b) || Right(b, 3, b, b[:api.TagSize]) {
		t.Error("one list as all arguments: another answer")
	}
	Sum([]byte("other"), []byte("others"))
	Tag(message(70, 1), -4, nil)
	if Tag(b, 3, b) != first || !Right(b, 3, b, first[:]) {
		t.Error("a tag hangs on calls ahead of it")
	}
}

// P3.1, P3.2: any key, sector, data and change of a tag.
func FuzzTags(f *testing.F) {
	f.Add([]byte("Jefe"), 0, []byte("what do ya want for nothing?"), []byte{0})
	f.Add(message(65, 1), -1, message(64, 2), message(16, 3))
	f.Add([]byte{}, math.MaxInt, []byte{}, []byte{})
	f.Fuzz(func(t *testing.T, key []byte, sector int, data, tag []byte) {
		if Sum(key, data) != oracle(key, data) {
			t.Error("Sum is not the library's")
		}
		want := oracleTag(key, sector, data)
		if Tag(key, sector, data) != want || !Right(key, sector, data, want[:]) {
			t.Error("Tag is not the library's, or not Right")
		}
		if Right(key, sector, data, tag) != bytes.Equal(tag, want[:]) {
			t.Error("Right is wrong")
		}
	})
}
