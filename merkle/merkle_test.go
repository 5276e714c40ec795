package merkle

import (
	"bytes"
	"crypto/sha256"
	"encoding/hex"
	"math"
	"slices"
	"testing"

	"cofferdam/api"
)

// someSizes are numbers of data sectors: the first ones, and those just below, at and just above a power of two.
func someSizes() []int {
	sizes := []int{100, 300, 777, 1500}
	for n := 1; n <= 40; n++ {
		sizes = append(sizes, n)
	}
	for n := 64; n <= api.MaxSectors; n *= 2 {
		sizes = append(sizes, n-1, n)
		if n < api.MaxSectors {
			sizes = append(sizes, n+1)
		}
	}
	return sizes
}

// wrongSizes are numbers of data sectors of which there is no tree.
var wrongSizes = []int{0, -1, -2, -64, api.MaxSectors + 1, api.MaxSectors + 2, 4096, 1 << 31, -1 << 31, math.MaxInt - 1, math.MaxInt, math.MinInt, math.MinInt + 1}

// wrongPlaces are such as no data sector of n has.
func wrongPlaces(n int) []int {
	return []int{-1, -2, -3, -64, -n, n, n + 1, 2 * n, api.MaxSectors, api.MaxSectors + 1, 1 << 31, -1 << 31, math.MaxInt - 1, math.MaxInt, math.MinInt, math.MinInt + 1}
}

// filled is so many sectors, of which no two are like; another seed makes others.
func filled(n, seed int) []byte {
	b := make([]byte, 64*n)
	for i := range b {
		b[i] = byte(i/64*5 + i%64*7 + seed)
	}
	for k := range n {
		b[64*k], b[64*k+1] = byte(k>>8), byte(k)
	}
	return b
}

// sector is the sector number k of some.
func sector(b []byte, k int) []byte {
	return bytes.Clone(b[64*k : 64*k+64])
}

// figures are bytes that are written in hex figures.
func figures(t *testing.T, text string) []byte {
	t.Helper()
	b, err := hex.DecodeString(text)
	if err != nil {
		t.Fatalf("no hex figures: %s", text)
	}
	return b
}

// digest is the library's, of a byte and some more.
func digest(mark byte, b []byte) []byte {
	d := sha256.Sum256(append([]byte{mark}, b...))
	return d[:]
}

// meantLevels is how many sectors each level has, by the chapter's words.
func meantLevels(n int) []int {
	counts := []int{int(math.Ceil(float64(n) / 2))}
	for counts[len(counts)-1] > 1 {
		counts = append(counts, int(math.Ceil(float64(counts[len(counts)-1])/2)))
	}
	return counts
}

// meantPath is which sectors lie above a data sector, by the chapter's words.
func meantPath(n, i int) []int {
	var path []int
	ahead, under := 0, 2
	for _, count := range meantLevels(n) {
		path = append(path, ahead+i/under)
		ahead, under = ahead+count, 2*under
	}
	return path
}

// meantTree is the tree and the root, by the chapter's words and the library's SHA-256.
func meantTree(data []byte) (tree, root []byte) {
	below, mark := data, byte(0)
	for {
		var here []byte
		for len(below) > 0 {
			here = append(here, digest(mark, below[:64])...)
			below = below[64:]
		}
		here = append(here, make([]byte, (64-len(here)%64)%64)...)
		tree, below, mark = append(tree, here...), here, 1
		if len(here) == 64 {
			return tree, digest(1, here)
		}
	}
}

// built is what Build tells of data that is right.
func built(t *testing.T, data []byte) (tree, root []byte) {
	t.Helper()
	b, r, e := Build(data)
	if e != api.OK {
		t.Fatalf("Build of %d bytes: %v", len(data), e)
	}
	return b, r[:]
}

// pathOf is the sectors of a tree that lie above a data sector.
func pathOf(tree []byte, n, i int) [][]byte {
	var path [][]byte
	for _, k := range Path(n, i) {
		path = append(path, sector(tree, k))
	}
	return path
}

// chain is so many sectors that show data at the place i, and their root; what else stands in them is of the seed.
// It takes data of any length, so that a fault can be the only one.
func chain(i, depth int, data []byte, seed int) (path [][]byte, root []byte) {
	h := digest(0, data)
	for range depth {
		s := filled(1, seed)
		copy(s[i&1*32:], h)
		path = append(path, s)
		h, i, seed = digest(1, s), i>>1, seed+1
	}
	return path, h
}

// shown asks Check to take a sector.
func shown(t *testing.T, n, i int, data []byte, path [][]byte, root []byte) {
	t.Helper()
	if !Check(n, i, data, path, root) {
		t.Errorf("Check(%d, %d): false; want true", n, i)
	}
}

// refused asks Check not to take a sector; what tells which fault it is.
func refused(t *testing.T, what string, n, i int, data []byte, path [][]byte, root []byte) {
	t.Helper()
	if Check(n, i, data, path, root) {
		t.Errorf("Check(%d, %d), %s: true; want false", n, i, what)
	}
}

// P6.1 (M1): the chapter's examples, and others, worked out by hand.
func TestLevelsKnown(t *testing.T) {
	for n, want := range [][]int{
		1: {1}, 2: {1}, 3: {2, 1}, 4: {2, 1}, 5: {3, 2, 1}, 6: {3, 2, 1}, 7: {4, 2, 1}, 8: {4, 2, 1}, 9: {5, 3, 2, 1}, 10: {5, 3, 2, 1},
		11: {6, 3, 2, 1}, 12: {6, 3, 2, 1}, 13: {7, 4, 2, 1}, 14: {7, 4, 2, 1}, 15: {8, 4, 2, 1}, 16: {8, 4, 2, 1},
		17: {9, 5, 3, 2, 1}, 18: {9, 5, 3, 2, 1}, 19: {10, 5, 3, 2, 1}, 20: {10, 5, 3, 2, 1},
		100:  {50, 25, 13, 7, 4, 2, 1},
		1024: {512, 256, 128, 64, 32, 16, 8, 4, 2, 1},
		1025: {513, 257, 129, 65, 33, 17, 9, 5, 3, 2, 1},
		2047: {1024, 512, 256, 128, 64, 32, 16, 8, 4, 2, 1},
		2048: {1024, 512, 256, 128, 64, 32, 16, 8, 4, 2, 1},
	} {
		if want == nil && n > 0 {
			continue
		}
		if got := Levels(n); !slices.Equal(got, want) {
			t.Errorf("Levels(%d): %v; want %v", n, got, want)
		}
	}
}

// P6.1 (M1): the chapter's example, and others, worked out by hand: the first, the last and one data sector alone.
func TestPathKnown(t *testing.T) {
	for _, c := range []struct {
		n, i int
		want []int
	}{
		{5, 4, []int{2, 4, 5}}, {5, 3, []int{1, 3, 5}}, {5, 2, []int{1, 3, 5}}, {5, 1, []int{0, 3, 5}}, {5, 0, []int{0, 3, 5}},
		{1, 0, []int{0}}, {2, 0, []int{0}}, {2, 1, []int{0}},
		{3, 0, []int{0, 2}}, {3, 1, []int{0, 2}}, {3, 2, []int{1, 2}}, {4, 3, []int{1, 2}},
		{8, 0, []int{0, 4, 6}}, {8, 3, []int{1, 4, 6}}, {8, 4, []int{2, 5, 6}}, {8, 7, []int{3, 5, 6}},
		{9, 7, []int{3, 6, 8, 10}}, {9, 8, []int{4, 7, 9, 10}},
		{2048, 0, []int{0, 1024, 1536, 1792, 1920, 1984, 2016, 2032, 2040, 2044, 2046}},
		{2048, 2047, []int{1023, 1535, 1791, 1919, 1983, 2015, 2031, 2039, 2043, 2045, 2046}},
		{2047, 2046, []int{1023, 1535, 1791, 1919, 1983, 2015, 2031, 2039, 2043, 2045, 2046}},
		{1025, 1024, []int{512, 769, 898, 963, 996, 1013, 1022, 1027, 1030, 1032, 1033}},
	} {
		if got := Path(c.n, c.i); !slices.Equal(got, c.want) {
			t.Errorf("Path(%d, %d): %v; want %v", c.n, c.i, got, c.want)
		}
	}
}

// P6.1 (M1): the levels of every number of data sectors, and the paths of every data sector of many, by the chapter's words.
func TestLevelsAndPathsAreMeant(t *testing.T) {
	for n := 1; n <= api.MaxSectors; n++ {
		if got, want := Levels(n), meantLevels(n); !slices.Equal(got, want) {
			t.Errorf("Levels(%d): %v; want %v", n, got, want)
		}
		for _, i := range []int{0, n / 2, n - 1} {
			if got, want := Path(n, i), meantPath(n, i); !slices.Equal(got, want) {
				t.Errorf("Path(%d, %d): %v; want %v", n, i, got, want)
			}
		}
	}
	for _, n := range someSizes() {
		for i := range n {
			if got, want := Path(n, i), meantPath(n, i); !slices.Equal(got, want) {
				t.Errorf("Path(%d, %d): %v; want %v", n, i, got, want)
			}
		}
	}
}

// P6.1 (M1): the paths of all data sectors together are all sectors of the tree.
func TestPathsAreTheTree(t *testing.T) {
	for _, n := range someSizes() {
		size := 0
		for _, count := range Levels(n) {
			size += count
		}
		above := make([]int, size)
		for i := range n {
			for _, k := range Path(n, i) {
				if k < 0 || k >= size {
					t.Fatalf("Path(%d, %d) has %d: the tree has %d sectors", n, i, k, size)
				}
				above[k]++
			}
		}
		if k := slices.Index(above, 0); k >= 0 {
			t.Errorf("%d data sectors: sector %d of the tree lies above none", n, k)
		}
		if above[size-1] != n {
			t.Errorf("%d data sectors: the last sector lies above %d", n, above[size-1])
		}
	}
}

// P6.1 (M1): numbers of data sectors of which there are no levels, and places of which there is no path.
func TestNoLevels(t *testing.T) {
	for _, n := range wrongSizes {
		if got := Levels(n); len(got) != 0 {
			t.Errorf("Levels(%d): %v; want none", n, got)
		}
		for _, i := range append(wrongPlaces(n), 0, 1, 5, 2047) {
			if got := Path(n, i); len(got) != 0 {
				t.Errorf("Path(%d, %d): %v; want none", n, i, got)
			}
		}
	}
	for _, n := range someSizes() {
		for _, i := range wrongPlaces(n) {
			if i >= 0 && i < n {
				continue
			}
			if got := Path(n, i); len(got) != 0 {
				t.Errorf("Path(%d, %d): %v; want none", n, i, got)
			}
		}
	}
}

// P6.1 (M1): who goes through the levels may end at any of them.
func TestLevelsEndEarly(t *testing.T) {
	for _, n := range someSizes() {
		counts := Levels(n)
		for stop := range counts {
			seen := 0
			for number, l := range levels(n) {
				if number != seen || l.count != counts[number] {
					t.Errorf("%d data sectors: level %d of %d sectors comes as number %d", n, number, l.count, seen)
				}
				seen++
				if number == stop {
					break
				}
			}
			if seen != stop+1 {
				t.Errorf("%d data sectors: %d levels up to number %d", n, seen, stop)
			}
		}
	}
}

// P6.1 (M2): trees and roots that another program worked out: how many sectors, the tree's digest, the root; data of noughts and of 255s too.
func TestBuildKnown(t *testing.T) {
	for _, c := range []struct {
		data       []byte
		sectors    int
		tree, root string
	}{
		{filled(1, 1), 1, "4b0b6cef615f5dba8fca60f3794ad80c9d2ceb7a5a9d0651dda20e450aed5560", "a7432c8fff7a1905e07361261be09f7b88640b926b36c3fa587a13563b551139"},
		{filled(2, 2), 1, "252def0765074f124e0e55d6cd008382fe7de5bcd32f2521cb5c9deb60e14607", "c0298104ae5eddbbce6f93240f055319bcb0209202f6d258242499d55055df4f"},
		{filled(3, 3), 3, "6928bd6633d8b118d8751f8440aaba4b228caed7f3b73ebfba8eceea9dccfedb", "ef18586b31ff308252ac429dd439013811f7140f48e042662a02f49d33e9442f"},
		{filled(4, 4), 3, "cfa00d5ff8148aa1b0ea11df4636d9d66ef511adcdd7ac398b0a536ebbfaa7db", "06cc028a597d45f4117c2454c48e8214a2cc614fa9309dcce142f5e50601b8d4"},
		{filled(5, 5), 6, "f3ded1bf8e94a3b98586fa95b132501656387a17d0e0ec4912f6e6773c329a73", "6560775e9e8c7f8de5b7bf09a27432af417e483be525e653a9137b3304f2e3f7"},
		{filled(6, 6), 6, "7d85d555d316d4f2106991ed047b5730ef310fcee959786084bef898cdd7b907", "7dca6511615fab92808cd5a668f35ab04d7bb88d38ec6b7bea98e8a9ed093f66"},
		{filled(7, 7), 7, "9a22cc0640798953053f0f19f49d11f2a62ec2e4b32964c582b3a5817001e967", "b5170219ad2c35edbf44b61a83604659ad1bca20342eff527afc6985c3145f40"},
		{filled(8, 8), 7, "7c7348d2f0658197d8a878b8e257da04661c5d721a9a923717cd6c1f52558eb6", "e39f46e30d2a34eccab5ac0cabff67a8d60ac88be7a4d7f7824af5d9b298c1ba"},
		{filled(9, 9), 11, "ab7fa623f9f2d4ba0212300e20124b03088791feefb3168ebf69020773509066", "0828991a24a9016d88480ea17b20338cb35d21f8eab52490a259be2b16874e7a"},
		{filled(15, 15), 15, "1eafaacd2f6d104408c865f23a5ac5a6d3377e103bb8f354c84a555b76155238", "d97566db111ae824bcd842a0bc8688d73a9a9f36b4e6bc16b2464793c8beb23f"},
		{filled(16, 16), 15, "5a4a218c8a2b0935468036e80d3611d90054f6e340a64adbc7607340bf9029e4", "9b44647cc671e61d541291b9df0bfd0e6e58103e358dde59bb6b500d93e00fa1"},
		{filled(17, 17), 20, "0a94571198c3d9b128877e05b70b86458c8363ba7d898f9cfae0f57ac4f69fce", "36da5d89e4faf96ace2a16d7ac6f315366763392b4f0e85bb47b0f6cc720bb1f"},
		{filled(100, 100), 102, "f7ea826e44590f4f2eff69f81e8de7bd444bbf493ffe726858c2d3ac2057edb8", "96ff43e99e148c3511a0c5a117dde1894b2b66420ef600a4e1818eb5f7284bb6"},
		{filled(1023, 1023), 1023, "b76ac19be32939c3ec7c3afcd4227eeed7c45847c0d15bbd38d3e57eba7486a6", "7d7985921e6fdc0f0d9db9297b5d6a6589cc63fafa50b31d11fde983faa2a588"},
		{filled(1024, 1024), 1023, "c4beeec52958d0838ab9bfabc3cbd2b496db1943d91ccffa4b67c777446977d4", "074133f303847070f07c17b1ef35cd49c01ba482b7b65a3be44dc78901a06069"},
		{filled(1025, 1025), 1034, "c9a5c867d417e9cc51d713e4b4bd562bddd119df518d7d47e49b6e680cb29d23", "6ebe3f3b3f2211bf43dfe3a525dc5958b1efd7fb5eed08c5eea10e780a1a240e"},
		{filled(2047, 2047), 2047, "a42c600efcdacac1d76acb8aa4a5dcec67057460e41a2b4be2aa0fa8f16cf1a2", "eb313c45dd0a188d3634e4333af70bab92f9eece900a2209f4dac76b9913be5a"},
		{filled(2048, 2048), 2047, "23ce918185cdf0807cdab85df77b016370728c086177d873ac5226dd2ebef7d6", "ec859ae56e1c7a6eabaf30f447a04008aa147062c994df7267674d308150b091"},
		{bytes.Repeat([]byte{0}, 64*1), 1, "329bf83685b5b42e166e099bdf867e124ca6192592f8ba3a0912d635cc7666a2", "fadbab6cea99cfc0cf3711553565ed8579c9ed2652ac741a5f1a6c4db49aec44"},
		{bytes.Repeat([]byte{255}, 64*1), 1, "f38e4abb2321d187194d124c75a49ee99d8c466edf5ebbec695776bc904bba75", "c045c174d1f8b471383e75c0f31a735b76ec3d0d9d8979f4e2ea6941a2a11798"},
		{bytes.Repeat([]byte{0}, 64*2), 1, "cb1ecc84471dc202c600073b08d3708924afca50d7df2c0e3f14b793bdee5482", "f3a095b390bfe3a545a3511ee66cec09d59618cea8457ac41c36ea7aa845f208"},
		{bytes.Repeat([]byte{255}, 64*2), 1, "a3a2c218caee56696477e0d34b2ae25beebc78695234a35723b677977ce44a8a", "b9a2814d23aba6578a53d18e0223a88d6ca50538b56ea02564f0eeab5aa284ac"},
		{bytes.Repeat([]byte{0}, 64*3), 3, "ed4963a91da26f3d644a007d39645d3c1550effa486737e39c4013792b504676", "4d4e79e57673eac10b4a86d9a24f074eae455c019d53ee55544acce36cf48b7e"},
		{bytes.Repeat([]byte{255}, 64*3), 3, "22c5717cffd57479559724cf9efd0c21f53e5ce66c48f9a702b0e98f7f779cce", "008b8cb024d0dfefd60f0677c944a0100bcf92fbf92ca511fc54e80c93263a37"},
		{bytes.Repeat([]byte{0}, 64*5), 6, "618433783be102013c25a7921da59c5c768d2d25f7aca8595e2dce640b29c8b4", "c1d2e297028d53708446fe4cbd5d61f5675fca868d2c4a7f972e5b4b790f66a1"},
		{bytes.Repeat([]byte{255}, 64*5), 6, "a8964c082aa33bfb57643a71b502b4d8dec5d36f18b2e096788f3534e5f0c37b", "370778bad8aa7ee140b0c67da2cd3f05541b27249e7031545a95365134acbac8"},
		{bytes.Repeat([]byte{0}, 64*2047), 2047, "3f7dcceab71249cc1721b5747dcd69f82aa07c9582e869d98b92cf21cf4a9385", "4867c88ae22d0bf10fe48268f38c8cabe2165d7fb45e79d4aadf209748ddf583"},
		{bytes.Repeat([]byte{255}, 64*2047), 2047, "e5a98c446c78c4a9d09287a620e39a6d4bbfa2a05b15ffa0b6cdfaa8341d80e5", "697600666ee1ff3eab3bef22798d165fbabf899879b2f1aa467f39f14b3dc69b"},
		{bytes.Repeat([]byte{0}, 64*2048), 2047, "bafefa7e05a44aa337ef96dd9883b481ca4d54a671ce0b7f103affa4c2456cfb", "b2eabd81b78ef13e8ce598f997f08363725fb396b8fbaa7529adebb6521f9b30"},
		{bytes.Repeat([]byte{255}, 64*2048), 2047, "db0ce31aaa6b15bb791679f87cf15219cbd7edb78bd5d3d4654fa318e6c681ff", "5020ad94fe2580a701ce55980916386d92eda9dd1de4bb53b5884b77795790db"},
	} {
		tree, root := built(t, c.data)
		if len(tree) != 64*c.sectors {
			t.Errorf("Build of %d sectors: %d bytes of tree; want %d sectors", len(c.data)/64, len(tree), c.sectors)
		}
		if d := sha256.Sum256(tree); hex.EncodeToString(d[:]) != c.tree {
			t.Errorf("Build of %d sectors: a tree with the digest %x; want %s", len(c.data)/64, d, c.tree)
		}
		if hex.EncodeToString(root) != c.root {
			t.Errorf("Build of %d sectors: root %x; want %s", len(c.data)/64, root, c.root)
		}
	}
}

// P6.1 (M2): whole trees that another program worked out.
func TestBuildKnownWhole(t *testing.T) {
	for _, c := range []struct {
		n    int
		tree string
	}{
		{1, "54abbe7c46af3cabaf637afb92d77b340066c5fff9b93647dc50f38cfe7984810000000000000000000000000000000000000000000000000000000000000000"},
		{2, "4868bddb0c0246e791ec036ade1588daf728fac6ef88846558040652b81d2085f9c5ca4ba12c6b43e17b0d819ff2fff0d8fb78dbd455e668aac18bbbbdab9a5a"},
		{3, "462d46307f520482be555c5b428e0627247d22eddff2bc9b8999eaae1b63e336416b7a29e025ecae51545f3871bfb4200ce3952ec4c683625a549eaf9280380c569ac4e344bca5213879122c8472a5c71ece8d5194fd85a23e9c01c11b4583570000000000000000000000000000000000000000000000000000000000000000ba4a6b694276de1ce8fa2ea4a7be2887a89fbe7b9e764c925409da7b5704dde0e229b5c54b5c03c0705d4e7f2e323d8be75a3ba9e7c74c6deb1b023a30dbcf0c"},
	} {
		if tree, _ := built(t, filled(c.n, c.n)); !bytes.Equal(tree, figures(t, c.tree)) {
			t.Errorf("Build of %d sectors: %x; want %s", c.n, tree, c.tree)
		}
	}
}

// P6.1 (M2): trees and roots of many numbers of sectors, by the chapter's words; data of noughts, of 255s, of like sectors and of others.
func TestBuildIsMeant(t *testing.T) {
	for _, n := range someSizes() {
		for _, data := range [][]byte{filled(n, n+1), make([]byte, 64*n), bytes.Repeat([]byte{255}, 64*n), bytes.Repeat(filled(1, 2), n)} {
			tree, root := built(t, data)
			wantTree, wantRoot := meantTree(data)
			if !bytes.Equal(tree, wantTree) {
				t.Errorf("Build of %d sectors: another tree of %d bytes than is meant, of %d", n, len(tree), len(wantTree))
			}
			if !bytes.Equal(root, wantRoot) {
				t.Errorf("Build of %d sectors: root %x; want %x", n, root, wantRoot)
			}
		}
	}
}

// P6.1 (M2): where a level's last sector holds one hash alone, noughts stand behind it, whatever the data; nowhere else.
func TestUnusedIsNoughts(t *testing.T) {
	for _, n := range someSizes() {
		for _, data := range [][]byte{filled(n, 3), bytes.Repeat([]byte{255}, 64*n)} {
			tree, _ := built(t, data)
			below, last := n, 0
			for _, count := range Levels(n) {
				last += count
				for k := last - count; k < last; k++ {
					s := sector(tree, k)
					alone := k == last-1 && below%2 == 1
					if bytes.Equal(s[:32], make([]byte, 32)) || bytes.Equal(s[32:], make([]byte, 32)) != alone {
						t.Errorf("Build of %d sectors: sector %d of the tree: %x", n, k, s)
					}
				}
				below = count
			}
		}
	}
}

// P6.1 (M2): data that is no whole number of sectors, none, or more than there may be: ErrArg, and nothing with it.
func TestBuildWrong(t *testing.T) {
	lengths := []int{0, 64*2048 - 63, 64*2048 - 1, 64*2048 + 1, 64*2048 + 63, 64 * 2049, 64*2049 - 1, 64*2049 + 1, 64 * 2050, 64 * 4096, 64 * 4097, 1 << 20, 1<<20 + 1}
	for length := range 400 {
		if length%64 != 0 {
			lengths = append(lengths, length)
		}
	}
	for _, length := range lengths {
		tree, root, e := Build(make([]byte, length, length+128))
		if len(tree) != 0 || root != [32]byte{} || e != api.ErrArg {
			t.Errorf("Build of %d bytes: %d bytes, %x, %v; want ErrArg", length, len(tree), root, e)
		}
	}
	if tree, root, e := Build(nil); len(tree) != 0 || root != [32]byte{} || e != api.ErrArg {
		t.Errorf("Build of nil: %d bytes, %x, %v; want ErrArg", len(tree), root, e)
	}
}

// P6.2 (own): each data sector of what Build was given is shown by its tree, under its root.
func TestOwn(t *testing.T) {
	for _, n := range someSizes() {
		for _, data := range [][]byte{filled(n, 4), make([]byte, 64*n), bytes.Repeat([]byte{255}, 64*n)} {
			tree, root := built(t, data)
			for i := range n {
				shown(t, n, i, sector(data, i), pathOf(tree, n, i), root)
			}
		}
	}
}

// P6.1 (M3): sectors that no call of the package made show a data sector, whatever else stands in them; in place of a hash that is not used too, as the chapter asks for no more.
func TestCheckTakesAnyTree(t *testing.T) {
	for _, n := range someSizes() {
		for _, i := range []int{0, n / 3, n / 2, n - 1} {
			for seed := range 3 {
				data := filled(1, 5+seed)
				path, root := chain(i, len(meantLevels(n)), data, 6+seed)
				shown(t, n, i, data, path, root)
			}
		}
	}
}

// P6.1 (M3): of n, the levels and whether there is such a data sector matter alone.
func TestCheckOfAnotherSize(t *testing.T) {
	data := filled(5, 7)
	tree, root := built(t, data)
	for i := range 5 {
		path := pathOf(tree, 5, i)
		for n := 1; n <= 20; n++ {
			want := n >= 5 && n <= 8
			if got := Check(n, i, sector(data, i), path, root); got != want {
				t.Errorf("Check(%d, %d) with a tree of 5: %v; want %v", n, i, got, want)
			}
		}
	}
}

// P6.3 (no other): with any one bit of the data, of any sector or of the root another, nothing is shown.
func TestEachBit(t *testing.T) {
	for _, n := range []int{1, 2, 3, 4, 5, 8, 9, 17, 100, 2047, 2048} {
		data := filled(n, 8)
		tree, root := built(t, data)
		for _, i := range []int{0, n / 2, n - 1} {
			own, path := sector(data, i), pathOf(tree, n, i)
			for what, b := range append(slices.Clone(path), own, root) {
				for bit := range 8 * len(b) {
					b[bit/8] ^= 1 << (bit % 8)
					if Check(n, i, own, path, root) {
						t.Errorf("Check(%d, %d): list %d, bit %d turned: true", n, i, what, bit)
					}
					b[bit/8] ^= 1 << (bit % 8)
				}
			}
			shown(t, n, i, own, path, root)
		}
	}
}

// P6.3 (no other): any other sector at a place is not shown: those of other places, of other data, hash sectors, noughts; nor with the way up that would show it.
func TestNoOther(t *testing.T) {
	for _, n := range []int{1, 2, 3, 4, 5, 7, 8, 9, 16, 17} {
		data := filled(n, 9)
		tree, root := built(t, data)
		others := [][]byte{make([]byte, 64), bytes.Repeat([]byte{255}, 64), filled(1, 10)}
		for k := range n {
			others = append(others, sector(data, k))
		}
		for k := range len(tree) / 64 {
			others = append(others, sector(tree, k))
		}
		for i := range n {
			own, path := sector(data, i), pathOf(tree, n, i)
			for _, other := range others {
				if bytes.Equal(other, own) {
					continue
				}
				refused(t, "another sector", n, i, other, path, root)
				forged, _ := chain(i, len(path), other, 11)
				refused(t, "another sector and its own way up", n, i, other, forged, root)
				for from := range len(path) {
					mixed := append(slices.Clone(forged[:from]), path[from:]...)
					refused(t, "another sector and half of its way up", n, i, other, mixed, root)
				}
			}
		}
	}
}

// P6.3 (no other): at another place nothing is shown, where another sector stands there.
func TestOtherPlaces(t *testing.T) {
	for _, n := range []int{1, 2, 3, 4, 5, 8, 9, 33, 64} {
		data := filled(n, 12)
		tree, root := built(t, data)
		for i := range n {
			own := sector(data, i)
			for j := range n {
				if i == j {
					continue
				}
				// Two data sectors whose hashes stand in one sector have one path.
				if i/2 != j/2 {
					refused(t, "the sectors of another place", n, i, own, pathOf(tree, n, j), root)
				}
				refused(t, "at another place", n, j, own, pathOf(tree, n, i), root)
				refused(t, "at another place, with its sectors", n, j, own, pathOf(tree, n, j), root)
			}
		}
	}
	// Where like sectors stand beside each other, each is the other one too.
	like := bytes.Repeat(filled(1, 13), 4)
	tree, root := built(t, like)
	for i := range 4 {
		for j := range 4 {
			shown(t, 4, j, sector(like, i), pathOf(tree, 4, i), root)
		}
	}
}

// P6.1 (M3), P6.3: each level has its own place in its sector: a hash that stands at the other one shows nothing.
func TestOtherHalf(t *testing.T) {
	for _, n := range []int{2, 4, 8, 16, 2048} {
		depth := len(meantLevels(n))
		for _, i := range []int{0, 1, n / 2, n - 1} {
			data := filled(1, 14)
			for turn := range depth {
				path, root := chain(i^1<<turn, depth, data, 15)
				refused(t, "a hash at the other place", n, i, data, path, root)
				shown(t, n, i^1<<turn, data, path, root)
			}
		}
	}
}

// P6.3 (no other): a hash sector passes for no data sector, and a data sector for no hash sector.
func TestMarks(t *testing.T) {
	data := filled(8, 16)
	tree, root := built(t, data)
	for i := range 8 {
		path := pathOf(tree, 8, i)
		refused(t, "a hash sector of level 0 as data", 4, i/2, path[0], path[1:], root)
		refused(t, "a hash sector of level 1 as data", 2, i/4, path[1], path[2:], root)
	}
	for place := range 2 {
		low := filled(1, 17)
		hidden, _ := chain(place, 1, low, 18)
		above, top := built(t, append(bytes.Clone(hidden[0]), filled(1, 19)...))
		shown(t, 2, 0, hidden[0], pathOf(above, 2, 0), top)
		refused(t, "a data sector as a hash sector", 4, place, low, append(hidden, pathOf(above, 2, 0)...), top)
	}
	// Where all hashes are made with one byte, the way up is another one.
	for _, mark := range []byte{0, 1, 2, 255} {
		for _, up := range []byte{0, 1, 2, 255} {
			own := filled(1, 20)
			s := append(digest(mark, own), make([]byte, 32)...)
			if got, want := Check(1, 0, own, [][]byte{s}, digest(up, s)), mark == 0 && up == 1; got != want {
				t.Errorf("Check with hashes of %d and %d: %v; want %v", mark, up, got, want)
			}
		}
	}
}

// P6.1 (M3): a sector too few or too many, none, one twice, or all of them in another order.
func TestOtherSectors(t *testing.T) {
	for _, n := range []int{1, 2, 3, 4, 5, 8, 9, 100, 2048} {
		data := filled(n, 21)
		tree, root := built(t, data)
		for _, i := range []int{0, n / 2, n - 1} {
			own, path := sector(data, i), pathOf(tree, n, i)
			refused(t, "no sectors", n, i, own, nil, root)
			refused(t, "no sectors", n, i, own, [][]byte{}, root)
			for k := range path {
				refused(t, "one too few", n, i, own, slices.Delete(slices.Clone(path), k, k+1), root)
				refused(t, "one twice", n, i, own, slices.Insert(slices.Clone(path), k, path[k]), root)
				refused(t, "one too many", n, i, own, slices.Insert(slices.Clone(path), k, make([]byte, 64)), root)
				for other := range k {
					turned := slices.Clone(path)
					turned[k], turned[other] = turned[other], turned[k]
					refused(t, "two in another order", n, i, own, turned, root)
				}
			}
			refused(t, "one too many", n, i, own, append(slices.Clone(path), make([]byte, 64)), root)
			refused(t, "none at the end", n, i, own, append(slices.Clone(path), nil), root)
			if len(path) > 1 {
				slices.Reverse(path)
				refused(t, "the other way round", n, i, own, path, root)
			}
		}
	}
}

// P6.1 (M3): a way up of more or of fewer levels than there are, with which all else is right.
func TestOtherDepths(t *testing.T) {
	for _, n := range someSizes() {
		depth := len(meantLevels(n))
		for _, i := range []int{0, n - 1} {
			for other := range depth + 4 {
				path, root := chain(i, other, filled(1, 22), 23)
				if got, want := Check(n, i, filled(1, 22), path, root), other == depth; got != want {
					t.Errorf("Check(%d, %d) with %d sectors: %v; want %v", n, i, other, got, want)
				}
			}
		}
	}
}

// P6.1 (M3): data, or a sector, of another length, where every hash is right.
func TestOtherLengths(t *testing.T) {
	lengths := []int{0, 1, 16, 31, 32, 33, 48, 62, 63, 65, 66, 95, 96, 127, 128, 129, 4096}
	for _, n := range []int{1, 2, 3, 5, 9, 2048} {
		depth := len(meantLevels(n))
		for _, i := range []int{0, n / 2, n - 1} {
			for _, length := range lengths {
				data := filled(64, 24)[:length]
				path, root := chain(i, depth, data, 25)
				refused(t, "data of another length", n, i, data, path, root)
				for cut := range depth {
					own := filled(1, 26)
					path, root := otherLength(i, depth, own, cut, length)
					refused(t, "a sector of another length", n, i, own, path, root)
				}
			}
			path, root := chain(i, depth, nil, 27)
			refused(t, "no data", n, i, nil, path, root)
		}
	}
}

// otherLength is a chain in which the sector number cut has another length.
func otherLength(i, depth int, data []byte, cut, length int) (path [][]byte, root []byte) {
	h := digest(0, data)
	for k := range depth {
		s := make([]byte, 64)
		if k == cut {
			s = make([]byte, length)
		}
		if at := i & 1 * 32; at < len(s) {
			copy(s[at:], h)
		}
		path = append(path, s)
		h, i = digest(1, s), i>>1
	}
	return path, h
}

// P6.1 (M3): a root of another length, that begins or ends with the right one too, and roots of other trees.
func TestOtherRoots(t *testing.T) {
	for _, n := range []int{1, 2, 3, 5, 9, 2048} {
		data := filled(n, 28)
		tree, root := built(t, data)
		_, elsewhere := built(t, filled(n, 29))
		for _, i := range []int{0, n / 2, n - 1} {
			own, path := sector(data, i), pathOf(tree, n, i)
			top := path[len(path)-1]
			for _, other := range [][]byte{
				nil, {}, root[:1], root[:16], root[:31], root[1:], make([]byte, 31), make([]byte, 32), make([]byte, 33),
				append(bytes.Clone(root), 0), append([]byte{0}, root...), append(bytes.Clone(root), root...),
				elsewhere, digest(0, top), digest(0, own), top[:32], top,
			} {
				refused(t, "another root", n, i, own, path, other)
			}
			shown(t, n, i, own, path, root)
		}
	}
}

// P6.1 (M3): no tree has so many data sectors, or no such one: false, where every hash is right too.
func TestCheckWrongNumbers(t *testing.T) {
	data := filled(1, 30)
	for _, n := range wrongSizes {
		for _, i := range append(wrongPlaces(n), 0, 1, 2, 2047) {
			for depth := range 14 {
				path, root := chain(i, depth, data, 31)
				refused(t, "no such tree", n, i, data, path, root)
			}
		}
	}
	for _, n := range someSizes() {
		for _, i := range wrongPlaces(n) {
			if i >= 0 && i < n {
				continue
			}
			path, root := chain(i, len(meantLevels(n)), data, 32)
			refused(t, "no such data sector", n, i, data, path, root)
		}
	}
}

// P6.1, rule 4: what is handed in stays as it is, with what lies behind it, which is not heard either.
func TestArgumentsStay(t *testing.T) {
	for _, n := range []int{1, 2, 3, 5, 8, 9, 31} {
		memory := filled(n+4, 33)
		tree, root := built(t, memory[:64*n])
		if !bytes.Equal(memory, filled(n+4, 33)) {
			t.Errorf("Build of %d sectors: its data is changed, or what lies behind it", n)
		}
		if _, _, e := Build(memory[:64*n+1]); e != api.ErrArg || !bytes.Equal(memory, filled(n+4, 33)) {
			t.Errorf("Build of %d bytes: its data is changed, or what lies behind it", 64*n+1)
		}
		clear(memory[64*n:])
		again, same := built(t, memory[:64*n])
		if !bytes.Equal(again, tree) || !bytes.Equal(same, root) {
			t.Errorf("Build of %d sectors: what lies behind its data is heard", n)
		}
		for i := range n {
			checkStays(t, n, i, memory[:64*n], tree, root)
		}
	}
}

// checkStays holds what Check is handed, and what lies behind it, against what it was.
func checkStays(t *testing.T, n, i int, data, tree, root []byte) {
	t.Helper()
	lists := append(pathOf(tree, n, i), sector(data, i), bytes.Clone(root))
	behind := filled(2, 34)
	var handed, before [][]byte
	for _, b := range lists {
		whole := append(bytes.Clone(b), behind...)
		handed, before = append(handed, whole[:len(b)]), append(before, bytes.Clone(whole))
	}
	last := len(handed) - 1
	shown(t, n, i, handed[last-1], handed[:last-1], handed[last])
	refused(t, "data too short", n, i, handed[last-1][:63], handed[:last-1], handed[last])
	refused(t, "data too long", n, i, handed[last-1][:65], handed[:last-1], handed[last])
	refused(t, "a sector too many", n, i, handed[last-1], handed[:last], handed[last])
	for k, b := range handed {
		if !bytes.Equal(b[:len(before[k])], before[k]) {
			t.Errorf("Check(%d, %d): list %d is changed, or what lies behind it", n, i, k)
		}
	}
}

// P6.1, rule 4, P2: what is answered is new memory, and the same again, whatever was written into it and whatever was asked ahead.
func TestAnswersAreNew(t *testing.T) {
	for _, n := range []int{1, 2, 3, 5, 8, 9, 31, 2048} {
		data := filled(n, 35)
		wantTree, wantRoot := meantTree(data)
		for range 3 {
			counts, path := Levels(n), Path(n, n-1)
			tree, root := built(t, data)
			if !slices.Equal(counts, meantLevels(n)) || !slices.Equal(path, meantPath(n, n-1)) {
				t.Errorf("%d data sectors: other levels than before", n)
			}
			if !bytes.Equal(tree, wantTree) || !bytes.Equal(root, wantRoot) {
				t.Errorf("%d data sectors: another tree than before", n)
			}
			other, _ := built(t, data)
			clear(counts[:cap(counts)])
			clear(path[:cap(path)])
			clear(tree[:cap(tree)])
			if !bytes.Equal(data, filled(n, 35)) {
				t.Errorf("%d data sectors: what is written into an answer is in the data", n)
			}
			if !bytes.Equal(other, wantTree) {
				t.Errorf("%d data sectors: two answers share memory", n)
			}
			shown(t, n, n-1, sector(data, n-1), pathOf(wantTree, n, n-1), wantRoot)
			Levels(n + 1)
			Path(n, n)
			Build(data[1:])
		}
		tree, _ := built(t, data)
		clear(data)
		if !bytes.Equal(tree, wantTree) {
			t.Errorf("%d data sectors: what the data's owner writes is in the tree", n)
		}
	}
}

// P6.1, P6.2, P6.3: any data, any place, any byte of it changed.
func FuzzTree(f *testing.F) {
	f.Add(filled(5, 36), 4, 0, byte(1))
	f.Add(filled(1, 37), 0, 63, byte(128))
	f.Add(filled(8, 38), 8, 70, byte(255))
	f.Add([]byte{}, 0, 0, byte(0))
	f.Add(filled(2, 39)[:65], -1, -1, byte(7))
	f.Fuzz(func(t *testing.T, data []byte, i, at int, turn byte) {
		tree, root, e := Build(data)
		n := len(data) / 64
		if len(data)%64 != 0 || n < 1 || n > api.MaxSectors {
			if len(tree) != 0 || root != [32]byte{} || e != api.ErrArg {
				t.Fatalf("Build of %d bytes: %d bytes, %x, %v", len(data), len(tree), root, e)
			}
			return
		}
		wantTree, wantRoot := meantTree(data)
		if !bytes.Equal(tree, wantTree) || !bytes.Equal(root[:], wantRoot) || e != api.OK {
			t.Fatalf("Build of %d sectors: root %x, %v; want %x", n, root, e, wantRoot)
		}
		path := pathOf(tree, n, i)
		if i < 0 || i >= n {
			refused(t, "no such data sector", n, i, filled(1, 40), path, root[:])
			return
		}
		own := sector(data, i)
		shown(t, n, i, own, path, root[:])
		own[uint(at)%64] ^= turn
		if turn != 0 {
			refused(t, "a byte turned", n, i, own, path, root[:])
		}
	})
}

// P1: Check ends and does not panic, whatever it is given; what it takes is as the chapter says.
func FuzzCheck(f *testing.F) {
	path, root := chain(4, 3, filled(1, 41), 42)
	f.Add(5, 4, filled(1, 41), bytes.Join(path, nil), 64, root)
	f.Add(1, 0, filled(1, 43), []byte{}, 0, []byte{})
	f.Add(2048, -1, []byte{}, filled(11, 44), 64, make([]byte, 32))
	f.Add(math.MinInt, math.MaxInt, filled(2, 45), filled(3, 46), 63, make([]byte, 33))
	f.Fuzz(func(t *testing.T, n, i int, data, sectors []byte, size int, root []byte) {
		var list [][]byte
		if size > 0 {
			list = slices.Collect(slices.Chunk(sectors, size))
		}
		want := len(data) == 64 && n >= 1 && n <= api.MaxSectors && i >= 0 && i < n && len(list) == len(meantLevels(n))
		h, place := digest(0, data), i
		for _, s := range list {
			want = want && len(s) == 64 && bytes.Equal(s[place%2*32:place%2*32+32], h)
			h, place = digest(1, s), place/2
		}
		if want = want && bytes.Equal(h, root); Check(n, i, data, list, root) != want {
			t.Errorf("Check(%d, %d, %x, %x, %x): %v; want %v", n, i, data, list, root, !want, want)
		}
	})
}
