package area

import (
	"math"
	"slices"
	"testing"

	"cofferdam/api"
)

// most is how many sectors may be shared out.
const most = 8192

// end is where a range that shares a sector may end.
const end = 1<<31 - 1

// wrongNumbers are such as lie below the least and above the greatest that any call takes.
var wrongNumbers = []int{math.MinInt, math.MinInt + 1, -1 << 31, -most - 1, -most, -2, -1, most + 1, most + 2, 2 * most, 1 << 16, 1 << 31, 1 << 32, math.MaxInt - 1, math.MaxInt}

// meantTags is how many sectors of tags so many data sectors need, counted one by one.
func meantTags(d int) int {
	sectors := 0
	for 4*sectors < d {
		sectors++
	}
	return sectors
}

// meantHashes is how many hash sectors stand above so many data sectors, by the words of the chapter on trees.
func meantHashes(d int) int {
	if d == 0 {
		return 0
	}
	level := d/2 + d%2
	all := level
	for level > 1 {
		level = level/2 + level%2
		all += level
	}
	return all
}

// meantRest is the rest of each number of data sectors up to limit.
func meantRest(limit int, rest func(int) int) []int {
	var l []int
	for d := range limit + 1 {
		l = append(l, rest(d))
	}
	return l
}

// meantData is the greatest d with d and its rest at most n: all of them are tried, from the greatest on.
func meantData(n int, rest []int) (int, int) {
	if n < 0 || n > most {
		return 0, 0
	}
	for d := len(rest) - 1; d > 0; d-- {
		if d+rest[d] <= n {
			return d, rest[d]
		}
	}
	return 0, 0
}

// meantTable is how many chunks an origin has, and how many sectors their table, counted one by one.
func meantTable(origin, chunk int) (chunks, table int) {
	for chunks*chunk < origin {
		chunks++
	}
	for table*16 < chunks {
		table++
	}
	return chunks, table
}

// meantStore is table and slots by the chapter's words: slots are laid one behind the other while one fits.
func meantStore(n, origin, chunk int) (int, int) {
	if n < 1 || n > most || origin < 1 || origin > most || chunk < 1 || chunk > 16 {
		return 0, 0
	}
	chunks, table := meantTable(origin, chunk)
	slots := 0
	for next := table + chunk; next <= n && slots < chunks; next += chunk {
		slots++
	}
	if slots == 0 {
		return 0, 0
	}
	return table, slots
}

// holdIntegrity fails if Integrity tells other numbers.
func holdIntegrity(t *testing.T, n, data, rest int) {
	t.Helper()
	if d, r := Integrity(n); d != data || r != rest {
		t.Errorf("Integrity(%d): %d, %d; want %d, %d", n, d, r, data, rest)
	}
}

// holdVerity fails if Verity tells other numbers.
func holdVerity(t *testing.T, n, data, rest int) {
	t.Helper()
	if d, r := Verity(n); d != data || r != rest {
		t.Errorf("Verity(%d): %d, %d; want %d, %d", n, d, r, data, rest)
	}
}

// holdStore fails if Store tells other numbers.
func holdStore(t *testing.T, n, origin, chunk, table, slots int) {
	t.Helper()
	if a, s := Store(n, origin, chunk); a != table || s != slots {
		t.Errorf("Store(%d, %d, %d): %d, %d; want %d, %d", n, origin, chunk, a, s, table, slots)
	}
}

// P12.1 (G1): Integrity, by numbers reckoned by hand.
func TestIntegrity(t *testing.T) {
	for _, c := range [][3]int{
		{0, 0, 0}, {1, 0, 0}, {2, 1, 1}, {3, 2, 1}, {4, 3, 1}, {5, 4, 1},
		{6, 4, 1}, // five data sectors need two of tags: seven in all
		{7, 5, 2}, {9, 7, 2}, {10, 8, 2}, {11, 8, 2}, {12, 9, 3}, {100, 80, 20}, {101, 80, 20},
		{2048, 1638, 410}, {2560, 2048, 512}, {2561, 2048, 512}, {2562, 2049, 513}, // tags are not bound to MaxSectors
		{8190, 6552, 1638}, {8191, 6552, 1638}, {8192, 6553, 1639},
	} {
		holdIntegrity(t, c[0], c[1], c[2])
	}
}

// P12.1 (G1): Integrity at every n.
func TestIntegrityAll(t *testing.T) {
	rest := meantRest(most, meantTags)
	for n := range most + 1 {
		data, tags := meantData(n, rest)
		holdIntegrity(t, n, data, tags)
	}
}

// P12.1 (G1): Verity, by numbers reckoned by hand.
func TestVerity(t *testing.T) {
	for _, c := range [][3]int{
		{0, 0, 0}, {1, 0, 0}, {2, 1, 1}, {3, 2, 1}, {4, 2, 1}, {5, 2, 1}, {6, 3, 3}, {7, 4, 3}, {8, 4, 3},
		{10, 4, 3}, // five data sectors have levels of 3, 2 and 1: eleven in all
		{11, 5, 6}, {12, 6, 6}, {13, 6, 6}, {14, 7, 7}, {15, 8, 7}, {16, 8, 7}, {19, 8, 7}, {20, 9, 11},
		{4093, 2046, 2046}, {4094, 2047, 2047}, {4095, 2048, 2047}, // as many as a tree takes
		{4096, 2048, 2047}, {4097, 2048, 2047}, {4108, 2048, 2047}, {8191, 2048, 2047}, {8192, 2048, 2047},
	} {
		holdVerity(t, c[0], c[1], c[2])
	}
}

// P12.1 (G1): Verity at every n.
func TestVerityAll(t *testing.T) {
	rest := meantRest(api.MaxSectors, meantHashes)
	for n := range most + 1 {
		data, hashes := meantData(n, rest)
		holdVerity(t, n, data, hashes)
	}
}

// P12.1 (G1): wrong numbers of sectors.
func TestSizesWrong(t *testing.T) {
	for _, n := range wrongNumbers {
		holdIntegrity(t, n, 0, 0)
		holdVerity(t, n, 0, 0)
	}
}

// P12.1 (G2): Store, by numbers reckoned by hand.
func TestStore(t *testing.T) {
	for _, c := range [][5]int{
		{10, 40, 4, 1, 2}, {4, 40, 4, 0, 0}, {5, 40, 4, 1, 1}, {8, 40, 4, 1, 1}, {9, 40, 4, 1, 2}, {12, 40, 4, 1, 2}, {13, 40, 4, 1, 3},
		{40, 40, 4, 1, 9}, {41, 40, 4, 1, 10}, {42, 40, 4, 1, 10}, {45, 40, 4, 1, 10}, {8192, 40, 4, 1, 10}, // no more slots than chunks
		{1, 1, 1, 0, 0}, {2, 1, 1, 1, 1}, {3, 1, 1, 1, 1}, {8192, 1, 1, 1, 1},
		{16, 1, 16, 0, 0}, {17, 1, 16, 1, 1}, {8192, 1, 16, 1, 1}, // a slot has a whole chunk, however small the origin is
		{5, 4, 4, 1, 1}, {9, 4, 4, 1, 1}, {8, 5, 4, 1, 1}, {9, 5, 4, 1, 2}, {13, 5, 4, 1, 2},
		{2, 16, 1, 1, 1}, {17, 16, 1, 1, 16}, {18, 16, 1, 1, 16},
		{2, 17, 1, 0, 0}, {3, 17, 1, 2, 1}, {18, 17, 1, 2, 16}, {19, 17, 1, 2, 17}, {20, 17, 1, 2, 17}, // the table takes a second sector
		{16, 256, 16, 0, 0}, {17, 256, 16, 1, 1}, {257, 256, 16, 1, 16}, {258, 256, 16, 1, 16},
		{17, 257, 16, 0, 0}, {18, 257, 16, 2, 1}, {273, 257, 16, 2, 16}, {274, 257, 16, 2, 17}, {8192, 257, 16, 2, 17},
		{1, 8192, 1, 0, 0}, {512, 8192, 1, 0, 0}, {513, 8192, 1, 512, 1}, {8191, 8192, 1, 512, 7679}, {8192, 8192, 1, 512, 7680},
		{47, 8192, 16, 0, 0}, {48, 8192, 16, 32, 1}, {8191, 8192, 16, 32, 509}, {8192, 8192, 16, 32, 510},
		{8192, 8191, 16, 32, 510}, {8192, 2048, 16, 8, 128},
	} {
		holdStore(t, c[0], c[1], c[2], c[3], c[4])
	}
}

// origins are numbers of sectors at both sides of one chunk, of some and of as many as a sector of the table has entries for.
func origins(chunk int) []int {
	l := []int{1, 2, 100, 777, most - 1, most}
	for _, chunks := range []int{1, 2, 15, 16, 17, 32, 33, 500} {
		l = append(l, chunks*chunk-1, chunks*chunk, chunks*chunk+1)
	}
	return slices.DeleteFunc(l, func(origin int) bool { return origin > most })
}

// P12.1 (G2): Store at every n, with each chunk. A slot more fits where n comes to its last sector.
func TestStoreAll(t *testing.T) {
	for chunk := 1; chunk <= 16; chunk++ {
		for _, origin := range origins(chunk) {
			chunks, table := meantTable(origin, chunk)
			slots, next := 0, table+chunk
			for n := range most + 1 {
				if n == next && slots < chunks {
					slots, next = slots+1, next+chunk
				}
				if slots == 0 || origin == 0 {
					holdStore(t, n, origin, chunk, 0, 0)
				} else {
					holdStore(t, n, origin, chunk, table, slots)
				}
			}
		}
	}
}

// P12.1 (G2): Store of small stores, all of them.
func TestStoreSmall(t *testing.T) {
	for n := -1; n <= 40; n++ {
		for origin := -1; origin <= 70; origin++ {
			for chunk := -1; chunk <= 18; chunk++ {
				table, slots := meantStore(n, origin, chunk)
				holdStore(t, n, origin, chunk, table, slots)
			}
		}
	}
}

// P12.1 (G2): wrong numbers, each alone and several at once.
func TestStoreWrong(t *testing.T) {
	sizes := append([]int{0, 1, 16, 17, 40, most - 1, most}, wrongNumbers...)
	chunks := append([]int{0, 1, 4, 15, 16, 17, 18, 32, most}, wrongNumbers...)
	for _, n := range sizes {
		for _, origin := range sizes {
			for _, chunk := range chunks {
				table, slots := meantStore(n, origin, chunk)
				holdStore(t, n, origin, chunk, table, slots)
			}
		}
	}
	for _, bad := range append([]int{0}, wrongNumbers...) {
		holdStore(t, bad, 40, 4, 0, 0)
		holdStore(t, 10, bad, 4, 0, 0)
		holdStore(t, 10, 40, bad, 0, 0)
		holdStore(t, bad, bad, bad, 0, 0)
	}
	holdStore(t, 100, 40, 17, 0, 0)
	holdStore(t, 8193, 40, 4, 0, 0)
	holdStore(t, 100, 8193, 4, 0, 0)
}

// P12.2: data and the rest fit, and with one data sector more they would not.
func TestUsedWell(t *testing.T) {
	for n := range most + 1 {
		d, r := Integrity(n)
		if r != meantTags(d) || d+r > n || d+1+meantTags(d+1) <= n {
			t.Errorf("Integrity(%d): %d, %d", n, d, r)
		}
		d, r = Verity(n)
		if r != meantHashes(d) || d+r > n || d > api.MaxSectors || d < api.MaxSectors && d+1+meantHashes(d+1) <= n {
			t.Errorf("Verity(%d): %d, %d", n, d, r)
		}
	}
	for chunk := 1; chunk <= 16; chunk++ {
		for _, origin := range origins(chunk) {
			if origin == 0 {
				continue
			}
			chunks, table := meantTable(origin, chunk)
			for n := 1; n <= most; n += 7 {
				a, s := Store(n, origin, chunk)
				if a+s*chunk > n || s > chunks || s > 0 && a != table || s == 0 && a != 0 || s < chunks && table+(s+1)*chunk <= n {
					t.Errorf("Store(%d, %d, %d): %d, %d", n, origin, chunk, a, s)
				}
			}
		}
	}
}

// holdOverlap fails if Overlap tells other numbers.
func holdOverlap(t *testing.T, l [][3]int, i, j int) {
	t.Helper()
	if a, b := Overlap(l); a != i || b != j {
		t.Errorf("Overlap(%v): %d, %d; want %d, %d", l, a, b, i, j)
	}
}

// meantShare tells whether two ranges share a sector: where the later of their first sectors lies ahead of both ends.
func meantShare(a, b [3]int) bool {
	for _, r := range [][3]int{a, b} {
		if r[1] < 0 || r[2] <= 0 || uint64(r[1])+uint64(r[2]) > end {
			return false
		}
	}
	return a[0] == b[0] && max(a[1], b[1]) < min(a[1]+a[2], b[1]+b[2])
}

// meantOverlap is the pair with the least j, and for that the least i, of all pairs that share a sector.
func meantOverlap(l [][3]int) (int, int) {
	best := [2]int{-1, -1}
	for i := range l {
		for j := i + 1; j < len(l); j++ {
			if meantShare(l[i], l[j]) && (best[1] < 0 || j < best[1] || j == best[1] && i < best[0]) {
				best = [2]int{i, j}
			}
		}
	}
	return best[0], best[1]
}

// sectorsOf are the sectors of a small range, one by one.
func sectorsOf(r [3]int) [][2]int {
	var l [][2]int
	for k := 0; r[1] >= 0 && k < r[2]; k++ {
		l = append(l, [2]int{r[0], r[1] + k})
	}
	return l
}

// P12.1 (G3): two ranges that share a sector, or touch, or lie apart.
func TestOverlapPairs(t *testing.T) {
	for _, c := range []struct {
		a, b [3]int
		want bool
	}{
		{[3]int{0, 0, 4}, [3]int{0, 0, 4}, true},
		{[3]int{0, 0, 4}, [3]int{0, 3, 1}, true},
		{[3]int{0, 0, 4}, [3]int{0, 3, 9}, true},
		{[3]int{0, 0, 4}, [3]int{0, 4, 9}, false}, // they touch
		{[3]int{0, 4, 2}, [3]int{0, 0, 9}, true},
		{[3]int{0, 4, 2}, [3]int{0, 6, 1}, false},
		{[3]int{0, 4, 2}, [3]int{0, 5, 1}, true},
		{[3]int{0, 0, 1}, [3]int{0, 0, 1}, true},
		{[3]int{0, 0, 1}, [3]int{0, 1, 1}, false},
		{[3]int{0, 0, 4}, [3]int{1, 0, 4}, false}, // on another device
		{[3]int{7, 0, 4}, [3]int{7, 2, 1}, true},
		{[3]int{-1, 0, 4}, [3]int{-1, 2, 1}, true}, // the chapter bounds no device's number
		{[3]int{math.MaxInt, 0, 4}, [3]int{math.MinInt, 2, 1}, false},
		{[3]int{0, 1, 0}, [3]int{0, 0, 4}, false}, // no sector inside another range
		{[3]int{0, 0, 0}, [3]int{0, 0, 0}, false},
		{[3]int{0, 2, 0}, [3]int{0, 2, 1}, false},
		{[3]int{0, -1, 4}, [3]int{0, 0, 4}, false},
		{[3]int{0, -1, 4}, [3]int{0, -1, 4}, false},
		{[3]int{0, 4, -2}, [3]int{0, 0, 9}, false},
		{[3]int{0, 4, -2}, [3]int{0, 4, -2}, false},
		{[3]int{0, -4, -2}, [3]int{0, 0, 9}, false},
	} {
		i, j := -1, -1
		if c.want {
			i, j = 0, 1
		}
		holdOverlap(t, [][3]int{c.a, c.b}, i, j)
		holdOverlap(t, [][3]int{c.b, c.a}, i, j)
	}
}

// P12.1 (G3): ranges that end at the greatest place, and further on.
func TestOverlapFar(t *testing.T) {
	last := [3]int{0, end - 1, 1}
	for _, r := range [][3]int{last, {0, end - 2, 2}, {0, 0, end}, {0, 1, end - 1}, {0, 5, end - 5}} {
		holdOverlap(t, [][3]int{last, r}, 0, 1)
		holdOverlap(t, [][3]int{r, last}, 0, 1)
		holdOverlap(t, [][3]int{r, r}, 0, 1)
	}
	for _, r := range [][3]int{
		{0, end - 1, 2}, {0, end, 1}, {0, 0, end + 1}, {0, 1, end}, {0, end, 0}, {0, end + 1, 0}, {0, end, end}, {0, end + 1, 1},
		{0, math.MaxInt, 1}, {0, 1, math.MaxInt}, {0, math.MaxInt, math.MaxInt}, {0, math.MaxInt - 1, 1}, {0, 0, math.MaxInt},
		{0, math.MaxInt/2 + 1, math.MaxInt/2 + 1}, {0, math.MaxInt, 5}, {0, 1 << 62, 1 << 62},
		{0, math.MinInt, 1}, {0, math.MinInt, math.MaxInt}, {0, -1, end + 1}, {0, -1, end}, {0, -end, 2 * end},
		{0, 1, math.MinInt}, {0, math.MinInt, math.MinInt}, {0, end - 1, -1}, {0, math.MinInt, -1}, {0, math.MaxInt, math.MinInt},
	} {
		for _, good := range [][3]int{last, {0, 0, end}, {0, 0, 4}, {0, 1, 1}, {0, 5, 9}} {
			holdOverlap(t, [][3]int{good, r}, -1, -1)
			holdOverlap(t, [][3]int{r, good}, -1, -1)
			holdOverlap(t, [][3]int{r, good, r, good}, 1, 3)
		}
		holdOverlap(t, [][3]int{r, r}, -1, -1)
	}
}

// P12.1 (G3): lists: of all pairs, the one with the least j, and for that the least i.
func TestOverlapLists(t *testing.T) {
	holdOverlap(t, nil, -1, -1)
	holdOverlap(t, [][3]int{}, -1, -1)
	holdOverlap(t, [][3]int{{0, 0, 4}}, -1, -1)
	holdOverlap(t, [][3]int{{0, 0, 0}}, -1, -1)
	holdOverlap(t, [][3]int{{0, 0, 4}, {1, 0, 9}, {0, 4, 1}, {0, 3, 1}}, 0, 3)
	holdOverlap(t, [][3]int{{0, 0, 4}, {0, 4, 0}, {0, 4, 2}}, -1, -1)
	holdOverlap(t, [][3]int{{0, 0, 2}, {0, 2, 2}, {0, 4, 2}, {0, 6, 2}, {1, 0, 8}, {2, 3, 1}}, -1, -1)
	holdOverlap(t, [][3]int{{0, 6, 2}, {0, 4, 2}, {0, 2, 2}, {0, 0, 2}}, -1, -1)
	// The pair 0, 3 has the least i; 1, 2 the least j.
	holdOverlap(t, [][3]int{{0, 0, 2}, {0, 4, 2}, {0, 5, 2}, {0, 1, 2}}, 1, 2)
	// Both 1 and 2 share a sector with 3; 2 lies ahead of 1.
	holdOverlap(t, [][3]int{{1, 0, 9}, {0, 4, 2}, {0, 0, 2}, {0, 0, 9}}, 1, 3)
	holdOverlap(t, [][3]int{{0, 8, 1}, {0, 0, 2}, {0, 4, 2}, {0, 0, 9}}, 0, 3)
	// All share one sector.
	holdOverlap(t, [][3]int{{3, 5, 1}, {3, 5, 1}, {3, 5, 1}}, 0, 1)
	holdOverlap(t, [][3]int{{0, 0, 1}, {1, 0, 1}, {2, 0, 1}, {1, 0, 1}, {0, 0, 1}}, 1, 3)
	// One of no sector, one below 0, ahead of those that share one.
	holdOverlap(t, [][3]int{{0, 1, 0}, {0, -1, 3}, {0, 0, 3}, {0, 1, 0}, {0, 2, 1}}, 2, 4)
}

// P12.1 (G3): all lists of three small ranges, whose sectors are held against each other one by one.
func TestOverlapSmall(t *testing.T) {
	var all [][3]int
	for device := range 2 {
		for first := -1; first <= 3; first++ {
			for count := -1; count <= 3; count++ {
				all = append(all, [3]int{device, first, count})
			}
		}
	}
	both := make([][]bool, len(all))
	for a, r := range all {
		for _, s := range all {
			common := slices.ContainsFunc(sectorsOf(r), func(x [2]int) bool { return slices.Contains(sectorsOf(s), x) })
			both[a] = append(both[a], common)
		}
	}
	for a := range all {
		for b := range all {
			for c := range all {
				i, j := -1, -1
				switch {
				case both[a][b]:
					i, j = 0, 1
				case both[a][c]:
					i, j = 0, 2
				case both[b][c]:
					i, j = 1, 2
				}
				holdOverlap(t, [][3]int{all[a], all[b], all[c]}, i, j)
			}
		}
	}
}

// P12.1 (G3): many lists, of some ranges on some devices.
func TestOverlapMany(t *testing.T) {
	state := uint32(12)
	next := func(below int) int {
		state = state*1664525 + 1013904223
		return int(state>>8) % below
	}
	told := 0
	for round := range 3000 {
		var l [][3]int
		for range next(24) {
			l = append(l, [3]int{next(3), next(200+round) - 2, next(12) - 1})
		}
		i, j := meantOverlap(l)
		holdOverlap(t, l, i, j)
		if i >= 0 {
			told++
		}
	}
	if told < 300 || told > 2700 {
		t.Errorf("%d lists of 3000 have such a pair: the test says little", told)
	}
}

// P12.1 (G3): as many ranges as an exported node may have, and more, apart till the last one.
func TestOverlapLong(t *testing.T) {
	var l [][3]int
	for k := range 1000 {
		l = append(l, [3]int{k % 8, 5 * (k / 8), 5})
	}
	holdOverlap(t, l, -1, -1)
	for _, k := range []int{0, 1, 7, 8, 500, 999} {
		holdOverlap(t, append(slices.Clone(l), [3]int{l[k][0], l[k][1] + 4, 1}), k, 1000)
	}
}

// Rule 4: the list stays as it is, and what lies behind its length is not read.
func TestListStays(t *testing.T) {
	l := [][3]int{{0, 9, 2}, {0, 4, 2}, {0, 0, 2}, {0, 0, 2}, {0, 9, 1}}
	before := slices.Clone(l)
	holdOverlap(t, l[:3], -1, -1)
	holdOverlap(t, l[:0], -1, -1)
	holdOverlap(t, l, 2, 3)
	if !slices.Equal(l, before) {
		t.Errorf("Overlap writes into its list: %v", l)
	}
}

// P2: other calls ahead do not change what a call answers; a list may be changed between two.
func TestAnswersStay(t *testing.T) {
	l := [][3]int{{0, 0, 4}, {0, 3, 1}}
	for range 3 {
		holdIntegrity(t, 10, 8, 2)
		holdVerity(t, 8193, 0, 0)
		holdVerity(t, 10, 4, 3)
		holdIntegrity(t, -1, 0, 0)
		holdStore(t, 10, 40, 4, 1, 2)
		holdStore(t, 10, 40, 17, 0, 0)
		holdOverlap(t, l, 0, 1)
		l[1][1] = 4
		holdOverlap(t, l, -1, -1)
		l[1][1] = 3
	}
}

// P12.1, P1: any numbers.
func FuzzSizes(f *testing.F) {
	f.Add(10, 40, 4)
	f.Add(8192, 8192, 16)
	f.Add(0, 1, 1)
	f.Add(math.MinInt, math.MaxInt, -1)
	tags, hashes := meantRest(most, meantTags), meantRest(api.MaxSectors, meantHashes)
	f.Fuzz(func(t *testing.T, n, origin, chunk int) {
		data, rest := meantData(n, tags)
		holdIntegrity(t, n, data, rest)
		data, rest = meantData(n, hashes)
		holdVerity(t, n, data, rest)
		table, slots := meantStore(n, origin, chunk)
		holdStore(t, n, origin, chunk, table, slots)
	})
}

// P12.1, P1: any three ranges, on one device and on two.
func FuzzOverlap(f *testing.F) {
	f.Add(0, 4, 4, 1, 3, 1, false)
	f.Add(end-1, 1, end, 1, 0, end, true)
	f.Add(math.MaxInt, math.MaxInt, math.MinInt, -1, 1, math.MaxInt, false)
	f.Fuzz(func(t *testing.T, a, n, b, m, c, k int, other bool) {
		l := [][3]int{{0, a, n}, {0, b, m}, {0, c, k}}
		if other {
			l[1][0] = 1
		}
		i, j := meantOverlap(l)
		holdOverlap(t, l, i, j)
	})
}
