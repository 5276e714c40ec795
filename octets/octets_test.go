package octets

import (
	"bytes"
	"math"
	"math/big"
	"slices"
	"testing"

	"cofferdam/api"
)

// numbers are those at both sides of every count of bytes, and some between.
func numbers() []uint64 {
	l := []uint64{0, 1, 2, 127, 128, 258, 0x0102030405060708, 0xfedcba9876543210, math.MaxUint64 - 1, math.MaxUint64}
	for k := 1; k < 8; k++ {
		edge := uint64(1) << (8 * k)
		l = append(l, edge-1, edge, edge+1)
	}
	return l
}

// byteStrings are bytes of all lengths that stand for a number.
func byteStrings() [][]byte {
	var l [][]byte
	for size := 1; size <= 8; size++ {
		l = append(l, make([]byte, size), bytes.Repeat([]byte{255}, size), []byte("\x80\x01\x00\xff\x7f\x10\xfe\x02")[:size])
		first, last := make([]byte, size), make([]byte, size)
		first[0], last[size-1] = 1, 1
		l = append(l, first, last)
	}
	return l
}

// P1.1 (O1): Get.
func TestGet(t *testing.T) {
	for _, c := range []struct {
		b []byte
		n uint64
	}{
		{[]byte{0}, 0},
		{[]byte{7}, 7},
		{[]byte{255}, 255},
		{[]byte{255, 254}, 65534},
		{[]byte{0, 1, 2}, 258},
		{[]byte{1, 2, 3, 4, 5, 6, 7, 8}, 0x0102030405060708},
		{[]byte{128, 0, 0, 0, 0, 0, 0, 0}, 1 << 63},
		{bytes.Repeat([]byte{255}, 8), math.MaxUint64},
		{make([]byte, 8), 0},
	} {
		if n, e := Get(c.b); n != c.n || e != api.OK {
			t.Errorf("Get(%v): %d, %v; want %d", c.b, n, e, c.n)
		}
	}
	for _, b := range byteStrings() {
		want := new(big.Int).SetBytes(b).Uint64()
		if n, e := Get(b); n != want || e != api.OK {
			t.Errorf("Get(%v): %d, %v; want %d", b, n, e, want)
		}
	}
}

func TestGetWrong(t *testing.T) {
	for _, b := range [][]byte{nil, {}, make([]byte, 9), {0, 0, 0, 0, 0, 0, 0, 0, 1}, bytes.Repeat([]byte{255}, 9), make([]byte, 4096)} {
		if n, e := Get(b); n != 0 || e != api.ErrArg {
			t.Errorf("Get of %d bytes: %d, %v; want 0, ErrArg", len(b), n, e)
		}
	}
}

// P1.1 (O1): Put.
func TestPut(t *testing.T) {
	for _, c := range []struct {
		n    uint64
		size int
		b    []byte
	}{
		{0, 1, []byte{0}},
		{255, 1, []byte{255}},
		{258, 2, []byte{1, 2}},
		{258, 3, []byte{0, 1, 2}},
		{0, 8, make([]byte, 8)},
		{1, 8, []byte{0, 0, 0, 0, 0, 0, 0, 1}},
		{0x0102030405060708, 8, []byte{1, 2, 3, 4, 5, 6, 7, 8}},
		{math.MaxUint64, 8, bytes.Repeat([]byte{255}, 8)},
	} {
		if b, e := Put(c.n, c.size); !bytes.Equal(b, c.b) || e != api.OK {
			t.Errorf("Put(%d, %d): %v, %v; want %v", c.n, c.size, b, e, c.b)
		}
	}
}

func TestPutSizes(t *testing.T) {
	for _, n := range numbers() {
		need := max(1, (new(big.Int).SetUint64(n).BitLen()+7)/8)
		for size := -2; size <= 10; size++ {
			b, e := Put(n, size)
			if size < need || size > 8 {
				if len(b) != 0 || e != api.ErrArg {
					t.Errorf("Put(%d, %d): %v, %v; want ErrArg", n, size, b, e)
				}
				continue
			}
			want := new(big.Int).SetUint64(n).FillBytes(make([]byte, size))
			if !bytes.Equal(b, want) || e != api.OK {
				t.Errorf("Put(%d, %d): %v, %v; want %v", n, size, b, e, want)
			}
		}
	}
}

func TestPutWrong(t *testing.T) {
	for _, size := range []int{math.MinInt, math.MinInt + 1, -8, -1, 0, 9, 16, 64, 1 << 61, math.MaxInt} {
		for _, n := range []uint64{0, 1, math.MaxUint64} {
			if b, e := Put(n, size); len(b) != 0 || e != api.ErrArg {
				t.Errorf("Put(%d, %d): %v, %v; want ErrArg", n, size, b, e)
			}
		}
	}
	if b, e := Put(256, 1); len(b) != 0 || e != api.ErrArg {
		t.Errorf("Put(256, 1): %v, %v; want ErrArg", b, e)
	}
}

// P1.1 (O1): Xor.
func TestXor(t *testing.T) {
	for _, c := range [][3][]byte{
		{nil, nil, nil},
		{nil, {}, nil},
		{{}, nil, nil},
		{{0}, {0}, {0}},
		{{255}, {255}, {0}},
		{{1, 2}, {3, 3}, {2, 1}},
		{{0, 255, 170, 15}, {255, 255, 85, 240}, {255, 0, 255, 255}},
	} {
		if x, e := Xor(c[0], c[1]); !bytes.Equal(x, c[2]) || e != api.OK {
			t.Errorf("Xor(%v, %v): %v, %v; want %v", c[0], c[1], x, e, c[2])
		}
	}
	long, other := make([]byte, 4096), make([]byte, 4096)
	for i := range long {
		long[i], other[i] = byte(i), byte(i*7>>3)
	}
	x, e := Xor(long, other)
	if len(x) != len(long) || e != api.OK {
		t.Fatalf("Xor of 4096 bytes: %d of them, %v", len(x), e)
	}
	for i := range x {
		if x[i] != long[i]^other[i] {
			t.Fatalf("Xor of 4096 bytes: %d at %d", x[i], i)
		}
	}
}

func TestXorWrong(t *testing.T) {
	for _, c := range [][2][]byte{{{1}, nil}, {nil, {1}}, {{}, {0}}, {{1, 2}, {1}}, {{1}, {1, 2}}, {make([]byte, 64), make([]byte, 63)}} {
		if x, e := Xor(c[0], c[1]); len(x) != 0 || e != api.ErrArg {
			t.Errorf("Xor(%v, %v): %v, %v; want ErrArg", c[0], c[1], x, e)
		}
	}
}

// Rule 4: arguments stay as they are, also behind their length, and answers are new memory.
func TestArgumentsStay(t *testing.T) {
	a, b := []byte{1, 2, 3, 4}, []byte{5, 6, 7, 8}
	x, _ := Xor(a[:2], b[:2])
	n, _ := Get(a[:2])
	if n != 258 {
		t.Errorf("Get reads behind the length: %d", n)
	}
	for i := range x {
		x[i] = 99
	}
	_ = append(x, 99)
	if !bytes.Equal(a, []byte{1, 2, 3, 4}) || !bytes.Equal(b, []byte{5, 6, 7, 8}) {
		t.Errorf("Xor's arguments: %v, %v", a, b)
	}
	p, _ := Put(258, 2)
	q, _ := Put(258, 2)
	p[0] = 99
	if !bytes.Equal(q, []byte{1, 2}) {
		t.Errorf("two answers of Put share memory: %v", q)
	}
	s, r := Split(0, 4, 2), Split(0, 4, 2)
	s[0] = [2]int{9, 9}
	if r[0] != [2]int{0, 2} {
		t.Errorf("two answers of Split share memory: %v", r)
	}
}

// P1.1 (O2): Fits, held against exact numbers.
func TestFits(t *testing.T) {
	l := []int{math.MinInt, math.MinInt + 1, math.MinInt / 2, -65537, -2, -1, 0, 1, 2, 3, 5, 64, 65536,
		1<<31 - 1, 1 << 31, math.MaxInt/2 - 1, math.MaxInt / 2, math.MaxInt/2 + 1, math.MaxInt/2 + 2, math.MaxInt - 2, math.MaxInt - 1, math.MaxInt}
	for _, at := range l {
		for _, n := range l {
			for _, size := range l {
				end := new(big.Int).Add(big.NewInt(int64(at)), big.NewInt(int64(n)))
				want := at >= 0 && n >= 0 && end.Cmp(big.NewInt(int64(size))) <= 0
				if Fits(at, n, size) != want {
					t.Errorf("Fits(%d, %d, %d): %v", at, n, size, !want)
				}
			}
		}
	}
}

func TestFitsEdges(t *testing.T) {
	for _, c := range []struct {
		at, n, size int
		want        bool
	}{
		{0, 0, 0, true},
		{3, 2, 5, true},
		{3, 3, 5, false},
		{5, 0, 5, true},
		{6, 0, 5, false},
		{-1, 1, 5, false},
		{1, -1, 5, false},
		{0, 0, -1, false},
		{math.MaxInt, 0, math.MaxInt, true},
		{math.MaxInt - 1, 1, math.MaxInt, true},
		{math.MaxInt, 1, math.MaxInt, false},
		{1, math.MaxInt, math.MaxInt, false},
		{math.MaxInt, math.MaxInt, math.MaxInt, false},
	} {
		if got := Fits(c.at, c.n, c.size); got != c.want {
			t.Errorf("Fits(%d, %d, %d): %v", c.at, c.n, c.size, got)
		}
	}
}

// P1.1 (O2): Split.
func TestSplit(t *testing.T) {
	const end = 1<<31 - 1
	for _, c := range []struct {
		at, n, step int
		want        [][2]int
	}{
		{5, 10, 4, [][2]int{{5, 3}, {8, 4}, {12, 3}}},
		{0, 1, 1, [][2]int{{0, 1}}},
		{0, 4, 4, [][2]int{{0, 4}}},
		{0, 5, 4, [][2]int{{0, 4}, {4, 1}}},
		{3, 1, 4, [][2]int{{3, 1}}},
		{3, 2, 4, [][2]int{{3, 1}, {4, 1}}},
		{4, 8, 4, [][2]int{{4, 4}, {8, 4}}},
		{2, 3, 1, [][2]int{{2, 1}, {3, 1}, {4, 1}}},
		{5, 10, 100, [][2]int{{5, 10}}},
		{5, 10, math.MaxInt, [][2]int{{5, 10}}},
		{0, 65536, 65536, [][2]int{{0, 65536}}},
		{1, 65536, 65536, [][2]int{{1, 65535}, {65536, 1}}},
		{end - 1, 1, 4, [][2]int{{end - 1, 1}}},
		{end - 5, 5, 4, [][2]int{{end - 5, 2}, {end - 3, 3}}},
		{end - 2, 2, math.MaxInt, [][2]int{{end - 2, 2}}},
		{end - 65536, 65536, end, [][2]int{{end - 65536, 65536}}},
	} {
		if got := Split(c.at, c.n, c.step); !slices.Equal(got, c.want) {
			t.Errorf("Split(%d, %d, %d): %v; want %v", c.at, c.n, c.step, got, c.want)
		}
	}
}

func TestSplitNone(t *testing.T) {
	const end = 1<<31 - 1
	for _, c := range [][3]int{
		{0, 0, 1}, {5, 0, 4}, {4, 0, 4}, {end, 0, 1}, // nothing to cut
		{-1, 1, 1}, {-1, 2, 4}, {-4, 8, 4}, {math.MinInt, 1, 1}, {-1, 65536, 4},
		{0, -1, 1}, {5, -1, 4}, {5, math.MinInt, 4}, {-1, -1, -1},
		{0, 1, 0}, {0, 1, -1}, {5, 10, math.MinInt}, {5, 10, -4},
		{0, 65537, 1}, {0, 65537, 65537}, {0, math.MaxInt, 4},
		{end, 1, 1}, {end - 1, 2, 4}, {end - 65535, 65536, 4}, {end + 1, 0, 1}, {end + 1, 1, 1},
		{math.MaxInt, 0, 1}, {math.MaxInt, 1, 1}, {math.MaxInt, 65536, 4}, {math.MaxInt - 1, 1, 4},
	} {
		if got := Split(c[0], c[1], c[2]); len(got) != 0 {
			t.Errorf("Split(%d, %d, %d): %d parts; want none", c[0], c[1], c[2], len(got))
		}
	}
}

// P1.2: Get of what Put tells is the number.
func TestGetOfPut(t *testing.T) {
	for _, n := range numbers() {
		for size := 1; size <= 8; size++ {
			b, e := Put(n, size)
			if e != api.OK {
				continue
			}
			if back, e := Get(b); back != n || e != api.OK || len(b) != size {
				t.Errorf("Get(Put(%d, %d)): %d, %v", n, size, back, e)
			}
		}
		if _, e := Put(n, 8); e != api.OK {
			t.Errorf("Put(%d, 8): %v", n, e)
		}
	}
}

// P1.2: Put of what Get tells, in as many bytes, is the bytes.
func TestPutOfGet(t *testing.T) {
	for _, b := range byteStrings() {
		n, e := Get(b)
		if e != api.OK {
			t.Errorf("Get(%v): %v", b, e)
		}
		if back, e := Put(n, len(b)); !bytes.Equal(back, b) || e != api.OK {
			t.Errorf("Put(Get(%v)): %v, %v", b, back, e)
		}
	}
}

// holdParts fails if the parts of a cut are not the range, one of them is empty, or a multiple of step lies within one,
// or if two neighbours were cut where there is none.
func holdParts(t *testing.T, at, n, step int) {
	t.Helper()
	next := at
	for i, p := range Split(at, n, step) {
		first, count := p[0], p[1]
		if first != next || count < 1 {
			t.Fatalf("Split(%d, %d, %d): part %d is %v; want one from %d on", at, n, step, i, p, next)
		}
		if first/step != (first+count-1)/step {
			t.Fatalf("Split(%d, %d, %d): a multiple lies within %v", at, n, step, p)
		}
		if i > 0 && first%step != 0 {
			t.Fatalf("Split(%d, %d, %d): cut at %d", at, n, step, first)
		}
		next = first + count
	}
	if next != at+n {
		t.Fatalf("Split(%d, %d, %d): ends at %d", at, n, step, next)
	}
}

// P1.3: the parts are the range, and no multiple of step lies within one.
func TestParts(t *testing.T) {
	for at := range 14 {
		for n := range 14 {
			for step := 1; step <= 16; step++ {
				holdParts(t, at, n, step)
			}
		}
	}
	const end = 1<<31 - 1
	for _, n := range []int{1, 2, 63, 64, 65, 4096, 65535, 65536} {
		for _, step := range []int{1, 2, 3, 64, 1000, 65535, 65536, 65537, end - 1, end, end + 1, math.MaxInt - 1, math.MaxInt} {
			for _, at := range []int{0, 1, 63, 64, 65, 65535, 65536, 1 << 20, end - 65537, end - 65536, end - n} {
				if at+n <= end {
					holdParts(t, at, n, step)
				}
			}
		}
	}
}
