package target

import (
	"bytes"
	"errors"
	"fmt"
	"math"
	"math/rand"
	"slices"
	"strconv"
	"strings"
	"testing"

	"cofferdam/api"
	"cofferdam/check"
	"cofferdam/parse"
)

// Figures of keys, and of a root that lay puts another one in the place of.
const (
	kHex = "000102030405060708090a0b0c0d0e0f101112131415161718191a1b1c1d1e1f"
	lHex = "fedcba98765432100123456789abcdefffffffffffffffffffffffffffffffff"
	rHex = "a0a1a2a3a4a5a6a7a8a9aaabacadaeafb0b1b2b3b4b5b6b7b8b9babbbcbdbebf"
)

// ground is what most texts here stand on: the devices 0 to 4 are a to e, of 40 sectors each, 5 is the journal.
const ground = "device a 40; device b 40; device c 40; device d 40; device e 40; journal j 256; key k $" + kHex + "; key l $" + lHex + "; root r $" + rHex + "; "

// over is the text of a volume of an expr over ground.
func over(expr string) string {
	return ground + "volume v = " + expr + "; export v;"
}

// kinds are exprs over ground, of each kind, alone and nested within others; of each the node has 16 sectors or more.
var kinds = []string{
	"a",
	"linear(a, 3, 20)",
	"concat(linear(a, 0, 5), b, linear(c, 7, 6))",
	"mirror(a, b)",
	"mirror(a, b, c, d)",
	"snapshot(a, b, 1)",
	"snapshot(a, b, 3)",
	"snapshot(linear(a, 1, 37), linear(b, 2, 38), 16)",
	"crypt(a, k)",
	"integrity(a, k)",
	"verity(a, r)",
	"linear(linear(a, 3, 30), 5, 20)",
	"linear(crypt(a, k), 7, 20)",
	"linear(integrity(a, k), 2, 25)",
	"concat(mirror(linear(a, 0, 7), linear(b, 0, 7)), crypt(c, l))",
	"concat(snapshot(a, b, 4), integrity(c, k))",
	"mirror(concat(linear(a, 0, 12), linear(b, 0, 28)), crypt(c, k))",
	"mirror(snapshot(a, b, 2), c)",
	"mirror(integrity(a, k), integrity(b, l))",
	"mirror(mirror(a, b), mirror(c, d))",
	"snapshot(mirror(a, b), mirror(c, d), 5)",
	"snapshot(concat(linear(a, 0, 9), linear(b, 0, 9)), concat(linear(c, 0, 11), linear(d, 0, 11)), 4)",
	"snapshot(snapshot(a, b, 3), snapshot(c, d, 1), 2)",
	"snapshot(crypt(a, k), crypt(b, l), 3)",
	"snapshot(integrity(a, k), integrity(b, l), 3)",
	"snapshot(verity(a, r), b, 2)",
	"crypt(mirror(a, b), k)",
	"crypt(crypt(a, k), l)",
	"crypt(snapshot(a, b, 4), k)",
	"crypt(integrity(a, k), k)",
	"integrity(crypt(a, k), l)",
	"integrity(mirror(a, b), k)",
	"integrity(snapshot(a, b, 2), k)",
	"integrity(integrity(a, k), l)",
	"integrity(concat(linear(a, 0, 13), linear(b, 0, 17)), k)",
	"verity(mirror(a, b), r)",
	"verity(crypt(concat(a, b), k), r)",
	"verity(verity(concat(a, b), r), r)",
	"verity(snapshot(a, b, 4), r)",
	"mirror(verity(a, r), linear(b, 0, 19))",
	"concat(verity(a, r), b)",
}

// checkedOf is a text's stack, or what is wrong with it.
func checkedOf(text string) (api.Stack, api.Errno) {
	n, e, _ := parse.Parse(text)
	if e != api.OK {
		return api.Stack{}, e
	}
	s, e, _ := check.Check(n)
	return s, e
}

// stackOf is the stack of a text that has one.
func stackOf(t *testing.T, text string) api.Stack {
	t.Helper()
	s, e := checkedOf(text)
	if e != api.OK {
		t.Fatalf("%q: %v", text, e)
	}
	return s
}

// noughts is a stack's world of noughts.
func noughts(s api.Stack) []api.Content {
	var w []api.Content
	for _, size := range s.Devices {
		c := api.Content{Bad: make([]bool, size)}
		for range size {
			c.Sectors = append(c.Sectors, make([]byte, 64))
		}
		w = append(w, c)
	}
	return w
}

// copied is a world in memory of its own.
func copied(w []api.Content) []api.Content {
	w = slices.Clone(w)
	for dev := range w {
		w[dev].Bad = slices.Clone(w[dev].Bad)
		all := slices.Concat(w[dev].Sectors...) // one piece of memory is had faster than many
		w[dev].Sectors = slices.Clone(w[dev].Sectors)
		for i, b := range w[dev].Sectors {
			w[dev].Sectors[i], all = all[:len(b):len(b)], all[len(b):]
		}
	}
	return w
}

// sectors is so many sectors, none like another one; another seed makes others.
func sectors(n, seed int) []byte {
	b := make([]byte, 64*n)
	rand.New(rand.NewSource(int64(seed))).Read(b)
	return b
}

func read(at, n int) api.Request { return api.Request{Cmd: api.Read, At: at, N: n} }

func store(at int, data []byte) api.Request {
	return api.Request{Cmd: api.Store, At: at, N: len(data) / 64, Data: data}
}

func trim(at, n int) api.Request { return api.Request{Cmd: api.Trim, At: at, N: n} }

func zeroes(at, n int) api.Request { return api.Request{Cmd: api.Zeroes, At: at, N: n} }

// done does a request that succeeds, and tells the world behind it and what was read.
func done(t *testing.T, s api.Stack, w []api.Content, r api.Request) ([]api.Content, []byte) {
	t.Helper()
	behind, b, e := Do(s, w, r)
	if e != api.OK {
		t.Fatalf("%v of %d from %d on: %v", r.Cmd, r.N, r.At, e)
	}
	if r.Cmd != api.Read && len(b) != 0 {
		t.Fatalf("%v of %d from %d on: %d bytes are read", r.Cmd, r.N, r.At, len(b))
	}
	if r.Cmd == api.Read && differ(w, behind) != "" {
		t.Fatalf("Read of %d from %d on changes the world: %s", r.N, r.At, differ(w, behind))
	}
	return behind, b
}

// told asks that some sectors are read as these.
func told(t *testing.T, s api.Stack, w []api.Content, at int, want []byte) {
	t.Helper()
	if _, b := done(t, s, w, read(at, len(want)/64)); !bytes.Equal(b, want) {
		t.Fatalf("Read of %d from %d on: %x; want %x", len(want)/64, at, b, want)
	}
}

// fails asks that a request fails, ahead of its sectors or at one of them: the world is as it was, and nothing is read.
func fails(t *testing.T, s api.Stack, w []api.Content, r api.Request, want api.Errno) {
	t.Helper()
	held := copied(w)
	behind, b, e := Do(s, w, r)
	if e != want || len(b) != 0 {
		t.Fatalf("%v of %d from %d on, with %d bytes: %d bytes, %v; want none, %v", r.Cmd, r.N, r.At, len(r.Data), len(b), e, want)
	}
	if at := differ(behind, held); at != "" {
		t.Fatalf("%v of %d from %d on, with %d bytes: %v, and the world is told as another one: %s", r.Cmd, r.N, r.At, len(r.Data), e, at)
	}
	if at := differ(w, held); at != "" {
		t.Fatalf("%v of %d from %d on, with %d bytes: %v, and the world was changed: %s", r.Cmd, r.N, r.At, len(r.Data), e, at)
	}
}

// dead is a world in which devices are dead.
func dead(w []api.Content, devices ...int) []api.Content {
	w = copied(w)
	for _, dev := range devices {
		w[dev].Dead = true
	}
	return w
}

// bad is a world in which sectors of a device are bad.
func bad(w []api.Content, dev int, sectors ...int) []api.Content {
	w = copied(w)
	for _, i := range sectors {
		w[dev].Bad[i] = true
	}
	return w
}

// with is a world in which a device's sector holds these bytes.
func with(w []api.Content, dev, i int, b []byte) []api.Content {
	w = copied(w)
	w[dev].Sectors[i] = bytes.Clone(b)
	return w
}

// turned is a world in which a bit of a byte of a device's sector is another one.
func turned(w []api.Content, dev, i, octet int) []api.Content {
	w = copied(w)
	w[dev].Sectors[i][octet] ^= 1
	return w
}

// holds asks that a device's sectors from one on are these.
func holds(t *testing.T, w []api.Content, dev, first int, want []byte) {
	t.Helper()
	for i := range len(want) / 64 {
		if b := w[dev].Sectors[first+i]; !bytes.Equal(b, want[64*i:64*i+64]) {
			t.Fatalf("device %d, sector %d: %x; want %x", dev, first+i, b, want[64*i:64*i+64])
		}
	}
}

// sameBut asks that two worlds are one but for sectors of some devices (device, first, how many).
func sameBut(t *testing.T, a, b []api.Content, ranges ...[3]int) {
	t.Helper()
	a, b = copied(a), copied(b)
	for _, r := range ranges {
		copy(a[r[0]].Sectors[r[1]:r[1]+r[2]], b[r[0]].Sectors[r[1]:r[1]+r[2]])
		copy(a[r[0]].Bad[r[1]:r[1]+r[2]], b[r[0]].Bad[r[1]:r[1]+r[2]])
	}
	if at := differ(a, b); at != "" {
		t.Fatalf("what should stay was changed: %s", at)
	}
}

// P14.1 (V1), P14.2: each command on a node of each kind; what was written is read again, by requests like it and by others.
func TestCommands(t *testing.T) {
	for _, expr := range kinds {
		s, w, content := laid(t, over(expr), 1)
		size := len(content) / 64
		for at := 0; at+16 <= size; at += 5 {
			told(t, s, w, at, content[64*at:64*at+64*16])
		}
		if s.ReadOnly {
			fails(t, s, w, store(3, sectors(4, 2)), api.ErrPerm)
			continue
		}
		after, _ := asMeant(t, s, w, store(2, sectors(7, 2)))
		copy(content[64*2:], sectors(7, 2))
		told(t, s, after, 2, content[64*2:64*9])
		after, _ = asMeant(t, s, after, trim(7, 3))
		copy(content[64*7:], make([]byte, 64*3))
		after, _ = asMeant(t, s, after, zeroes(0, 4))
		copy(content, make([]byte, 64*4))
		after, _ = asMeant(t, s, after, store(size-1, sectors(1, 3)))
		copy(content[64*size-64:], sectors(1, 3))
		after, _ = asMeant(t, s, after, api.Request{Cmd: api.Flush})
		for at := 0; at < size; at++ {
			told(t, s, after, at, content[64*at:64*at+64])
		}
		for at := 0; at+16 <= size; at += 7 {
			told(t, s, after, at, content[64*at:64*at+64*16])
		}
		holds(t, after, s.Journal, 0, make([]byte, 64*256))
	}
}

// P14.1: what the examples 1 to 6 of the whole say of requests.
func TestExamples(t *testing.T) {
	s := stackOf(t, "device a 4; device b 4; journal j 256; volume v = mirror(a, b); export v;")
	one := sectors(1, 1)
	w, _ := done(t, s, noughts(s), store(1, one))
	told(t, s, w, 1, one)
	holds(t, w, 0, 1, one)
	holds(t, w, 1, 1, one)
	told(t, s, dead(w, 0), 1, one)
	done(t, s, dead(w, 0), store(1, one))
	fails(t, s, dead(w, 0, 1), read(1, 1), api.ErrIO)
	fails(t, s, dead(w, 0, 1), store(1, one), api.ErrIO)

	s = stackOf(t, "device a 4; journal j 256; volume v = linear(a, 1, 3); export v;")
	w, _ = done(t, s, noughts(s), store(0, one))
	holds(t, w, 0, 1, one)
	fails(t, s, w, read(2, 2), api.ErrArg)

	s = stackOf(t, "device a 10; journal j 256; key k $"+kHex+"; volume v = integrity(a, k); export v;")
	w = noughts(s)
	fails(t, s, w, read(7, 1), api.ErrIO)
	fails(t, s, w, read(8, 1), api.ErrArg)
	w, _ = done(t, s, w, store(7, one))
	told(t, s, w, 7, one)
	fails(t, s, turned(w, 0, 7, 30), read(7, 1), api.ErrIO)

	s = stackOf(t, "device a 4; device b 3; journal j 256; volume v = snapshot(a, b, 2); export v;")
	w, _ = done(t, s, noughts(s), store(0, one))
	sameBut(t, noughts(s), w, [3]int{1, 0, 3})
	fails(t, s, w, store(2, one), api.ErrSpace)

	s = stackOf(t, "device a 4; journal j 256; export a readonly;")
	fails(t, s, noughts(s), store(0, one), api.ErrPerm)
}

// P14.1 (V1): where the sectors of a Disk, a Linear and a Concat lie.
func TestPlaces(t *testing.T) {
	for _, c := range []struct {
		expr   string
		at     int
		ranges [][3]int // device, first, how many: where 12 sectors from at on lie
	}{
		{"a", 0, [][3]int{{0, 0, 12}}},
		{"b", 28, [][3]int{{1, 28, 12}}},
		{"linear(c, 5, 30)", 0, [][3]int{{2, 5, 12}}},
		{"linear(c, 28, 12)", 0, [][3]int{{2, 28, 12}}},
		{"linear(linear(c, 5, 30), 4, 20)", 8, [][3]int{{2, 17, 12}}},
		{"concat(a, b)", 0, [][3]int{{0, 0, 12}}},
		{"concat(a, b)", 28, [][3]int{{0, 28, 12}}},
		{"concat(a, b)", 29, [][3]int{{0, 29, 11}, {1, 0, 1}}},
		{"concat(b, a)", 40, [][3]int{{0, 0, 12}}},
		{"concat(linear(a, 9, 1), linear(b, 8, 2), linear(c, 7, 3), d)", 0, [][3]int{{0, 9, 1}, {1, 8, 2}, {2, 7, 3}, {3, 0, 6}}},
		{"concat(linear(a, 9, 1), linear(b, 8, 2), linear(c, 7, 3), d)", 34, [][3]int{{3, 28, 12}}},
		{"linear(concat(a, concat(linear(b, 0, 4), c)), 35, 20)", 1, [][3]int{{0, 36, 4}, {1, 0, 4}, {2, 0, 4}}},
	} {
		s := stackOf(t, over(c.expr))
		data := sectors(12, 1)
		w, _ := done(t, s, noughts(s), store(c.at, data))
		sameBut(t, noughts(s), w, c.ranges...)
		told(t, s, w, c.at, data)
		for _, r := range c.ranges {
			holds(t, w, r[0], r[1], data[:64*r[2]])
			data = data[64*r[2]:]
		}
	}
}

// P14.1 (V1): Trim and Zeroes write noughts, Flush nothing, whatever else it names, and a Read's, a Trim's or a Zeroes' Data is not looked at.
func TestNoughts(t *testing.T) {
	s, w, content := laid(t, over("mirror(a, b)"), 4)
	for _, cmd := range []api.Cmd{api.Trim, api.Zeroes} {
		for _, data := range [][]byte{nil, {1}, sectors(3, 9)} {
			after, _ := done(t, s, w, api.Request{Cmd: cmd, At: 5, N: 3, Data: data})
			sameBut(t, w, after, [3]int{0, 5, 3}, [3]int{1, 5, 3})
			holds(t, after, 0, 5, make([]byte, 64*3))
			holds(t, after, 1, 5, make([]byte, 64*3))
		}
	}
	for _, data := range [][]byte{nil, {1}, sectors(3, 9)} {
		if _, b := done(t, s, w, api.Request{Cmd: api.Read, At: 5, N: 3, Data: data}); !bytes.Equal(b, content[64*5:64*8]) {
			t.Errorf("Read with %d bytes of data: %x", len(data), b)
		}
	}
	for _, n := range []int{0, 1, -1, 17, math.MinInt, math.MaxInt} {
		after, _ := done(t, s, dead(w, 0, 1), api.Request{Cmd: api.Flush, At: n, N: n, Data: sectors(1, 1), FUA: true})
		if at := differ(after, dead(w, 0, 1)); at != "" {
			t.Errorf("Flush changes the world: %s", at)
		}
	}
	for _, fua := range []bool{false, true} {
		after, _ := done(t, s, w, api.Request{Cmd: api.Store, At: 1, N: 1, Data: sectors(1, 5), FUA: fua})
		holds(t, after, 0, 1, sectors(1, 5))
	}
}

// P14.1 (V1): which requests are not begun.
func TestWrongRequests(t *testing.T) {
	s, w, content := laid(t, over("concat(linear(a, 0, 10), b)"), 5)
	wrong := []int{math.MinInt, math.MinInt + 1, math.MinInt + 49, -1 << 32, -17, -16, -2, -1, 17, 18, 50, 51, 64, 1 << 32, 1 << 58, 1<<58 + 1, math.MaxInt - 49, math.MaxInt - 1, math.MaxInt}
	for _, cmd := range []api.Cmd{2, 5, 7, 8, 100, -1, -2, 1 << 32, 1<<32 + 1, math.MinInt, math.MaxInt} {
		for _, n := range []int{0, 1} {
			fails(t, s, w, api.Request{Cmd: cmd, N: n, Data: content[:64*n]}, api.ErrArg)
		}
	}
	for _, cmd := range []api.Cmd{api.Read, api.Store, api.Trim, api.Zeroes} {
		for _, n := range wrong {
			for _, data := range [][]byte{nil, sectors(max(0, min(n, 64)), 1)} {
				fails(t, s, w, api.Request{Cmd: cmd, At: 0, N: n, Data: data}, api.ErrArg)
				fails(t, s, w, api.Request{Cmd: cmd, At: 49, N: n, Data: data}, api.ErrArg)
				fails(t, s, w, api.Request{Cmd: cmd, At: n, N: n, Data: data}, api.ErrArg)
			}
			if n < 0 || n > 50 {
				fails(t, s, w, api.Request{Cmd: cmd, At: n, N: 1, Data: content[:64]}, api.ErrArg)
				fails(t, s, w, api.Request{Cmd: cmd, At: n, N: 0}, api.ErrArg)
			}
		}
		for n := range 17 {
			r := api.Request{Cmd: cmd, At: 50 - n, N: n, Data: sectors(n, 2)}
			done(t, s, w, r)
			r.At++
			fails(t, s, w, r, api.ErrArg)
		}
	}
}

// P14.1 (V1): Store has N sectors of Data, no byte more or less.
func TestWrongData(t *testing.T) {
	s, w, content := laid(t, over("a"), 6)
	for _, n := range []int{0, 1, 2, 15, 16} {
		for _, length := range []int{64*n - 64, 64*n - 1, 64*n + 1, 64*n + 64, n} {
			if length >= 0 && length != 64*n {
				fails(t, s, w, api.Request{Cmd: api.Store, At: 1, N: n, Data: content[:length]}, api.ErrArg)
			}
		}
		after, _ := done(t, s, w, api.Request{Cmd: api.Store, At: 1, N: n, Data: sectors(n, 7)})
		holds(t, after, 0, 1, sectors(n, 7))
		sameBut(t, w, after, [3]int{0, 1, n})
	}
	done(t, s, w, api.Request{Cmd: api.Store, N: 0, Data: nil})
	done(t, s, w, api.Request{Cmd: api.Store, N: 0, Data: []byte{}})
}

// P14.1 (V1): requests of no sector change and read nothing, even where all is dead, and with 16 a request is as great as may be.
func TestHowMany(t *testing.T) {
	for _, expr := range kinds {
		s, w, content := laid(t, over(expr), 7)
		size := len(content) / 64
		all := dead(w, 0, 1, 2, 3, 4)
		for _, cmd := range []api.Cmd{api.Read, api.Store, api.Trim, api.Zeroes} {
			for _, at := range []int{0, 1, size - 1, size} {
				r := api.Request{Cmd: cmd, At: at}
				if s.ReadOnly && cmd != api.Read {
					fails(t, s, all, r, api.ErrPerm)
					continue
				}
				if after, b := done(t, s, all, r); len(b) != 0 || differ(after, all) != "" {
					t.Errorf("%s: %v of no sector: %d bytes, %s", expr, cmd, len(b), differ(after, all))
				}
			}
			fails(t, s, w, api.Request{Cmd: cmd, At: 0, N: 17, Data: sectors(17, 1)}, api.ErrArg)
			fails(t, s, w, api.Request{Cmd: cmd, At: size, N: 1, Data: sectors(1, 1)}, api.ErrArg)
			fails(t, s, w, api.Request{Cmd: cmd, At: size - 15, N: 16, Data: sectors(16, 1)}, api.ErrArg)
			asMeant(t, s, w, api.Request{Cmd: cmd, At: size - 16, N: 16, Data: sectors(16, 1)})
			asMeant(t, s, w, api.Request{Cmd: cmd, At: 0, N: 16, Data: sectors(16, 1)})
			asMeant(t, s, w, api.Request{Cmd: cmd, At: size - 1, N: 1, Data: sectors(1, 1)})
		}
	}
}

// P14.1 (V1): what is read only by its export, or by its node, is read and flushed, and ErrArg is told ahead of ErrPerm.
func TestReadOnly(t *testing.T) {
	for _, text := range []string{
		over("verity(a, r)"),
		over("mirror(verity(a, r), linear(b, 0, 19))"),
		over("concat(verity(a, r), b)"),
		over("crypt(verity(a, r), k)"),
		ground + "export a readonly;",
		ground + "volume v = mirror(a, b); export v readonly;",
		ground + "volume v = snapshot(a, b, 2); export v readonly;",
		ground + "volume v = integrity(a, k); export v readonly;",
	} {
		s, w, content := laid(t, text, 8)
		told(t, s, w, 1, content[64:64*5])
		done(t, s, w, api.Request{Cmd: api.Flush})
		for _, cmd := range []api.Cmd{api.Store, api.Trim, api.Zeroes} {
			fails(t, s, w, api.Request{Cmd: cmd, At: 1, N: 2, Data: sectors(2, 1)}, api.ErrPerm)
			fails(t, s, w, api.Request{Cmd: cmd, At: 1, N: 0}, api.ErrPerm)
			fails(t, s, dead(w, 0, 1), api.Request{Cmd: cmd, At: 1, N: 1, Data: sectors(1, 1)}, api.ErrPerm)
			fails(t, s, w, api.Request{Cmd: cmd, At: 1, N: 17, Data: sectors(17, 1)}, api.ErrArg)
			fails(t, s, w, api.Request{Cmd: cmd, At: -1, N: 1, Data: sectors(1, 1)}, api.ErrArg)
		}
		fails(t, s, w, api.Request{Cmd: api.Store, At: 1, N: 1, Data: sectors(2, 1)}, api.ErrArg)
		fails(t, s, w, api.Request{Cmd: api.Disc}, api.ErrArg)
	}
	s, w, _ := laid(t, over("snapshot(verity(a, r), b, 2)"), 8)
	done(t, s, w, store(3, sectors(1, 1))) // its origin is, it is not
}

// P14.1: a node that is a Verity is not written, whoever asks.
func TestVerityWritten(t *testing.T) {
	s, w, _ := laid(t, over("verity(a, r)"), 9)
	s.ReadOnly = false
	fails(t, s, w, store(1, sectors(1, 1)), api.ErrPerm)
	fails(t, s, w, trim(0, 2), api.ErrPerm)
	s, w, _ = laid(t, over("mirror(linear(b, 0, 19), verity(a, r))"), 9)
	s.ReadOnly = false
	fails(t, s, w, zeroes(1, 2), api.ErrPerm)
}

// P14.1: a mirror is read of its first leg that does not fail.
func TestMirrorRead(t *testing.T) {
	s := stackOf(t, over("mirror(a, b, c)"))
	w := noughts(s)
	var legs [3][]byte
	for dev := range legs { // unlike, so that it is seen which one was read
		legs[dev] = sectors(40, dev)
		lay(s, w, dev, 0, legs[dev])
	}
	sector := func(leg, i int) []byte { return legs[leg][64*i : 64*i+64] }
	told(t, s, w, 5, sector(0, 5))
	told(t, s, dead(w, 0), 5, sector(1, 5))
	told(t, s, dead(w, 1), 5, sector(0, 5))
	told(t, s, dead(w, 0, 1), 5, sector(2, 5))
	told(t, s, bad(w, 0, 5), 5, sector(1, 5))
	told(t, s, bad(dead(w, 1), 0, 5), 5, sector(2, 5))
	told(t, s, bad(dead(w, 0), 1, 5), 5, sector(2, 5))
	told(t, s, bad(w, 0, 5), 4, slices.Concat(sector(0, 4), sector(1, 5), sector(0, 6)))
	told(t, s, bad(bad(w, 0, 5, 6), 1, 6), 4, slices.Concat(sector(0, 4), sector(1, 5), sector(2, 6), sector(0, 7)))
	fails(t, s, dead(w, 0, 1, 2), read(5, 1), api.ErrIO)
	fails(t, s, bad(dead(w, 0, 1), 2, 5), read(5, 1), api.ErrIO)
	fails(t, s, bad(dead(w, 0, 1), 2, 5), read(4, 3), api.ErrIO)
	told(t, s, bad(dead(w, 0, 1), 2, 5), 6, sector(2, 6))
	fails(t, s, bad(bad(bad(w, 0, 5), 1, 5), 2, 5), read(5, 1), api.ErrIO)
}

// P14.1: a mirror's legs are all written, but for dead ones; bad sectors are bad no more.
func TestMirrorWritten(t *testing.T) {
	s, w, _ := laid(t, over("mirror(a, b, c)"), 1)
	data := sectors(3, 2)
	for _, gone := range [][]int{{}, {0}, {1}, {2}, {0, 1}, {0, 2}, {1, 2}} {
		before := bad(bad(dead(w, gone...), 0, 6), 2, 5, 6, 9)
		after, _ := done(t, s, before, store(5, data))
		told(t, s, after, 5, data)
		for dev := range 3 {
			if slices.Contains(gone, dev) {
				sameBut(t, before[dev:dev+1], after[dev:dev+1])
				continue
			}
			holds(t, after, dev, 5, data)
			sameBut(t, before[dev:dev+1], after[dev:dev+1], [3]int{0, 5, 3})
			if want := dev == 2; after[dev].Bad[5] || after[dev].Bad[6] || after[dev].Bad[9] != want {
				t.Errorf("device %d: bad sectors %v", dev, after[dev].Bad)
			}
		}
	}
	fails(t, s, dead(w, 0, 1, 2), store(5, data), api.ErrIO)
	fails(t, s, dead(w, 0, 1, 2), trim(0, 1), api.ErrIO)
}

// P14.1: a mirror within a mirror is dead if all its legs are: then it is passed over.
func TestMirrorOfMirrors(t *testing.T) {
	s, w, content := laid(t, over("mirror(mirror(a, b), mirror(c, d))"), 3)
	data := sectors(2, 4)
	for _, gone := range [][]int{{0, 1}, {2, 3}, {0, 2}, {1, 2, 3}, {0, 1, 3}} {
		before := dead(w, gone...)
		told(t, s, before, 7, content[64*7:64*9])
		after, _ := done(t, s, before, store(7, data))
		told(t, s, after, 7, data)
		for dev := range 4 {
			if !slices.Contains(gone, dev) {
				holds(t, after, dev, 7, data)
			}
		}
	}
	fails(t, s, dead(w, 0, 1, 2, 3), store(7, data), api.ErrIO)
	fails(t, s, dead(w, 0, 1, 2, 3), read(7, 1), api.ErrIO)
}

// P14.1: a leg that fails otherwise than by ErrDead when it is written makes the mirror fail, with that error, whatever the others do.
func TestMirrorLegFails(t *testing.T) {
	one := sectors(1, 5)
	for _, expr := range []string{"mirror(snapshot(linear(a, 0, 4), linear(b, 0, 3), 2), linear(c, 0, 4))", "mirror(linear(c, 0, 4), snapshot(linear(a, 0, 4), linear(b, 0, 3), 2))"} {
		s, w, _ := laid(t, over(expr), 1)
		after, _ := done(t, s, w, store(0, one))
		fails(t, s, after, store(3, one), api.ErrSpace)
		fails(t, s, after, store(1, sectors(2, 5)), api.ErrSpace)
		fails(t, s, dead(after, 2), store(3, one), api.ErrSpace)
		after, _ = done(t, s, after, store(1, one))
		told(t, s, after, 0, slices.Concat(one, one))
		fails(t, s, bad(w, 1, 0), store(0, one), api.ErrIO)
		// The origin's device is dead, and the chunk has no slot yet: ErrIO, though another one is there.
		fails(t, s, dead(w, 0), store(0, one), api.ErrIO)
		// The store's device is dead: then the leg is.
		after, _ = done(t, s, dead(w, 1), store(0, one))
		holds(t, after, 2, 0, one)
		told(t, s, after, 0, one)
		fails(t, s, dead(w, 1, 2), store(0, one), api.ErrIO)
	}
	s, w, _ := laid(t, over("mirror(integrity(a, k), linear(b, 0, 32))"), 1)
	fails(t, s, bad(w, 0, 33), store(4, one), api.ErrIO) // its tag's sector
	after, _ := done(t, s, dead(w, 0), store(4, one))
	told(t, s, after, 4, one)
}

// P14.1: the dead leg of a mirror is asked for, however deep it lies and whatever lies around it.
func TestDeadBelow(t *testing.T) {
	one := sectors(1, 6)
	for _, leg := range []string{
		"a",
		"linear(a, 4, 16)",
		"concat(linear(a, 0, 8), linear(a, 8, 8))",
		"crypt(a, k)",
		"integrity(a, k)",
		"mirror(linear(a, 0, 20), linear(a, 20, 20))",
		"linear(integrity(crypt(concat(linear(a, 0, 10), linear(a, 20, 20)), k), l), 2, 16)",
		"snapshot(b, a, 2)",
		"crypt(snapshot(b, linear(a, 0, 20), 2), k)",
		"integrity(mirror(linear(a, 0, 20), linear(a, 20, 20)), k)",
	} {
		alone := stackOf(t, over(leg))
		count := alone.Parts[alone.Export].Size
		for _, expr := range []string{
			fmt.Sprintf("mirror(%s, linear(e, 0, %d))", leg, count),
			fmt.Sprintf("mirror(linear(e, 0, %d), %s)", count, leg),
		} {
			s, w, content := laid(t, over(expr), 2)
			told(t, s, dead(w, 0), 9, content[64*9:64*12])
			after, _ := done(t, s, dead(w, 0), store(10, one))
			holds(t, after, 4, 10, one)
			copy(content[64*10:], one)
			told(t, s, after, 9, content[64*9:64*12])
			fails(t, s, dead(w, 0, 4), store(10, one), api.ErrIO)
			fails(t, s, dead(w, 0, 4), read(10, 1), api.ErrIO)
		}
	}
}

// number4 is a sector with an entry of a table.
func number4(sector []byte, i int, octets ...byte) []byte {
	b := bytes.Clone(sector)
	copy(b[4*i:], octets)
	return b
}

// P14.1: a snapshot's chunk is written for the first time, and again; the store's bytes are those that are written out here.
func TestSnapshotWritten(t *testing.T) {
	// 35 sectors in chunks of 2: 18 entries, a table of 2 sectors, then slots of 2 sectors. The last chunk has one sector only.
	s, w, content := laid(t, over("snapshot(linear(a, 1, 35), linear(b, 3, 37), 2)"), 1)
	old := func(i int) []byte { return content[64*i : 64*i+64] }
	none := make([]byte, 64)
	first, second, third, fourth := sectors(1, 10), sectors(1, 11), sectors(1, 12), sectors(1, 13)

	one, _ := done(t, s, w, store(9, first)) // the chunk 4: the first slot
	holds(t, one, 1, 3, number4(none, 4, 0, 0, 0, 1))
	holds(t, one, 1, 5, slices.Concat(old(8), first))
	sameBut(t, w, one, [3]int{1, 3, 1}, [3]int{1, 5, 2})
	told(t, s, one, 7, slices.Concat(old(7), old(8), first, old(10)))

	again, _ := done(t, s, one, store(8, second)) // no slot more
	holds(t, again, 1, 5, slices.Concat(second, first))
	sameBut(t, one, again, [3]int{1, 5, 1})

	last, _ := done(t, s, again, store(34, third)) // the chunk 17: field 1 of the table's second sector; only one sector of the slot is written
	holds(t, last, 1, 4, number4(none, 1, 0, 0, 0, 2))
	holds(t, last, 1, 7, third)
	sameBut(t, again, last, [3]int{1, 4, 1}, [3]int{1, 7, 1})
	told(t, s, last, 33, slices.Concat(old(33), third))

	both, _ := done(t, s, last, store(0, slices.Concat(fourth, first))) // the chunk 0, both sectors: the second one finds the slot
	holds(t, both, 1, 3, number4(number4(none, 4, 0, 0, 0, 1), 0, 0, 0, 0, 3))
	holds(t, both, 1, 9, slices.Concat(fourth, first))
	sameBut(t, last, both, [3]int{1, 3, 1}, [3]int{1, 9, 2})
	told(t, s, both, 0, slices.Concat(fourth, first, old(2)))

	across, _ := done(t, s, both, trim(11, 4)) // the chunks 5, 6, 7: the slots 4, 5, 6
	holds(t, across, 1, 3, number4(number4(number4(none, 0, 0, 0, 0, 3), 4, 0, 0, 0, 1), 5, 0, 0, 0, 4, 0, 0, 0, 5, 0, 0, 0, 6))
	holds(t, across, 1, 11, slices.Concat(old(10), none, none, none, none, old(15)))
	sameBut(t, both, across, [3]int{1, 3, 1}, [3]int{1, 11, 6})
	told(t, s, across, 10, slices.Concat(old(10), none, none, none, none, old(15)))
}

// P14.1: what of the last chunk the origin has not is not written, and its slot's other sectors stay as they are.
func TestSnapshotLastChunk(t *testing.T) {
	for size := 1; size <= 20; size++ {
		s, w, content := laid(t, over(fmt.Sprintf("snapshot(linear(a, 0, %d), b, 16)", size)), 2)
		w = copied(w)
		for i := 1; i < 40; i++ {
			w[1].Sectors[i] = sectors(1, 100+i)
		}
		after, _ := asMeant(t, s, w, store(size-1, sectors(1, 3)))
		count := (size-1)%16 + 1
		sameBut(t, w, after, [3]int{1, 0, 1 + count})
		first := size - count
		holds(t, after, 1, 1, slices.Concat(content[64*first:64*size-64], sectors(1, 3)))
	}
}

// P14.1: slots are taken in order, the first that no entry names, till none is left.
func TestSnapshotSlots(t *testing.T) {
	// 20 chunks of 2, a table of 2 sectors, 3 slots.
	s, w, _ := laid(t, over("snapshot(a, linear(b, 0, 9), 2)"), 3)
	one := sectors(1, 4)
	entry := func(w []api.Content, chunk int) byte { return w[1].Sectors[chunk/16][chunk%16*4+3] }
	after := w
	for n, at := range []int{30, 3, 39} {
		after, _ = done(t, s, after, store(at, one))
		if got := entry(after, at/2); got != byte(n+1) {
			t.Errorf("the chunk %d has the slot %d; want %d", at/2, got, n+1)
		}
	}
	fails(t, s, after, store(0, one), api.ErrSpace)
	fails(t, s, after, zeroes(37, 1), api.ErrSpace)
	fails(t, s, after, store(3, sectors(2, 4)), api.ErrSpace) // its first sector has a slot
	fails(t, s, w, zeroes(0, 8), api.ErrSpace)                // its fourth chunk has none
	done(t, s, w, zeroes(0, 6))
	done(t, s, after, store(2, sectors(2, 4)))

	// The first one that is free, wherever the others are named.
	for _, c := range []struct{ at, named []byte }{
		{[]byte{0}, []byte{1}}, {[]byte{5, 19}, []byte{2, 1}}, {[]byte{16}, []byte{2}}, {[]byte{1, 2}, []byte{3, 1}},
		{[]byte{1, 2, 3}, []byte{1, 1, 1}}, {[]byte{17, 18}, []byte{3, 2}}, {[]byte{0}, []byte{4}}, {[]byte{0}, []byte{255}},
	} {
		named := copied(w)
		for n, chunk := range c.at {
			named[1].Sectors[chunk/16][chunk%16*4+3] = c.named[n]
		}
		free := byte(1)
		for slices.Contains(c.named, free) {
			free++
		}
		after, _ := done(t, s, named, store(20, one))
		if got := entry(after, 10); got != free {
			t.Errorf("entries %v are %v: the slot is %d; want %d", c.at, c.named, got, free)
		}
	}

	// What is no number, or no slot's, names none; nor does what lies behind the entry of the last chunk.
	odd := copied(w)
	copy(odd[1].Sectors[0][4*3:], []byte{128, 0, 0, 1, 255, 255, 255, 255, 0, 1, 0, 1, 127, 255, 255, 255})
	for chunk := 20; chunk < 32; chunk++ {
		odd[1].Sectors[1][chunk%16*4+3] = byte(chunk%3 + 1)
	}
	after, _ = done(t, s, odd, store(20, one))
	if got := entry(after, 10); got != 1 {
		t.Errorf("beside entries that name no slot the slot is %d; want 1", got)
	}
}

// P14.1: a chunk's entry: 0, 1, the number of slots, one more, what is no number.
func TestSnapshotEntries(t *testing.T) {
	// 14 chunks of 3, a table of 1 sector, 4 slots; sector 13 of the store is never used.
	s, w, content := laid(t, over("snapshot(a, linear(b, 10, 14), 3)"), 5)
	w = copied(w)
	for i := 11; i < 40; i++ {
		w[1].Sectors[i] = sectors(1, 200+i)
	}
	none := make([]byte, 64)
	for _, c := range []struct {
		octets []byte
		first  int // where the chunk's sectors lie on b; 0: at the origin, -1: nowhere
	}{
		{[]byte{0, 0, 0, 0}, 0},
		{[]byte{0, 0, 0, 1}, 11},
		{[]byte{0, 0, 0, 2}, 14},
		{[]byte{0, 0, 0, 4}, 20},
		{[]byte{0, 0, 0, 5}, -1},
		{[]byte{0, 0, 0, 255}, -1},
		{[]byte{0, 0, 1, 0}, -1},
		{[]byte{0, 1, 0, 1}, -1},
		{[]byte{1, 0, 0, 0}, -1},
		{[]byte{127, 255, 255, 255}, -1},
		{[]byte{128, 0, 0, 0}, -1},
		{[]byte{128, 0, 0, 1}, -1},
		{[]byte{255, 255, 255, 255}, -1},
	} {
		for _, chunk := range []int{0, 7, 12} {
			named := with(w, 1, 10, number4(none, chunk, c.octets...))
			at := 3 * chunk
			for i := range 3 {
				switch c.first {
				case -1:
					fails(t, s, named, read(at+i, 1), api.ErrIO)
					fails(t, s, named, store(at+i, sectors(1, 9)), api.ErrIO)
					fails(t, s, named, trim(at+i, 1), api.ErrIO)
				case 0:
					told(t, s, named, at+i, content[64*(at+i):64*(at+i)+64])
					asMeant(t, s, named, store(at+i, sectors(1, 9)))
				default:
					told(t, s, named, at+i, named[1].Sectors[c.first+i])
					after, _ := done(t, s, named, store(at+i, sectors(1, 9)))
					holds(t, after, 1, c.first+i, sectors(1, 9))
					sameBut(t, named, after, [3]int{1, c.first + i, 1})
				}
			}
			told(t, s, named, 39, content[64*39:])
		}
	}
}

// P14.1: what fails while a chunk is written for the first time.
func TestSnapshotFirstFails(t *testing.T) {
	// The origin lies on a and c, 10 sectors each; the store's table of 2 sectors on b and d, its slots on d and e.
	s, w, _ := laid(t, over("snapshot(concat(linear(a, 0, 10), linear(c, 0, 10)), concat(linear(b, 0, 1), linear(d, 0, 3), linear(e, 0, 30)), 1)"), 6)
	one := sectors(1, 7)
	done(t, s, w, store(5, one))
	fails(t, s, bad(w, 1, 0), store(5, one), api.ErrIO)
	fails(t, s, dead(w, 1), store(5, one), api.ErrIO)
	// The table's other sector is read too.
	fails(t, s, bad(w, 3, 0), store(5, one), api.ErrIO)
	fails(t, s, dead(w, 3), store(5, one), api.ErrIO)
	fails(t, s, bad(w, 1, 0), store(18, one), api.ErrIO)
	// With chunks of one sector nothing of the origin is.
	after, _ := done(t, s, dead(w, 0), store(5, one))
	told(t, s, after, 5, one)
	fails(t, s, after, read(6, 1), api.ErrIO)
	// A slot's sector that is bad is bad no more.
	after, _ = done(t, s, bad(w, 3, 1), store(5, one))
	told(t, s, after, 5, one)
	if after[3].Bad[1] {
		t.Error("what was written is bad")
	}

	// Chunks of 4: those of the chunk are read of the origin, but for the one that is written.
	s, w, content := laid(t, over("snapshot(a, b, 4)"), 6)
	after, _ = done(t, s, bad(w, 0, 6), store(6, one))
	told(t, s, after, 4, slices.Concat(content[64*4:64*6], one, content[64*7:64*8]))
	for _, i := range []int{4, 5, 7} {
		fails(t, s, bad(w, 0, i), store(6, one), api.ErrIO)
	}
	done(t, s, bad(w, 0, 3, 8), store(6, one))
	fails(t, s, dead(w, 0), store(6, one), api.ErrIO)
	// Once the chunk has its slot the origin is not asked any more.
	told(t, s, dead(after, 0), 4, slices.Concat(content[64*4:64*6], one, content[64*7:64*8]))
	done(t, s, dead(after, 0), store(4, sectors(4, 8)))
	// All four at once: the first of them asks for the others.
	fails(t, s, bad(w, 0, 7), store(4, sectors(4, 8)), api.ErrIO)
	done(t, s, bad(w, 0, 4), store(4, sectors(4, 8)))
	// No slot is asked for ahead of the table, and ErrSpace is told ahead of the origin.
	s, w, _ = laid(t, over("snapshot(a, linear(b, 0, 5), 4)"), 6)
	w, _ = done(t, s, w, store(0, one))
	fails(t, s, bad(w, 0, 5, 7), store(6, one), api.ErrSpace)
	fails(t, s, dead(w, 0), store(6, one), api.ErrSpace)
	fails(t, s, bad(w, 1, 0), store(6, one), api.ErrIO)
}

// P14.1: a store that is a snapshot itself has no slot left: that is told as it is, in a first write and in a further one.
func TestSnapshotOfSnapshotSpace(t *testing.T) {
	// The inner one has 20 sectors in chunks of 1: a table of 2 sectors, and 6 slots.
	s, w, _ := laid(t, over("snapshot(linear(a, 0, 10), snapshot(linear(b, 0, 20), linear(c, 0, 8), 1), 1)"), 7)
	w, _ = done(t, s, w, zeroes(0, 5)) // a slot, the table, 4 slots more: 6 of the inner slots, of which the table has the second one
	fails(t, s, w, store(7, sectors(1, 1)), api.ErrSpace)
	done(t, s, w, store(3, sectors(1, 1)))
	// By hand: the outer entry names a slot that the inner one has not copied.
	named := with(w, 2, 3, number4(w[2].Sectors[3], 9, 0, 0, 0, 9))
	told(t, s, named, 9, w[1].Sectors[9])
	fails(t, s, named, store(9, sectors(1, 1)), api.ErrSpace)
}

// P14.1: a crypt's sectors on its kid, against such as are made by hand; their numbers are those in the crypt.
func TestCryptByHand(t *testing.T) {
	s := stackOf(t, over("crypt(linear(a, 7, 30), k)"))
	key := s.Parts[s.Export].Key
	data := sectors(16, 1)
	w, _ := done(t, s, noughts(s), store(5, data))
	for i := range 16 {
		holds(t, w, 0, 12+i, crypted(key, 5+i, data[64*i:64*i+64], true))
	}
	sameBut(t, noughts(s), w, [3]int{0, 12, 16})
	w = with(noughts(s), 0, 7, crypted(key, 0, data[:64], true))
	told(t, s, w, 0, data[:64])
	w = with(w, 0, 8, crypted(key, 0, data[:64], true))
	if _, b := done(t, s, w, read(1, 1)); bytes.Equal(b, data[:64]) {
		t.Error("the sector's number is not looked at")
	}
	told(t, s, w, 2, crypted(key, 2, make([]byte, 64), false))
}

// P14.1: an integrity's sectors and tags on its kid, against such as are made by hand.
func TestIntegrityByHand(t *testing.T) {
	// 30 sectors: 24 of data, 6 of tags.
	s := stackOf(t, over("integrity(linear(a, 5, 30), k)"))
	key := s.Parts[s.Export].Key
	data := sectors(24, 1)
	w := noughts(s)
	for at := range 24 {
		fails(t, s, w, read(at, 1), api.ErrIO)
	}
	w, _ = done(t, s, w, store(0, data[:64*16]))
	fails(t, s, w, read(15, 2), api.ErrIO)
	w, _ = done(t, s, w, store(16, data[64*16:]))
	holds(t, w, 0, 5, data)
	holds(t, w, 0, 29, tagsOf(key, data))
	sameBut(t, noughts(s), w, [3]int{0, 5, 30})
	told(t, s, w, 8, data[64*8:])

	after, _ := done(t, s, w, store(6, data[:64])) // one tag of four becomes another one
	tags := tagsOf(key, data)
	copy(tags[16*6:], tagged(key, 6, data[:64]))
	holds(t, after, 0, 29, tags)
	sameBut(t, w, after, [3]int{0, 11, 1}, [3]int{0, 30, 1})
}

// P14.1: in which order an integrity reads and writes is seen by a mirror above it, which passes over what is dead first.
func TestIntegrityOrder(t *testing.T) {
	// Data on a, tags on b.
	one := sectors(1, 1)
	s, w, _ := laid(t, over("mirror(integrity(concat(linear(a, 0, 8), linear(b, 0, 2)), k), linear(c, 0, 8))"), 2)
	done(t, s, dead(w, 0), store(1, one))
	fails(t, s, bad(w, 1, 0), store(1, one), api.ErrIO)
	fails(t, s, bad(dead(w, 0), 1, 0), store(1, one), api.ErrIO) // the tag's sector is read ahead of all
	done(t, s, bad(dead(w, 0), 1, 1), store(1, one))
	// The outer one's tags are the inner one's data: read ahead of the inner one's tags.
	s, w, _ = laid(t, over("mirror(integrity(integrity(concat(linear(a, 0, 8), linear(b, 0, 2)), k), l), linear(c, 0, 6))"), 2)
	fails(t, s, bad(w, 1, 1), store(1, one), api.ErrIO)
	done(t, s, bad(dead(w, 0), 1, 1), store(1, one))
	fails(t, s, bad(dead(w, 1), 0, 6), store(1, one), api.ErrIO)
}

// P14.1, T3: tags that do not fit are refused: each byte of a sector or of its tag turned, and others' in their places.
func TestTagsRefused(t *testing.T) {
	s, w, content := laid(t, over("integrity(a, k)"), 2)
	for octet := range 64 {
		turnedData := turned(w, 0, 6, octet)
		fails(t, s, turnedData, read(6, 1), api.ErrIO)
		fails(t, s, turnedData, read(5, 3), api.ErrIO)
		told(t, s, turnedData, 7, content[64*7:64*8])
		turnedTag := turned(w, 0, 33, octet)
		for i := 4; i < 8; i++ {
			if octet/16 == i%4 {
				fails(t, s, turnedTag, read(i, 1), api.ErrIO)
			} else {
				told(t, s, turnedTag, i, content[64*i:64*i+64])
			}
		}
		after, _ := done(t, s, turnedData, store(6, sectors(1, 3))) // what is written is right again
		told(t, s, after, 6, sectors(1, 3))
	}
	// A sector in another one's place, with its tag and without.
	moved := with(w, 0, 6, w[0].Sectors[7])
	fails(t, s, moved, read(6, 1), api.ErrIO)
	tags := bytes.Clone(w[0].Sectors[33])
	copy(tags[32:48], tags[48:64])
	fails(t, s, with(moved, 0, 33, tags), read(6, 1), api.ErrIO)
	fails(t, s, with(w, 0, 33, w[0].Sectors[32]), read(4, 1), api.ErrIO)
	fails(t, s, with(w, 0, 33, make([]byte, 64)), read(4, 1), api.ErrIO)
	// Another key's tag.
	other := stackOf(t, over("integrity(a, l)"))
	fails(t, other, w, read(6, 1), api.ErrIO)
	// One of old.
	after, _ := done(t, s, w, store(6, sectors(1, 4)))
	fails(t, s, with(after, 0, 6, w[0].Sectors[6]), read(6, 1), api.ErrIO)
	fails(t, s, with(after, 0, 33, w[0].Sectors[33]), read(6, 1), api.ErrIO)
	told(t, s, with(with(after, 0, 33, w[0].Sectors[33]), 0, 6, w[0].Sectors[6]), 6, content[64*6:64*7])
}

// P14.1, P14.4 (verity): a tree that is made by hand; each byte of it that shows a sector is looked at, and those of others are not.
func TestVerityByHand(t *testing.T) {
	for _, size := range []int{2, 3, 5, 10, 21, 40} {
		s, w, content := laid(t, over(fmt.Sprintf("verity(linear(a, %d, %d), r)", 40-size, size)), size)
		n := len(content) / 64
		tree, root := planted(content)
		if !bytes.Equal(s.Parts[s.Export].Root, root) {
			t.Fatalf("root %x; want %x", s.Parts[s.Export].Root, root)
		}
		holds(t, w, 0, 40-size, slices.Concat(content, tree))
		for at := range n {
			told(t, s, w, at, content[64*at:64*at+64])
		}
		// Which sectors are asked for is seen by what goes bad.
		for i := 40 - size; i < 40; i++ {
			for at := range n {
				_, _, e := Do(s, bad(w, 0, i), read(at, 1))
				asked := i == 40-size+at
				level, place := 40-size+n, at
				for count := n; (count > 1 || level == 40-size+n) && !asked; {
					place /= 2
					asked = i == level+place
					count = (count + 1) / 2
					level += count
				}
				if want := map[bool]api.Errno{true: api.ErrIO, false: api.OK}[asked]; e != want {
					t.Errorf("of %d, with %d bad, sector %d: %v; want %v", n, i, at, e, want)
				}
				asMeant(t, s, bad(w, 0, i), read(at, 1))
			}
		}
	}
}

// P14.4 (verity): however its sectors are changed, it tells those under its root, or fails.
func TestVerityTells(t *testing.T) {
	s, w, content := laid(t, over("verity(linear(a, 0, 23), r)"), 1)
	n := len(content) / 64
	tellsOrFails := func(w []api.Content) (failed int) {
		t.Helper()
		for at := range n {
			_, b, e := Do(s, w, read(at, 1))
			if e == api.ErrIO && len(b) == 0 {
				failed++
			} else if e != api.OK || !bytes.Equal(b, content[64*at:64*at+64]) {
				t.Fatalf("sector %d: %x, %v", at, b, e)
			}
		}
		return failed
	}
	if failed := tellsOrFails(w); failed != 0 {
		t.Errorf("untouched: %d sectors fail", failed)
	}
	for i := range 23 {
		for octet := range 64 {
			failed := tellsOrFails(turned(w, 0, i, octet))
			if i < n && failed != 1 {
				t.Errorf("a byte of data sector %d is turned: %d sectors fail", i, failed)
			}
			if i == 22 && octet < 32 && failed != n {
				t.Errorf("a byte below the root is turned: %d of %d sectors fail", failed, n)
			}
		}
	}
	// A whole tree of other data.
	other := slices.Concat(sectors(1, 2), content[64:])
	tree, root := planted(other)
	forged := copied(w)
	for i, b := range slices.Collect(slices.Chunk(slices.Concat(other, tree), 64)) {
		forged[0].Sectors[i] = b
	}
	if failed := tellsOrFails(forged); failed != n {
		t.Errorf("under another root: %d of %d sectors fail", failed, n)
	}
	s.Parts = slices.Clone(s.Parts)
	s.Parts[s.Export].Root = root
	told(t, s, forged, 0, other[:64])
	fails(t, s, w, read(1, 1), api.ErrIO)
	s.Parts[s.Export].Root = root[:31]
	fails(t, s, forged, read(0, 1), api.ErrIO)
}

// P14.1 (V1), P14.3: what fails, in each kind of node, ahead of the request's first sector and in its midst.
func TestFailures(t *testing.T) {
	t.Parallel()
	for _, expr := range kinds {
		s, w, content := laid(t, over(expr), 3)
		size := len(content) / 64
		for dev := range 5 {
			for _, r := range []api.Request{read(size-16, 16), store(1, sectors(15, 1)), trim(size-9, 9)} {
				asMeant(t, s, dead(w, dev), r)
				for i := range 40 {
					asMeant(t, s, bad(w, dev, i), r)
				}
				asMeant(t, s, bad(dead(w, dev), (dev+1)%5, 0, 1, 2, 3, 4, 5, 6), r)
			}
		}
		all := dead(w, 0, 1, 2, 3, 4)
		fails(t, s, all, read(0, 1), api.ErrIO)
		fails(t, s, all, read(3, 7), api.ErrIO)
		if !s.ReadOnly {
			fails(t, s, all, store(2, sectors(3, 1)), api.ErrIO)
			fails(t, s, all, trim(2, 1), api.ErrIO)
			fails(t, s, all, zeroes(2, 16), api.ErrIO)
		}
	}
}

// P14.1 (V1), P14.3: a concat whose second kid is dead: what lies in the first one is neither told nor written.
func TestFailsMidway(t *testing.T) {
	s, w, content := laid(t, over("concat(linear(a, 0, 10), b)"), 4)
	gone := dead(w, 1)
	told(t, s, gone, 0, content[:64*10])
	done(t, s, gone, store(2, sectors(8, 1)))
	fails(t, s, gone, read(2, 9), api.ErrIO)
	fails(t, s, gone, store(2, sectors(9, 1)), api.ErrIO)
	fails(t, s, gone, trim(9, 2), api.ErrIO)
	fails(t, s, gone, zeroes(10, 1), api.ErrIO)
	fails(t, s, dead(w, 0), store(9, sectors(2, 1)), api.ErrIO)
	spoilt := bad(w, 1, 1)
	fails(t, s, spoilt, read(8, 8), api.ErrIO)
	told(t, s, spoilt, 8, content[64*8:64*11])
	after, _ := done(t, s, spoilt, store(8, sectors(8, 1))) // a sector that is written is bad no more
	told(t, s, after, 8, sectors(8, 1))
	fails(t, s, dead(spoilt, 1), read(11, 1), api.ErrIO)
}

// P14.1: a bad sector is bad no more when it was written, and still is when the request failed, in each kind of node.
func TestBadHeals(t *testing.T) {
	t.Parallel()
	for _, expr := range kinds {
		s, w, _ := laid(t, over(expr), 5)
		if s.ReadOnly {
			continue
		}
		for dev := range 5 {
			for i := range 40 {
				after, e := asMeant(t, s, bad(w, dev, i), store(1, sectors(14, 2)))
				if e == api.OK {
					told(t, s, after, 1, sectors(14, 2))
				} else if !after[dev].Bad[i] {
					t.Errorf("%s: with %v the sector %d of device %d is bad no more", expr, e, i, dev)
				}
			}
		}
	}
}

// legs is an expr of mirrors of mirrors with so many legs in all, each of so many sectors of one device.
func legs(device string, count, size int) string {
	var leaves []string
	for i := range count {
		leaves = append(leaves, fmt.Sprintf("linear(%s,%d,%d)", device, size*i, size))
	}
	for len(leaves) > 1 {
		var above []string
		for group := range slices.Chunk(leaves, 4) {
			if len(group) == 1 {
				above = append(above, group[0])
				continue
			}
			above = append(above, "mirror("+strings.Join(group, ",")+")")
		}
		leaves = above
	}
	return leaves[0]
}

// P14.1 (V1): a request writes 200 sectors of devices, and no more, each counted once.
func TestMaxGroup(t *testing.T) {
	head := "device a 400; device b 40; device c 40; journal j 256; key k $" + kHex + "; volume m = "
	text := func(count, size int, expr string) string {
		return head + legs("a", count, size) + "; volume v = " + expr + "; export v;"
	}
	ask := func(text string, r api.Request, want api.Errno) {
		t.Helper()
		s, w, _ := laid(t, text, 1)
		if _, e := asMeant(t, s, w, r); e != want {
			t.Errorf("%q: %v of %d: %v; want %v", text, r.Cmd, r.N, e, want)
		}
		if want != api.OK {
			fails(t, s, w, r, want)
		}
	}
	plain := text(20, 10, "concat(m, b)")
	ask(plain, store(0, sectors(10, 1)), api.OK)    // 200
	ask(plain, store(0, sectors(11, 1)), api.ErrIO) // 201
	ask(plain, trim(0, 11), api.ErrIO)              // 201
	ask(plain, zeroes(0, 11), api.ErrIO)            // 201
	ask(plain, store(1, sectors(16, 1)), api.OK)    // 187
	ask(plain, read(0, 16), api.OK)                 // what is read is not counted
	ask(text(20, 10, "concat(b, m)"), store(39, sectors(10, 1)), api.OK)
	ask(text(20, 10, "concat(b, m)"), store(39, sectors(11, 1)), api.ErrIO)
	ask(text(16, 12, "concat(m, mirror(b, c))"), store(0, sectors(16, 1)), api.OK)               // 192 and 8
	ask(text(16, 12, "concat(b, m)"), store(36, sectors(16, 1)), api.OK)                         // 4 and 192
	ask(text(25, 8, "m"), store(0, sectors(8, 1)), api.OK)                                       // 200
	ask(text(25, 8, "concat(m, b)"), store(0, sectors(9, 1)), api.ErrIO)                         // 201
	ask(text(15, 13, "concat(m, integrity(b, k))"), store(0, sectors(16, 1)), api.OK)            // 195, 3, and a tag's sector, which is written thrice
	ask(text(15, 13, "concat(m, linear(integrity(b,k),2,9))"), store(0, sectors(16, 1)), api.OK) // 195, 3 and 2: 200
	ask(text(14, 14, "concat(m, snapshot(b, c, 2))"), store(0, sectors(16, 1)), api.OK)          // 196, 2 and 1
	ask(text(14, 14, "concat(m, snapshot(b, c, 3))"), store(0, sectors(16, 1)), api.OK)          // 196, 3 and 1: 200
	ask(text(14, 14, "concat(m, snapshot(b, c, 4))"), store(0, sectors(16, 1)), api.ErrIO)       // 196, 4 and 1: 201
	ask(text(13, 16, "m"), store(0, sectors(15, 1)), api.OK)                                     // 195
	ask(text(13, 16, "m"), store(0, sectors(16, 1)), api.ErrIO)                                  // 208
	// A sector's own failure is named ahead of it.
	full := text(20, 10, "concat(m, linear(b, 0, 1), snapshot(linear(c, 0, 10), linear(c, 10, 2), 1))")
	ask(full, store(0, sectors(12, 1)), api.ErrIO)
	ask(full, store(0, sectors(13, 1)), api.ErrSpace)
}

// P14.3: what one request has done another one finds, whatever failed in between.
func TestAllOrNothing(t *testing.T) {
	s, w, content := laid(t, over("concat(snapshot(linear(a, 0, 8), linear(b, 0, 5), 2), integrity(c, k))"), 6)
	before := w
	for range 3 {
		fails(t, s, w, store(0, sectors(6, 1)), api.ErrSpace)          // two chunks would have slots
		fails(t, s, dead(w, 2), store(7, sectors(2, 1)), api.ErrIO)    // one would
		fails(t, s, bad(w, 2, 32), store(6, sectors(4, 1)), api.ErrIO) // its tag's sector
	}
	told(t, s, w, 0, content[:64*16])
	w, _ = done(t, s, w, store(2, sectors(4, 1)))
	fails(t, s, w, store(0, sectors(1, 1)), api.ErrSpace)
	told(t, s, w, 0, slices.Concat(content[:64*2], sectors(4, 1), content[64*6:64*10]))
	told(t, s, before, 0, content[:64*16])
}

// P14.3 (V1): the world behind a request that is refused is the one ahead of it, device by device, dead and bad ones too.
func TestRefusedWorld(t *testing.T) {
	const text = "device d0 2;device d 2;device d2 6;journal j 256;volume v=linear(concat(linear(d,0,2),linear(d2,0,1)),0,3);export v"
	for _, c := range []struct {
		end  string
		r    api.Request
		want api.Errno
	}{
		{";", read(3, 1), api.ErrArg},
		{";", read(0, 17), api.ErrArg},
		{";", read(-1, 0), api.ErrArg},
		{";", trim(2, 2), api.ErrArg},
		{";", zeroes(0, -1), api.ErrArg},
		{";", store(2, sectors(2, 1)), api.ErrArg},
		{";", api.Request{Cmd: api.Store, N: 1, Data: sectors(1, 1)[:63]}, api.ErrArg},
		{";", api.Request{Cmd: api.Disc}, api.ErrArg},
		{";", api.Request{Cmd: 5}, api.ErrArg},
		{";", api.Request{Cmd: -1}, api.ErrArg},
		{" readonly;", read(3, 1), api.ErrArg},
		{" readonly;", store(0, sectors(1, 1)), api.ErrPerm},
		{" readonly;", trim(0, 0), api.ErrPerm},
		{" readonly;", zeroes(1, 2), api.ErrPerm},
	} {
		s, w, _ := laid(t, text+c.end, 4)
		for _, w := range [][]api.Content{w, dead(w, 1), dead(w, 0, 1, 2, 3), bad(w, 1, 0, 1), bad(dead(w, 2), 3, 255)} {
			fails(t, s, w, c.r, c.want)
		}
	}
}

// P14.3: the world that is told beside an error is one to go on with.
func TestGoesOnBehindErrors(t *testing.T) {
	s, w, content := laid(t, over("snapshot(linear(a, 0, 8), linear(b, 0, 5), 2)"), 3)
	next := func(r api.Request, want api.Errno) {
		t.Helper()
		var e api.Errno
		if w, _, e = Do(s, w, r); e != want {
			t.Fatalf("%v of %d from %d on: %v; want %v", r.Cmd, r.N, r.At, e, want)
		}
	}
	next(store(2, sectors(1, 1)), api.OK)
	next(read(8, 1), api.ErrArg)
	next(store(0, sectors(8, 2)), api.ErrSpace)
	next(api.Request{Cmd: api.Disc}, api.ErrArg)
	s.ReadOnly = true
	next(store(2, sectors(1, 2)), api.ErrPerm)
	s.ReadOnly = false
	told(t, s, w, 0, slices.Concat(content[:64*2], sectors(1, 1), content[64*3:]))
	next(store(3, sectors(1, 3)), api.OK)
	told(t, s, w, 0, slices.Concat(content[:64*2], sectors(1, 1), sectors(1, 3), content[64*4:]))
}

// Rule 4: what is handed in is neither kept nor written into, and what is told is memory of its own.
func TestMemory(t *testing.T) {
	for _, expr := range kinds {
		s, w, content := laid(t, over(expr), 7)
		_, b := done(t, s, w, read(0, 16))
		clear(b)
		told(t, s, w, 0, content[:64*16])
		if s.ReadOnly {
			continue
		}
		// A sector's memory goes on behind its end: there nothing is to be changed.
		long := slices.Concat(sectors(5, 8), []byte("behind its end"))
		held, stackHeld := copied(w), fmt.Sprint(s)
		after, _ := done(t, s, w, store(1, long[:64*5]))
		if fmt.Sprint(s) != stackHeld {
			t.Errorf("%s: the stack was changed", expr)
		}
		if !bytes.Equal(long, slices.Concat(sectors(5, 8), []byte("behind its end"))) {
			t.Errorf("%s: Data was changed", expr)
		}
		clear(long)
		told(t, s, after, 1, sectors(5, 8))
		// The world behind is another one: what becomes of it is not seen in the one ahead.
		for dev := range after {
			after[dev].Dead = true
			for i := range after[dev].Sectors {
				after[dev].Bad[i] = true
				after[dev].Sectors[i] = nil
			}
		}
		if at := differ(w, held); at != "" {
			t.Errorf("%s: the world ahead of the request was changed: %s", expr, at)
		}
	}
	s, w, _ := laid(t, over("mirror(a, b)"), 7)
	after, _ := done(t, s, w, store(1, sectors(1, 8)))
	after[0].Sectors[1][0] ^= 1
	holds(t, after, 1, 1, sectors(1, 8))
}

// P14.1: the journal's device is not looked at, whatever it holds, and stays as it is.
func TestJournalNotLookedAt(t *testing.T) {
	s, w, content := laid(t, over("mirror(a, b)"), 8)
	for _, c := range []api.Content{{}, {Dead: true}, {Sectors: [][]byte{{1}}, Bad: []bool{true}}} {
		other := copied(w)
		other[s.Journal] = c
		told(t, s, other, 3, content[64*3:64*6])
		after, _ := done(t, s, other, store(3, sectors(2, 1)))
		told(t, s, after, 3, sectors(2, 1))
		if at := differ(other[s.Journal:], after[s.Journal:]); at != "" {
			t.Errorf("the journal was changed: %s", at)
		}
	}
}

// misshapen are worlds that are none of the stack's.
func misshapen(w []api.Content) map[string][]api.Content {
	each := func(change func(c *api.Content)) []api.Content {
		w := copied(w)
		for dev := range w {
			change(&w[dev])
		}
		return w
	}
	m := map[string][]api.Content{
		"nil":                  nil,
		"no device":            {},
		"one device":           w[:1],
		"one less":             w[:len(w)-1],
		"one more":             append(copied(w), api.Content{}),
		"many more":            slices.Concat(w, w, w),
		"empty ones":           make([]api.Content, len(w)),
		"empty ones, too many": make([]api.Content, 3*len(w)),
		"no sectors":           each(func(c *api.Content) { c.Sectors = nil }),
		"no sectors, dead":     each(func(c *api.Content) { c.Sectors, c.Dead = nil, true }),
		"Bad is nil":           each(func(c *api.Content) { c.Bad = nil }),
		"Bad of one":           each(func(c *api.Content) { c.Bad = []bool{true} }),
		"Bad too long":         each(func(c *api.Content) { c.Bad = make([]bool, 5000) }),
		"Bad one less":         each(func(c *api.Content) { c.Bad = c.Bad[:len(c.Bad)-1] }),
	}
	for _, n := range []int{1, 2, 10, 39} {
		m["sectors "+strconv.Itoa(n)] = each(func(c *api.Content) { c.Sectors = c.Sectors[:n] })
	}
	for _, n := range []int{41, 3000} {
		m["sectors "+strconv.Itoa(n)] = each(func(c *api.Content) {
			for len(c.Sectors) < n {
				c.Sectors = append(c.Sectors, make([]byte, 64))
			}
		})
	}
	for _, n := range []int{0, 1, 15, 16, 32, 63, 65, 128, 1000} {
		all := each(func(c *api.Content) {
			for i := range c.Sectors {
				c.Sectors[i] = make([]byte, n)
			}
		})
		m["bytes "+strconv.Itoa(n)] = all
		for _, i := range []int{0, 1, 33, 39} {
			one := copied(w)
			for dev := range one {
				one[dev].Sectors[i] = make([]byte, n)
			}
			m[fmt.Sprintf("bytes %d of sector %d", n, i)] = one
		}
	}
	m["nil sectors"] = each(func(c *api.Content) { clear(c.Sectors) })
	return m
}

// P1: on worlds of any shape no call panics, and what is handed in stays as it is.
func TestMisshapenWorlds(t *testing.T) {
	t.Parallel()
	for _, expr := range kinds {
		s, w, _ := laid(t, over(expr), 9)
		size := s.Parts[s.Export].Size
		for name, world := range misshapen(w) {
			held := copied(world)
			for _, r := range []api.Request{
				{Cmd: api.Flush}, read(0, 0), read(0, 1), read(0, 16), read(size-1, 1), read(size-16, 16),
				store(0, sectors(16, 1)), store(size-16, sectors(16, 1)), trim(3, 2), zeroes(size-1, 1), store(9, nil),
			} {
				Do(s, world, r)
			}
			if at := differ(world, held); at != "" {
				t.Errorf("%s, %s: what was handed in was changed: %s", expr, name, at)
			}
		}
	}
}

// P1: nor does one panic on a stack that has no node at all.
func TestNoStack(t *testing.T) {
	for _, cmd := range []api.Cmd{api.Read, api.Store, api.Trim, api.Zeroes, api.Disc} {
		for _, s := range []api.Stack{{}, {Export: -1}, {Export: 1}} {
			fails(t, s, nil, api.Request{Cmd: cmd, N: 1, Data: sectors(1, 1)}, api.ErrArg)
		}
	}
}

// P2: a request that is done again on the same world tells the same.
func TestSameAgain(t *testing.T) {
	for _, expr := range kinds {
		s, w, _ := laid(t, over(expr), 10)
		for _, r := range []api.Request{read(0, 16), store(1, sectors(15, 2)), trim(3, 9)} {
			a, first, e := Do(s, w, r)
			for range 3 {
				b, second, again := Do(s, w, r)
				if e != again || !bytes.Equal(first, second) || differ(a, b) != "" {
					t.Errorf("%s: %v is done otherwise the next time", expr, r.Cmd)
				}
			}
		}
	}
}

// P1: nodes that are nested deep are read in good time, though each level asks for several sectors of the next one.
func TestDeep(t *testing.T) {
	nested := func(word, name string, depths ...int) string {
		text := "device a 2048; device b 2048; journal j 256; key k $" + kHex + "; root r $" + rHex + "; volume v0 = concat(a, b); "
		for i, depth := range depths {
			text += fmt.Sprintf("volume v%d = %sv%d%s; ", i+1, strings.Repeat(word+"(", depth), i, strings.Repeat(", "+name+")", depth))
		}
		return text + fmt.Sprintf("export v%d;", len(depths))
	}
	for _, text := range []string{nested("verity", "r", 11), nested("integrity", "k", 10, 10, 10)} {
		s, w, content := laid(t, text, 11)
		told(t, s, w, 0, content[:min(len(content), 64*16)])
		told(t, s, w, len(content)/64-1, content[len(content)-64:])
		fails(t, s, dead(w, 1), read(0, 1), api.ErrIO)
	}
}

// Ways: what fails wraps what failed below it, down to the number.
func TestFailuresWrap(t *testing.T) {
	s, w, _ := laid(t, over("linear(crypt(mirror(a, b), k), 3, 20)"), 12)
	d := &doer{Stack: s, world: dead(w, 0, 1), written: map[place][]byte{}, known: map[place]answer{}}
	_, err := d.read(s.Export, 4)
	if !errors.Is(err, api.ErrDead) || errors.Is(err, api.ErrIO) {
		t.Errorf("what failed is %v", err)
	}
	var nodes []int
	for at := err; at != nil; at = errors.Unwrap(at) {
		if f, is := at.(failure); is {
			nodes = append(nodes, f.of)
		}
	}
	if !slices.Equal(nodes, []int{s.Export, s.Export - 1, s.Export - 2}) {
		t.Errorf("it went through the nodes %v", nodes)
	}
	if want := fmt.Sprintf("node %d, sector 4: node %d, sector 7: node %d, sector 7: error 142", s.Export, s.Export-1, s.Export-2); err.Error() != want {
		t.Errorf("it is told as %q; want %q", err.Error(), want)
	}
	if err := d.write(s.Export, 4, make([]byte, 64)); !errors.Is(err, api.ErrDead) || number(err) != api.ErrIO {
		t.Errorf("what failed is %v", err)
	}
}
