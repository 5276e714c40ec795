package exec

import (
	"bytes"
	"errors"
	"fmt"
	"math"
	"math/rand"
	"slices"
	"strings"
	"testing"

	"cofferdam/api"
	"cofferdam/area"
	"cofferdam/cache"
	"cofferdam/check"
	"cofferdam/device"
	"cofferdam/opt"
	"cofferdam/parse"
	"cofferdam/plan"
)

// Figures of keys, and of a root that lay puts another one in the place of.
const (
	kHex = "000102030405060708090a0b0c0d0e0f101112131415161718191a1b1c1d1e1f"
	lHex = "fedcba98765432100123456789abcdefffffffffffffffffffffffffffffffff"
	rHex = "a0a1a2a3a4a5a6a7a8a9aaabacadaeafb0b1b2b3b4b5b6b7b8b9babbbcbdbebf"
)

// ground is what most texts here stand on: the devices 0 to 4 are a to e, of 40 sectors each, 5 is the journal.
const ground = "device a 40; device b 40; device c 40; device d 40; device e 40; journal j 256; key k $" + kHex + "; key l $" + lHex + "; root r $" + rHex + "; "

// over is the text of a volume of an expr over ground.
func over(expr string) string {
	return ground + "volume v = " + expr + "; export v;"
}

// kinds are exprs over ground, of each kind, alone and nested within others; of each the node has 16 sectors or more.
var kinds = []string{
	"a",
	"linear(a, 3, 20)",
	"concat(linear(a, 0, 5), b, linear(c, 7, 6))",
	"mirror(a, b)",
	"mirror(a, b, c, d)",
	"snapshot(a, b, 1)",
	"snapshot(linear(a, 1, 37), linear(b, 2, 38), 16)",
	"crypt(a, k)",
	"integrity(a, k)",
	"verity(a, r)",
	"linear(linear(a, 3, 30), 5, 20)",
	"linear(a, 0, 40)",
	"concat(linear(a, 0, 20), linear(a, 20, 20))",
	"concat(linear(b, 5, 9), linear(b, 14, 9), linear(a, 3, 2), linear(b, 0, 5))",
	"linear(crypt(a, k), 7, 20)",
	"linear(integrity(a, k), 2, 25)",
	"linear(concat(concat(a, linear(b, 3, 9)), concat(c, d)), 35, 60)",
	"concat(mirror(linear(a, 0, 7), linear(b, 0, 7)), crypt(c, l))",
	"concat(snapshot(a, b, 4), integrity(c, k))",
	"mirror(concat(linear(a, 0, 12), linear(b, 0, 28)), crypt(c, k))",
	"mirror(snapshot(a, b, 2), c)",
	"mirror(integrity(a, k), integrity(b, l))",
	"mirror(mirror(a, b), mirror(c, d))",
	"snapshot(mirror(a, b), mirror(c, d), 5)",
	"snapshot(concat(linear(a, 0, 9), linear(b, 0, 9)), concat(linear(c, 0, 11), linear(d, 0, 11)), 4)",
	"snapshot(snapshot(a, b, 3), snapshot(c, d, 1), 2)",
	"snapshot(crypt(a, k), crypt(b, l), 3)",
	"snapshot(integrity(a, k), integrity(b, l), 3)",
	"snapshot(verity(a, r), b, 2)",
	"crypt(mirror(a, b), k)",
	"crypt(crypt(a, k), l)",
	"crypt(snapshot(a, b, 4), k)",
	"integrity(crypt(a, k), l)",
	"integrity(mirror(a, b), k)",
	"integrity(snapshot(a, b, 2), k)",
	"integrity(integrity(a, k), l)",
	"integrity(concat(linear(a, 0, 13), linear(b, 0, 17)), k)",
	"verity(mirror(a, b), r)",
	"verity(crypt(concat(a, b), k), r)",
	"verity(verity(concat(a, b), r), r)",
	"verity(snapshot(a, b, 4), r)",
	"mirror(verity(a, r), linear(b, 0, 19))",
	"concat(verity(a, r), b)",
}

// checkedOf is a text's stack, or what is wrong with it.
func checkedOf(text string) (api.Stack, api.Errno) {
	n, e, _ := parse.Parse(text)
	if e != api.OK {
		return api.Stack{}, e
	}
	s, e, _ := check.Check(n)
	return s, e
}

// stackOf is the stack of a text that has one.
func stackOf(t *testing.T, text string) api.Stack {
	t.Helper()
	s, e := checkedOf(text)
	if e != api.OK {
		t.Fatalf("%q: %v", text, e)
	}
	return s
}

// noughts is a world of noughts.
func noughts(devices []int) []api.Content {
	var w []api.Content
	for _, size := range devices {
		c := api.Content{Bad: make([]bool, size)}
		for range size {
			c.Sectors = append(c.Sectors, make([]byte, 64))
		}
		w = append(w, c)
	}
	return w
}

// sectors is so many sectors, none like another one; another seed makes others.
func sectors(n, seed int) []byte {
	b := make([]byte, 64*n)
	rand.New(rand.NewSource(int64(seed))).Read(b)
	return b
}

// laid is a text's stack, and a world in which the exported node tells content that a seed makes, which is told too.
func laid(t *testing.T, text string, seed int) (api.Stack, []api.Content, []byte) {
	t.Helper()
	s := stackOf(t, text)
	w := noughts(s.Devices)
	content := sectors(s.Parts[s.Export].Size, seed)
	lay(s, w, s.Export, 0, content)
	return s, w, content
}

func read(at, n int) api.Request { return api.Request{Cmd: api.Read, At: at, N: n} }

func store(at int, data []byte) api.Request {
	return api.Request{Cmd: api.Store, At: at, N: len(data) / 64, Data: data}
}

func trim(at, n int) api.Request { return api.Request{Cmd: api.Trim, At: at, N: n} }

func zeroes(at, n int) api.Request { return api.Request{Cmd: api.Zeroes, At: at, N: n} }

// done runs a request that succeeds, and tells the world behind it and what was read.
func done(t *testing.T, s api.Stack, w []api.Content, r api.Request) ([]api.Content, []byte) {
	t.Helper()
	behind, b, e := asMeant(t, s, w, r)
	if e != api.OK {
		t.Fatalf("%v of %d from %d on: %v", r.Cmd, r.N, r.At, e)
	}
	return behind, b
}

// told asks that some sectors are read as these.
func told(t *testing.T, s api.Stack, w []api.Content, at int, want []byte) {
	t.Helper()
	if _, b := done(t, s, w, read(at, len(want)/64)); !bytes.Equal(b, want) {
		t.Fatalf("Read of %d from %d on: %x; want %x", len(want)/64, at, b, want)
	}
}

// fails asks that a request fails: nothing is read, and the open group has nothing.
func fails(t *testing.T, s api.Stack, w []api.Content, r api.Request, want api.Errno) {
	t.Helper()
	if _, b, e := asMeant(t, s, w, r); e != want || len(b) != 0 {
		t.Fatalf("%v of %d from %d on, with %d bytes: %d bytes, %v; want none, %v", r.Cmd, r.N, r.At, len(r.Data), len(b), e, want)
	}
}

// dead is a world in which devices are dead.
func dead(w []api.Content, devices ...int) []api.Content {
	w = listed(w)
	for _, dev := range devices {
		w[dev].Dead = true
	}
	return w
}

// bad is a world in which sectors of a device are bad.
func bad(w []api.Content, dev int, sectors ...int) []api.Content {
	w = listed(w)
	for _, i := range sectors {
		w[dev].Bad[i] = true
	}
	return w
}

// with is a world in which a device's sector holds these bytes.
func with(w []api.Content, dev, i int, b []byte) []api.Content {
	w = listed(w)
	w[dev].Sectors[i] = bytes.Clone(b)
	return w
}

// turned is a world in which a bit of a byte of a device's sector is another one.
func turned(w []api.Content, dev, i, octet int) []api.Content {
	b := bytes.Clone(w[dev].Sectors[i])
	b[octet] ^= 1
	return with(w, dev, i, b)
}

// holds asks that a device's sectors from one on are these.
func holds(t *testing.T, w []api.Content, dev, first int, want []byte) {
	t.Helper()
	for i := range len(want) / 64 {
		if b := w[dev].Sectors[first+i]; !bytes.Equal(b, want[64*i:64*i+64]) {
			t.Fatalf("device %d, sector %d: %x; want %x", dev, first+i, b, want[64*i:64*i+64])
		}
	}
}

// P18.1 (U1), P18.2: each command on a node of each kind; what was written is read again, by requests like it and by others.
func TestCommands(t *testing.T) {
	t.Parallel()
	for _, expr := range kinds {
		s, w, content := laid(t, over(expr), 1)
		size := len(content) / 64
		for at := 0; at+16 <= size; at += 5 {
			told(t, s, w, at, content[64*at:64*at+64*16])
		}
		if s.ReadOnly {
			fails(t, s, w, store(3, sectors(4, 2)), api.ErrPerm)
			continue
		}
		after, _, e := asMeant(t, s, w, store(2, sectors(7, 2)))
		if e != api.OK {
			t.Fatalf("%s: Store: %v", expr, e)
		}
		copy(content[64*2:], sectors(7, 2))
		told(t, s, after, 2, content[64*2:64*9])
		after, _ = done(t, s, after, trim(7, 3))
		copy(content[64*7:], make([]byte, 64*3))
		after, _ = done(t, s, after, zeroes(0, 4))
		copy(content, make([]byte, 64*4))
		after, _ = done(t, s, after, store(size-1, sectors(1, 3)))
		copy(content[64*size-64:], sectors(1, 3))
		after, _ = done(t, s, after, api.Request{Cmd: api.Flush})
		for at := 0; at < size; at++ {
			told(t, s, after, at, content[64*at:64*at+64])
		}
	}
}

// P18.1: what the examples 1 to 6 of the whole say of requests.
func TestExamples(t *testing.T) {
	s := stackOf(t, "device a 4; device b 4; journal j 256; volume v = mirror(a, b); export v;")
	one := sectors(1, 1)
	w, _ := done(t, s, noughts(s.Devices), store(1, one))
	told(t, s, w, 1, one)
	holds(t, w, 0, 1, one)
	holds(t, w, 1, 1, one)
	told(t, s, dead(w, 0), 1, one)
	done(t, s, dead(w, 0), store(1, one))
	fails(t, s, dead(w, 0, 1), read(1, 1), api.ErrIO)
	fails(t, s, dead(w, 0, 1), store(1, one), api.ErrIO)

	s = stackOf(t, "device a 4; journal j 256; volume v = linear(a, 1, 3); export v;")
	w, _ = done(t, s, noughts(s.Devices), store(0, one))
	holds(t, w, 0, 1, one)
	fails(t, s, w, read(2, 2), api.ErrArg)

	s = stackOf(t, "device a 10; journal j 256; key k $"+kHex+"; volume v = integrity(a, k); export v;")
	w = noughts(s.Devices)
	fails(t, s, w, read(7, 1), api.ErrIO)
	fails(t, s, w, read(8, 1), api.ErrArg)
	w, _ = done(t, s, w, store(7, one))
	told(t, s, w, 7, one)
	fails(t, s, turned(w, 0, 7, 30), read(7, 1), api.ErrIO)

	s = stackOf(t, "device a 4; device b 3; journal j 256; volume v = snapshot(a, b, 2); export v;")
	w, _ = done(t, s, noughts(s.Devices), store(0, one))
	holds(t, w, 0, 0, make([]byte, 64*4))
	fails(t, s, w, store(2, one), api.ErrSpace)

	s = stackOf(t, "device a 4; journal j 256; export a readonly;")
	fails(t, s, noughts(s.Devices), store(0, one), api.ErrPerm)
}

// on is a plan that is run over new devices and a cache of them.
func on(t *testing.T, p api.Plan, devices ...int) *ran {
	t.Helper()
	x := &ran{plan: p}
	for _, size := range devices {
		d, e := device.New(size)
		if e != api.OK {
			t.Fatalf("device.New(%d): %v", size, e)
		}
		x.disks = append(x.disks, d)
	}
	c, e := cache.New(x.disks)
	if e != api.OK {
		t.Fatalf("cache.New: %v", e)
	}
	x.c = c
	return x
}

// both are the plans of a text's stack, each on new devices.
func both(t *testing.T, text string) script {
	t.Helper()
	s := stackOf(t, text)
	var l script
	for _, p := range plans(s) {
		l = append(l, on(t, p, s.Devices...))
	}
	return l
}

// run runs a request, with all that is promised asked, and asks for its error.
func (x *ran) run(t *testing.T, r api.Request, want api.Errno) []byte {
	t.Helper()
	b, e, _ := x.asked(t, x.world(), r, enough)
	if e != want {
		t.Fatalf("%v of %d from %d on, with %d bytes: %v; want %v", r.Cmd, r.N, r.At, len(r.Data), e, want)
	}
	return b
}

// has asks that the open group is just these writes, in this order.
func (x *ran) has(t *testing.T, what string, want ...api.Write) {
	t.Helper()
	if g := x.c.Group(); !slices.EqualFunc(g, want, func(v, w api.Write) bool {
		return v.Dev == w.Dev && v.Sector == w.Sector && bytes.Equal(v.Data, w.Data)
	}) {
		t.Fatalf("%s: the open group is %v; want %v", what, g, want)
	}
}

// number4 is a sector with an entry of a table, or with some that follow one another.
func number4(sector []byte, i int, octets ...byte) []byte {
	b := bytes.Clone(sector)
	copy(b[4*i:], octets)
	return b
}

// P18.1 (U1): which sectors of devices the open group has, in each kind, each once, with what was written last.
func TestGroup(t *testing.T) {
	none, one, two, key := make([]byte, 64), sectors(1, 1), sectors(1, 2), make([]byte, 32)
	for i := range key {
		key[i] = byte(i)
	}
	w := func(dev, sector int, b []byte) api.Write { return api.Write{Dev: dev, Sector: sector, Data: b} }
	pair := slices.Concat(one, two)
	named := w(1, 1, number4(none, 3, 0, 0, 0, 1)) // the chunk 19 has the first slot
	for _, c := range []struct {
		expr string
		kept []api.Write
		r    api.Request
		want []api.Write
	}{
		{"a", nil, store(5, pair), []api.Write{w(0, 5, one), w(0, 6, two)}},
		{"a", nil, trim(39, 1), []api.Write{w(0, 39, none)}},
		{"a", nil, zeroes(0, 2), []api.Write{w(0, 0, none), w(0, 1, none)}},
		{"a", []api.Write{w(0, 5, one)}, store(5, one), []api.Write{w(0, 5, one)}},
		{"a", nil, store(5, nil), nil},
		{"a", nil, trim(5, 0), nil},
		{"a", nil, read(5, 2), nil},
		{"a", nil, api.Request{Cmd: api.Flush, At: 5, N: 2}, nil},
		{"linear(b, 3, 20)", nil, store(5, pair), []api.Write{w(1, 8, one), w(1, 9, two)}},
		{"concat(linear(a, 2, 6), linear(b, 9, 4))", nil, store(5, pair), []api.Write{w(0, 7, one), w(1, 9, two)}},
		{"mirror(a, c, b)", nil, store(5, pair), []api.Write{w(0, 5, one), w(2, 5, one), w(1, 5, one), w(0, 6, two), w(2, 6, two), w(1, 6, two)}},
		// 20 chunks have a table of 2 sectors; the slots lie behind it.
		{"snapshot(a, b, 2)", nil, store(5, one), []api.Write{w(1, 2, none), w(1, 3, one), w(1, 0, number4(none, 2, 0, 0, 0, 1))}},
		{"snapshot(a, b, 2)", nil, store(4, pair), []api.Write{w(1, 2, one), w(1, 3, two), w(1, 0, number4(none, 2, 0, 0, 0, 1))}},
		{"snapshot(a, b, 2)", nil, store(5, pair), []api.Write{w(1, 2, none), w(1, 3, one), w(1, 0, number4(none, 2, 0, 0, 0, 1, 0, 0, 0, 2)), w(1, 4, two), w(1, 5, none)}},
		{"snapshot(a, b, 2)", []api.Write{named}, store(5, one), []api.Write{w(1, 4, none), w(1, 5, one), w(1, 0, number4(none, 2, 0, 0, 0, 2))}},
		{"snapshot(a, b, 2)", []api.Write{named, w(0, 36, two)}, store(37, one), []api.Write{w(1, 4, two), w(1, 5, one), w(1, 1, number4(none, 2, 0, 0, 0, 2, 0, 0, 0, 1))}},
		{"snapshot(a, b, 2)", []api.Write{named}, store(38, pair), []api.Write{w(1, 2, one), w(1, 3, two)}},
		{"crypt(a, k)", nil, store(5, pair), []api.Write{w(0, 5, crypted(key, 5, one, true)), w(0, 6, crypted(key, 6, two, true))}},
		{"integrity(a, k)", nil, store(2, pair), []api.Write{w(0, 2, one), w(0, 32, slices.Concat(none[:32], tagged(key, 2, one), tagged(key, 3, two))), w(0, 3, two)}},
		{"integrity(a, k)", nil, store(3, pair), []api.Write{w(0, 3, one), w(0, 32, slices.Concat(none[:48], tagged(key, 3, one))), w(0, 4, two), w(0, 33, slices.Concat(tagged(key, 4, two), none[:48]))}},
		{"crypt(integrity(a, k), k)", nil, store(3, one), []api.Write{w(0, 3, crypted(key, 3, one, true)), w(0, 32, slices.Concat(none[:48], tagged(key, 3, crypted(key, 3, one, true))))}},
	} {
		for _, x := range both(t, over(c.expr)) {
			for _, put := range c.kept {
				x.c.Write(put.Dev, put.Sector, put.Data)
			}
			x.c.Keep()
			x.run(t, c.r, api.OK)
			x.has(t, fmt.Sprintf("%s, %v of %d from %d on", c.expr, c.r.Cmd, c.r.N, c.r.At), c.want...)
		}
	}
}

// sameBut asks that a world is another one but for some sectors, each range a device, its first one, and how many.
func sameBut(t *testing.T, a, b []api.Content, ranges ...[3]int) {
	t.Helper()
	a, b = listed(a), listed(b)
	for _, r := range ranges {
		copy(a[r[0]].Sectors[r[1]:r[1]+r[2]], b[r[0]].Sectors[r[1]:r[1]+r[2]])
		copy(a[r[0]].Bad[r[1]:r[1]+r[2]], b[r[0]].Bad[r[1]:r[1]+r[2]])
	}
	if at := differ(a, b); at != "" {
		t.Fatalf("what should stay was changed: %s", at)
	}
}

// P18.1 (U1), P18.2: what an earlier request wrote and was kept is read by a later one, ahead of Apply and behind it; what was dropped is not.
func TestKept(t *testing.T) {
	t.Parallel()
	for _, expr := range kinds {
		s, w, content := laid(t, over(expr), 1)
		if s.ReadOnly {
			continue
		}
		for n, p := range plans(s) {
			x := &ran{plan: p}
			x.disks, x.c = spread(w, n)
			held := bytes.Clone(content)
			reads := func(what string) {
				t.Helper()
				for at := range 2 {
					if b := x.run(t, read(at, 15), api.OK); !bytes.Equal(b, held[64*at:64*at+64*15]) {
						t.Fatalf("%s: %s: other sectors are read", expr, what)
					}
				}
			}
			reads("ahead of all")
			x.run(t, store(1, sectors(5, 2)), api.OK)
			reads("behind what was not kept")
			x.run(t, store(1, sectors(5, 3)), api.OK)
			x.c.Keep()
			copy(held[64:], sectors(5, 3))
			reads("behind what was kept")
			x.run(t, store(4, sectors(4, 4)), api.OK)
			x.c.Keep()
			copy(held[64*4:], sectors(4, 4))
			reads("behind what was kept over it")
			x.c.Apply()
			reads("behind Apply")
			x.run(t, trim(2, 3), api.OK)
			x.c.Keep()
			copy(held[64*2:], make([]byte, 64*3))
			reads("behind what was kept over what was applied")
			x.run(t, store(3, sectors(9, 5)), api.OK)
			x.c.Apply()
			x.c.Keep()
			copy(held[64*3:], sectors(9, 5))
			reads("behind Apply with a group that was open")
			x.c.Apply()
			for dev, d := range x.disks {
				x.disks[dev] = d.Cut(nil)
			}
			x.c, _ = cache.New(x.disks)
			reads("behind a loss of power")
		}
	}
}

// P18.1 (U1): whatever is in the open group ahead of a request is not there behind it, nor does the request see it.
func TestDropped(t *testing.T) {
	text := over("concat(mirror(linear(a, 0, 20), linear(b, 0, 20)), integrity(c, k))")
	for _, c := range []struct {
		r    api.Request
		want api.Errno
	}{
		{read(3, 4), api.OK},
		{read(3, 0), api.OK},
		{read(20, 1), api.ErrIO}, // its tag was never written
		{read(51, 2), api.ErrArg},
		{store(3, sectors(2, 1)), api.OK},
		{store(3, nil), api.OK},
		{store(51, sectors(2, 1)), api.ErrArg},
		{api.Request{Cmd: api.Store, At: 3, N: 2}, api.ErrArg},
		{trim(0, 3), api.OK},
		{trim(0, -1), api.ErrArg},
		{zeroes(19, 2), api.OK},
		{zeroes(0, 17), api.ErrArg},
		{api.Request{Cmd: api.Flush}, api.OK},
		{api.Request{Cmd: api.Flush, At: -1, N: 99}, api.OK},
		{api.Request{Cmd: 2}, api.ErrArg},
		{api.Request{Cmd: -1}, api.ErrArg},
	} {
		for _, readOnly := range []bool{false, true} {
			for _, x := range both(t, text) {
				x.plan.ReadOnly = readOnly
				want := c.want
				if writes := c.r.Cmd == api.Store || c.r.Cmd == api.Trim || c.r.Cmd == api.Zeroes; writes && want == api.OK && readOnly {
					want = api.ErrPerm
				}
				for i := range 40 {
					x.c.Write(0, i, sectors(1, 9))
					x.c.Write(2, i, sectors(1, 9))
					x.c.Write(4, i, sectors(1, 9))
				}
				x.run(t, c.r, want) // it asks what the group has then
				if b := x.run(t, read(3, 2), api.OK); !bytes.Equal(b, make([]byte, 64*2)) {
					t.Errorf("%v: what was dropped is read", c.r)
				}
				x.has(t, "behind a Read")
			}
		}
	}
}

// P18.1 (U1): what was read in a request of several sectors is what it wrote ahead of it, not what the group of another one had.
func TestOpenGroupNotSeen(t *testing.T) {
	for _, x := range both(t, over("snapshot(a, b, 2)")) {
		x.run(t, store(0, sectors(1, 1)), api.OK) // a slot, which is not kept
		if b := x.run(t, read(0, 2), api.OK); !bytes.Equal(b, make([]byte, 128)) {
			t.Errorf("what was not kept is read: %x", b)
		}
		x.run(t, store(6, sectors(1, 2)), api.OK)
		x.has(t, "the first slot again", api.Write{Dev: 1, Sector: 2, Data: sectors(1, 2)}, api.Write{Dev: 1, Sector: 3, Data: make([]byte, 64)},
			api.Write{Dev: 1, Sector: 0, Data: number4(make([]byte, 64), 3, 0, 0, 0, 1)})
	}
}

// commands are all there are.
var commands = []api.Cmd{api.Read, api.Store, api.Flush, api.Trim, api.Zeroes}

// P18.1 (U1): with no cache it is ErrArg, ahead of all else.
func TestNoCache(t *testing.T) {
	for _, text := range []string{over("a"), over("verity(a, r)"), over("mirror(a, b)")} {
		for _, p := range plans(stackOf(t, text)) {
			for _, cmd := range append([]api.Cmd{api.Disc, 5, -1, math.MaxInt}, commands...) {
				for _, n := range []int{0, 1, 17, -1} {
					r := api.Request{Cmd: cmd, N: n, Data: sectors(max(0, n), 1)}
					if b, e := Run(p, nil, r); e != api.ErrArg || len(b) != 0 {
						t.Errorf("%v of %d: %d bytes, %v", cmd, n, len(b), e)
					}
				}
			}
		}
	}
	if b, e := Run(api.Plan{}, nil, api.Request{}); e != api.ErrArg || len(b) != 0 {
		t.Errorf("of no plan: %d bytes, %v", len(b), e)
	}
}

// P18.1 (U1): Trim and Zeroes write noughts, Flush nothing, whatever else it names, and a Read's, a Trim's or a Zeroes' Data is not looked at.
func TestNoughts(t *testing.T) {
	s, w, content := laid(t, over("mirror(a, b)"), 4)
	for _, cmd := range []api.Cmd{api.Trim, api.Zeroes} {
		for _, data := range [][]byte{nil, {1}, sectors(3, 9)} {
			after, _ := done(t, s, w, api.Request{Cmd: cmd, At: 5, N: 3, Data: data})
			sameBut(t, w, after, [3]int{0, 5, 3}, [3]int{1, 5, 3})
			holds(t, after, 0, 5, make([]byte, 64*3))
			holds(t, after, 1, 5, make([]byte, 64*3))
		}
	}
	for _, data := range [][]byte{nil, {1}, sectors(3, 9)} {
		if _, b := done(t, s, w, api.Request{Cmd: api.Read, At: 5, N: 3, Data: data}); !bytes.Equal(b, content[64*5:64*8]) {
			t.Errorf("Read with %d bytes of data: %x", len(data), b)
		}
	}
	for _, n := range []int{0, 1, -1, 17, math.MinInt, math.MaxInt} {
		after, _ := done(t, s, dead(w, 0, 1), api.Request{Cmd: api.Flush, At: n, N: n, Data: sectors(1, 1), FUA: true})
		sameBut(t, dead(w, 0, 1), after)
	}
	for _, fua := range []bool{false, true} {
		after, _ := done(t, s, w, api.Request{Cmd: api.Store, At: 1, N: 1, Data: sectors(1, 5), FUA: fua})
		holds(t, after, 0, 1, sectors(1, 5))
	}
}

// P18.1 (U1): which requests are not begun: negative and greatest numbers, one sector too many, commands that there are not.
func TestWrongRequests(t *testing.T) {
	s, w, content := laid(t, over("concat(linear(a, 0, 10), b)"), 5)
	wrong := []int{math.MinInt, math.MinInt + 1, math.MinInt + 49, -1 << 32, -17, -16, -2, -1, 17, 18, 50, 51, 64, 1 << 32, 1 << 58, 1<<58 + 1, math.MaxInt - 49, math.MaxInt - 1, math.MaxInt}
	for _, cmd := range []api.Cmd{2, 5, 7, 8, 100, -1, -2, 1 << 32, 1<<32 + 1, math.MinInt, math.MaxInt} {
		for _, n := range []int{0, 1} {
			fails(t, s, w, api.Request{Cmd: cmd, N: n, Data: content[:64*n]}, api.ErrArg)
		}
	}
	for _, cmd := range []api.Cmd{api.Read, api.Store, api.Trim, api.Zeroes} {
		for _, n := range wrong {
			for _, data := range [][]byte{nil, sectors(max(0, min(n, 64)), 1)} {
				fails(t, s, w, api.Request{Cmd: cmd, At: 0, N: n, Data: data}, api.ErrArg)
				fails(t, s, w, api.Request{Cmd: cmd, At: 49, N: n, Data: data}, api.ErrArg)
				fails(t, s, w, api.Request{Cmd: cmd, At: n, N: n, Data: data}, api.ErrArg)
			}
			if n < 0 || n > 50 {
				fails(t, s, w, api.Request{Cmd: cmd, At: n, N: 1, Data: content[:64]}, api.ErrArg)
				fails(t, s, w, api.Request{Cmd: cmd, At: n, N: 0}, api.ErrArg)
			}
		}
		for n := range 17 {
			r := api.Request{Cmd: cmd, At: 50 - n, N: n, Data: sectors(n, 2)}
			done(t, s, w, r)
			r.At++
			fails(t, s, w, r, api.ErrArg)
		}
	}
}

// P18.1 (U1): Store has N sectors of Data, no byte more or less.
func TestWrongData(t *testing.T) {
	s, w, content := laid(t, over("a"), 6)
	for _, n := range []int{0, 1, 2, 15, 16} {
		for _, length := range []int{64*n - 64, 64*n - 1, 64*n + 1, 64*n + 64, n} {
			if length >= 0 && length != 64*n {
				fails(t, s, w, api.Request{Cmd: api.Store, At: 1, N: n, Data: content[:length]}, api.ErrArg)
			}
		}
		after, _ := done(t, s, w, api.Request{Cmd: api.Store, At: 1, N: n, Data: sectors(n, 7)})
		holds(t, after, 0, 1, sectors(n, 7))
		sameBut(t, w, after, [3]int{0, 1, n})
	}
	done(t, s, w, api.Request{Cmd: api.Store, N: 0, Data: nil})
	done(t, s, w, api.Request{Cmd: api.Store, N: 0, Data: []byte{}})
}

// P18.1 (U1): requests of no sector write and read nothing, even where all is dead, and with 16 a request is as great as may be.
func TestHowMany(t *testing.T) {
	t.Parallel()
	for _, expr := range kinds {
		s, w, content := laid(t, over(expr), 7)
		size := len(content) / 64
		all := dead(w, 0, 1, 2, 3, 4)
		for _, cmd := range []api.Cmd{api.Read, api.Store, api.Trim, api.Zeroes} {
			for _, at := range []int{0, 1, size - 1, size} {
				r := api.Request{Cmd: cmd, At: at}
				if s.ReadOnly && cmd != api.Read {
					fails(t, s, all, r, api.ErrPerm)
					continue
				}
				if after, b := done(t, s, all, r); len(b) != 0 || differ(after, all) != "" {
					t.Errorf("%s: %v of no sector: %d bytes, %s", expr, cmd, len(b), differ(after, all))
				}
			}
			fails(t, s, w, api.Request{Cmd: cmd, At: 0, N: 17, Data: sectors(17, 1)}, api.ErrArg)
			fails(t, s, w, api.Request{Cmd: cmd, At: size, N: 1, Data: sectors(1, 1)}, api.ErrArg)
			fails(t, s, w, api.Request{Cmd: cmd, At: size - 15, N: 16, Data: sectors(16, 1)}, api.ErrArg)
			asMeant(t, s, w, api.Request{Cmd: cmd, At: size - 16, N: 16, Data: sectors(16, 1)})
			asMeant(t, s, w, api.Request{Cmd: cmd, At: 0, N: 16, Data: sectors(16, 1)})
			asMeant(t, s, w, api.Request{Cmd: cmd, At: size - 1, N: 1, Data: sectors(1, 1)})
		}
	}
}

// P18.1 (U1): all of a volume at once, where it has so few sectors.
func TestAll(t *testing.T) {
	const head = "device a 26; device b 40; journal j 256; key k $" + kHex + "; root r $" + rHex + "; volume v = "
	for _, expr := range []string{"linear(a, 0, 1)", "linear(a, 3, 16)", "mirror(linear(a, 0, 16), linear(b, 9, 16))", "crypt(linear(a, 5, 13), k)", "integrity(linear(a, 5, 20), k)", "integrity(linear(a, 0, 2), k)",
		"verity(linear(a, 0, 24), r)", "verity(linear(a, 0, 2), r)", "snapshot(linear(a, 2, 16), b, 16)", "snapshot(linear(a, 2, 1), linear(b, 0, 2), 1)", "concat(linear(a, 0, 9), linear(b, 0, 7))"} {
		s, w, content := laid(t, head+expr+"; export v;", 3)
		size := len(content) / 64
		told(t, s, w, 0, content)
		fails(t, s, w, read(0, size+1), api.ErrArg)
		fails(t, s, w, read(1, size), api.ErrArg)
		if s.ReadOnly {
			continue
		}
		after, _ := done(t, s, w, store(0, sectors(size, 4)))
		told(t, s, after, 0, sectors(size, 4))
		fails(t, s, w, store(0, sectors(size+1, 4)), api.ErrArg)
		after, _ = done(t, s, after, trim(0, size))
		told(t, s, after, 0, make([]byte, 64*size))
	}
}

// P18.1 (U1): what is read only by its export, or by its node, is read and flushed, and ErrArg is told ahead of ErrPerm.
func TestReadOnly(t *testing.T) {
	for _, text := range []string{
		over("verity(a, r)"),
		over("mirror(verity(a, r), linear(b, 0, 19))"),
		over("concat(verity(a, r), b)"),
		over("crypt(verity(a, r), k)"),
		ground + "export a readonly;",
		ground + "volume v = mirror(a, b); export v readonly;",
		ground + "volume v = snapshot(a, b, 2); export v readonly;",
		ground + "volume v = integrity(a, k); export v readonly;",
	} {
		s, w, content := laid(t, text, 8)
		told(t, s, w, 1, content[64:64*5])
		done(t, s, w, api.Request{Cmd: api.Flush})
		for _, cmd := range []api.Cmd{api.Store, api.Trim, api.Zeroes} {
			fails(t, s, w, api.Request{Cmd: cmd, At: 1, N: 2, Data: sectors(2, 1)}, api.ErrPerm)
			fails(t, s, w, api.Request{Cmd: cmd, At: 1, N: 0}, api.ErrPerm)
			fails(t, s, dead(w, 0, 1), api.Request{Cmd: cmd, At: 1, N: 1, Data: sectors(1, 1)}, api.ErrPerm)
			fails(t, s, w, api.Request{Cmd: cmd, At: 1, N: 17, Data: sectors(17, 1)}, api.ErrArg)
			fails(t, s, w, api.Request{Cmd: cmd, At: -1, N: 1, Data: sectors(1, 1)}, api.ErrArg)
			fails(t, s, w, api.Request{Cmd: cmd, At: math.MaxInt, N: 1, Data: sectors(1, 1)}, api.ErrArg)
		}
		fails(t, s, w, api.Request{Cmd: api.Store, At: 1, N: 1, Data: sectors(2, 1)}, api.ErrArg)
		fails(t, s, w, api.Request{Cmd: api.Disc}, api.ErrArg)
	}
	s, w, _ := laid(t, over("snapshot(verity(a, r), b, 2)"), 8)
	done(t, s, w, store(3, sectors(1, 1))) // its origin is, it is not
}

// P18.1 (U1): a step that is a Verity is not written, whoever asks, and what was written ahead of it is dropped.
func TestVerityWritten(t *testing.T) {
	s, w, _ := laid(t, over("verity(a, r)"), 9)
	s.ReadOnly = false
	fails(t, s, w, store(1, sectors(1, 1)), api.ErrPerm)
	fails(t, s, w, trim(0, 2), api.ErrPerm)
	done(t, s, w, trim(0, 0))
	for _, expr := range []string{"mirror(linear(b, 0, 19), verity(a, r))", "mirror(verity(a, r), linear(b, 0, 19))"} {
		s, w, _ = laid(t, over(expr), 9)
		s.ReadOnly = false
		fails(t, s, w, zeroes(1, 2), api.ErrPerm)
		fails(t, s, dead(w, 0), zeroes(1, 2), api.ErrPerm)
		fails(t, s, dead(w, 0, 1), zeroes(1, 2), api.ErrPerm)
	}
	s, w, _ = laid(t, over("concat(linear(b, 0, 5), verity(a, r))"), 9)
	s.ReadOnly = false
	done(t, s, w, store(1, sectors(4, 1)))
	fails(t, s, w, store(1, sectors(5, 1)), api.ErrPerm)
}

// P18.1 (U1): a mirror is read of its first leg that does not fail.
func TestMirrorRead(t *testing.T) {
	s := stackOf(t, over("mirror(a, b, c)"))
	w := noughts(s.Devices)
	var legs [3][]byte
	for dev := range legs { // unlike, so that it is seen which one was read
		legs[dev] = sectors(40, dev)
		lay(s, w, dev, 0, legs[dev])
	}
	sector := func(leg, i int) []byte { return legs[leg][64*i : 64*i+64] }
	told(t, s, w, 5, sector(0, 5))
	told(t, s, dead(w, 0), 5, sector(1, 5))
	told(t, s, dead(w, 1), 5, sector(0, 5))
	told(t, s, dead(w, 0, 1), 5, sector(2, 5))
	told(t, s, bad(w, 0, 5), 5, sector(1, 5))
	told(t, s, bad(dead(w, 1), 0, 5), 5, sector(2, 5))
	told(t, s, bad(dead(w, 0), 1, 5), 5, sector(2, 5))
	told(t, s, bad(w, 0, 5), 4, slices.Concat(sector(0, 4), sector(1, 5), sector(0, 6)))
	told(t, s, bad(bad(w, 0, 5, 6), 1, 6), 4, slices.Concat(sector(0, 4), sector(1, 5), sector(2, 6), sector(0, 7)))
	fails(t, s, dead(w, 0, 1, 2), read(5, 1), api.ErrIO)
	fails(t, s, bad(dead(w, 0, 1), 2, 5), read(5, 1), api.ErrIO)
	fails(t, s, bad(dead(w, 0, 1), 2, 5), read(4, 3), api.ErrIO)
	told(t, s, bad(dead(w, 0, 1), 2, 5), 6, sector(2, 6))
	fails(t, s, bad(bad(bad(w, 0, 5), 1, 5), 2, 5), read(5, 1), api.ErrIO)
}

// P18.1 (U1): a mirror's legs are all written, but for dead ones; bad sectors are bad no more.
func TestMirrorWritten(t *testing.T) {
	s, w, _ := laid(t, over("mirror(a, b, c)"), 1)
	data := sectors(3, 2)
	for _, gone := range [][]int{{}, {0}, {1}, {2}, {0, 1}, {0, 2}, {1, 2}} {
		before := bad(bad(dead(w, gone...), 0, 6), 2, 5, 6, 9)
		after, _ := done(t, s, before, store(5, data))
		told(t, s, after, 5, data)
		for dev := range 3 {
			if slices.Contains(gone, dev) {
				sameBut(t, before[dev:dev+1], after[dev:dev+1])
				continue
			}
			holds(t, after, dev, 5, data)
			sameBut(t, before[dev:dev+1], after[dev:dev+1], [3]int{0, 5, 3})
			if want := dev == 2; after[dev].Bad[5] || after[dev].Bad[6] || after[dev].Bad[9] != want {
				t.Errorf("device %d: bad sectors %v", dev, after[dev].Bad)
			}
		}
	}
	fails(t, s, dead(w, 0, 1, 2), store(5, data), api.ErrIO)
	fails(t, s, dead(w, 0, 1, 2), trim(0, 1), api.ErrIO)
}

// P18.1 (U1): a mirror within a mirror is dead if all its legs are: then it is passed over.
func TestMirrorOfMirrors(t *testing.T) {
	s, w, content := laid(t, over("mirror(mirror(a, b), mirror(c, d))"), 3)
	data := sectors(2, 4)
	for _, gone := range [][]int{{0, 1}, {2, 3}, {0, 2}, {1, 2, 3}, {0, 1, 3}} {
		before := dead(w, gone...)
		told(t, s, before, 7, content[64*7:64*9])
		after, _ := done(t, s, before, store(7, data))
		told(t, s, after, 7, data)
		for dev := range 4 {
			if !slices.Contains(gone, dev) {
				holds(t, after, dev, 7, data)
			}
		}
	}
	fails(t, s, dead(w, 0, 1, 2, 3), store(7, data), api.ErrIO)
	fails(t, s, dead(w, 0, 1, 2, 3), read(7, 1), api.ErrIO)
}

// P18.1 (U1): a leg that fails otherwise than by ErrDead when it is written makes the mirror fail, with that error, whatever the others do.
func TestMirrorLegFails(t *testing.T) {
	one := sectors(1, 5)
	for _, expr := range []string{"mirror(snapshot(linear(a, 0, 4), linear(b, 0, 3), 2), linear(c, 0, 4))", "mirror(linear(c, 0, 4), snapshot(linear(a, 0, 4), linear(b, 0, 3), 2))"} {
		s, w, _ := laid(t, over(expr), 1)
		after, _ := done(t, s, w, store(0, one))
		fails(t, s, after, store(3, one), api.ErrSpace)
		fails(t, s, after, store(1, sectors(2, 5)), api.ErrSpace)
		fails(t, s, dead(after, 2), store(3, one), api.ErrSpace)
		after, _ = done(t, s, after, store(1, one))
		told(t, s, after, 0, slices.Concat(one, one))
		fails(t, s, bad(w, 1, 0), store(0, one), api.ErrIO)
		// The origin's device is dead, and the chunk has no slot yet: ErrIO, though another one is there.
		fails(t, s, dead(w, 0), store(0, one), api.ErrIO)
		// The store's device is dead: then the leg is.
		after, _ = done(t, s, dead(w, 1), store(0, one))
		holds(t, after, 2, 0, one)
		told(t, s, after, 0, one)
		fails(t, s, dead(w, 1, 2), store(0, one), api.ErrIO)
	}
	s, w, _ := laid(t, over("mirror(integrity(a, k), linear(b, 0, 32))"), 1)
	fails(t, s, bad(w, 0, 33), store(4, one), api.ErrIO) // its tag's sector
	after, _ := done(t, s, dead(w, 0), store(4, one))
	told(t, s, after, 4, one)
}

// P18.1 (U1): the dead leg of a mirror is asked for, however deep it lies and whatever lies around it.
func TestDeadBelow(t *testing.T) {
	one := sectors(1, 6)
	for _, leg := range []string{
		"a",
		"linear(a, 4, 16)",
		"concat(linear(a, 0, 8), linear(a, 8, 8))",
		"crypt(a, k)",
		"integrity(a, k)",
		"mirror(linear(a, 0, 20), linear(a, 20, 20))",
		"linear(integrity(crypt(concat(linear(a, 0, 10), linear(a, 20, 20)), k), l), 2, 16)",
		"snapshot(b, a, 2)",
		"crypt(snapshot(b, linear(a, 0, 20), 2), k)",
		"integrity(mirror(linear(a, 0, 20), linear(a, 20, 20)), k)",
	} {
		alone := stackOf(t, over(leg))
		count := alone.Parts[alone.Export].Size
		for _, expr := range []string{
			fmt.Sprintf("mirror(%s, linear(e, 0, %d))", leg, count),
			fmt.Sprintf("mirror(linear(e, 0, %d), %s)", count, leg),
		} {
			s, w, content := laid(t, over(expr), 2)
			told(t, s, dead(w, 0), 9, content[64*9:64*12])
			after, _ := done(t, s, dead(w, 0), store(10, one))
			holds(t, after, 4, 10, one)
			copy(content[64*10:], one)
			told(t, s, after, 9, content[64*9:64*12])
			fails(t, s, dead(w, 0, 4), store(10, one), api.ErrIO)
			fails(t, s, dead(w, 0, 4), read(10, 1), api.ErrIO)
		}
	}
}

// P18.1 (U1): a snapshot's chunk is written for the first time, and again; the store's bytes are those that are written out here.
func TestSnapshotWritten(t *testing.T) {
	// 35 sectors in chunks of 2: 18 entries, a table of 2 sectors, then slots of 2 sectors. The last chunk has one sector only.
	s, w, content := laid(t, over("snapshot(linear(a, 1, 35), linear(b, 3, 37), 2)"), 1)
	old := func(i int) []byte { return content[64*i : 64*i+64] }
	none := make([]byte, 64)
	first, second, third, fourth := sectors(1, 10), sectors(1, 11), sectors(1, 12), sectors(1, 13)

	one, _ := done(t, s, w, store(9, first)) // the chunk 4: the first slot
	holds(t, one, 1, 3, number4(none, 4, 0, 0, 0, 1))
	holds(t, one, 1, 5, slices.Concat(old(8), first))
	sameBut(t, w, one, [3]int{1, 3, 1}, [3]int{1, 5, 2})
	told(t, s, one, 7, slices.Concat(old(7), old(8), first, old(10)))

	again, _ := done(t, s, one, store(8, second)) // no slot more
	holds(t, again, 1, 5, slices.Concat(second, first))
	sameBut(t, one, again, [3]int{1, 5, 1})

	last, _ := done(t, s, again, store(34, third)) // the chunk 17: field 1 of the table's second sector; only one sector of the slot is written
	holds(t, last, 1, 4, number4(none, 1, 0, 0, 0, 2))
	holds(t, last, 1, 7, third)
	sameBut(t, again, last, [3]int{1, 4, 1}, [3]int{1, 7, 1})
	told(t, s, last, 33, slices.Concat(old(33), third))

	both, _ := done(t, s, last, store(0, slices.Concat(fourth, first))) // the chunk 0, both sectors: the second one finds the slot
	holds(t, both, 1, 3, number4(number4(none, 4, 0, 0, 0, 1), 0, 0, 0, 0, 3))
	holds(t, both, 1, 9, slices.Concat(fourth, first))
	sameBut(t, last, both, [3]int{1, 3, 1}, [3]int{1, 9, 2})
	told(t, s, both, 0, slices.Concat(fourth, first, old(2)))

	across, _ := done(t, s, both, trim(11, 4)) // the chunks 5, 6, 7: the slots 4, 5, 6
	holds(t, across, 1, 3, number4(number4(number4(none, 0, 0, 0, 0, 3), 4, 0, 0, 0, 1), 5, 0, 0, 0, 4, 0, 0, 0, 5, 0, 0, 0, 6))
	holds(t, across, 1, 11, slices.Concat(old(10), none, none, none, none, old(15)))
	sameBut(t, both, across, [3]int{1, 3, 1}, [3]int{1, 11, 6})
	told(t, s, across, 10, slices.Concat(old(10), none, none, none, none, old(15)))
}

// P18.1 (U1): what of the last chunk the origin has not is not written, and its slot's other sectors stay as they are.
func TestSnapshotLastChunk(t *testing.T) {
	for size := 1; size <= 20; size++ {
		s, w, content := laid(t, over(fmt.Sprintf("snapshot(linear(a, 0, %d), b, 16)", size)), 2)
		w = copied(w)
		for i := 1; i < 40; i++ {
			w[1].Sectors[i] = sectors(1, 100+i)
		}
		after, _, _ := asMeant(t, s, w, store(size-1, sectors(1, 3)))
		count := (size-1)%16 + 1
		sameBut(t, w, after, [3]int{1, 0, 1 + count})
		first := size - count
		holds(t, after, 1, 1, slices.Concat(content[64*first:64*size-64], sectors(1, 3)))
	}
}

// P18.1 (U1): slots are taken in order, the first that no entry names, till none is left.
func TestSnapshotSlots(t *testing.T) {
	// 20 chunks of 2, a table of 2 sectors, 3 slots.
	s, w, _ := laid(t, over("snapshot(a, linear(b, 0, 9), 2)"), 3)
	one := sectors(1, 4)
	entry := func(w []api.Content, chunk int) byte { return w[1].Sectors[chunk/16][chunk%16*4+3] }
	after := w
	for n, at := range []int{30, 3, 39} {
		after, _ = done(t, s, after, store(at, one))
		if got := entry(after, at/2); got != byte(n+1) {
			t.Errorf("the chunk %d has the slot %d; want %d", at/2, got, n+1)
		}
	}
	fails(t, s, after, store(0, one), api.ErrSpace)
	fails(t, s, after, zeroes(37, 1), api.ErrSpace)
	fails(t, s, after, store(3, sectors(2, 4)), api.ErrSpace) // its first sector has a slot
	fails(t, s, w, zeroes(0, 8), api.ErrSpace)                // its fourth chunk has none
	done(t, s, w, zeroes(0, 6))
	done(t, s, after, store(2, sectors(2, 4)))

	// The first one that is free, wherever the others are named.
	for _, c := range []struct{ at, named []byte }{
		{[]byte{0}, []byte{1}}, {[]byte{5, 19}, []byte{2, 1}}, {[]byte{16}, []byte{2}}, {[]byte{1, 2}, []byte{3, 1}},
		{[]byte{1, 2, 3}, []byte{1, 1, 1}}, {[]byte{17, 18}, []byte{3, 2}}, {[]byte{0}, []byte{4}}, {[]byte{0}, []byte{255}},
	} {
		named := copied(w)
		for n, chunk := range c.at {
			named[1].Sectors[chunk/16][chunk%16*4+3] = c.named[n]
		}
		free := byte(1)
		for slices.Contains(c.named, free) {
			free++
		}
		after, _ := done(t, s, named, store(20, one))
		if got := entry(after, 10); got != free {
			t.Errorf("entries %v are %v: the slot is %d; want %d", c.at, c.named, got, free)
		}
	}

	// What is no number, or no slot's, names none; nor does what lies behind the entry of the last chunk.
	odd := copied(w)
	copy(odd[1].Sectors[0][4*3:], []byte{128, 0, 0, 1, 255, 255, 255, 255, 0, 1, 0, 1, 127, 255, 255, 255})
	for chunk := 20; chunk < 32; chunk++ {
		odd[1].Sectors[1][chunk%16*4+3] = byte(chunk%3 + 1)
	}
	after, _ = done(t, s, odd, store(20, one))
	if got := entry(after, 10); got != 1 {
		t.Errorf("beside entries that name no slot the slot is %d; want 1", got)
	}
}

// P18.1 (U1): a chunk's entry: 0, 1, the number of slots, one more, what is no number.
func TestSnapshotEntries(t *testing.T) {
	// 14 chunks of 3, a table of 1 sector, 4 slots; sector 13 of the store is never used.
	s, w, content := laid(t, over("snapshot(a, linear(b, 10, 14), 3)"), 5)
	w = copied(w)
	for i := 11; i < 40; i++ {
		w[1].Sectors[i] = sectors(1, 200+i)
	}
	none := make([]byte, 64)
	for _, c := range []struct {
		octets []byte
		first  int // where the chunk's sectors lie on b; 0: at the origin, -1: nowhere
	}{
		{[]byte{0, 0, 0, 0}, 0},
		{[]byte{0, 0, 0, 1}, 11},
		{[]byte{0, 0, 0, 2}, 14},
		{[]byte{0, 0, 0, 4}, 20},
		{[]byte{0, 0, 0, 5}, -1},
		{[]byte{0, 0, 0, 255}, -1},
		{[]byte{0, 0, 1, 0}, -1},
		{[]byte{0, 1, 0, 1}, -1},
		{[]byte{1, 0, 0, 0}, -1},
		{[]byte{127, 255, 255, 255}, -1},
		{[]byte{128, 0, 0, 0}, -1},
		{[]byte{128, 0, 0, 1}, -1},
		{[]byte{255, 255, 255, 255}, -1},
	} {
		for _, chunk := range []int{0, 7, 12} {
			named := with(w, 1, 10, number4(none, chunk, c.octets...))
			at := 3 * chunk
			for i := range 3 {
				switch c.first {
				case -1:
					fails(t, s, named, read(at+i, 1), api.ErrIO)
					fails(t, s, named, store(at+i, sectors(1, 9)), api.ErrIO)
					fails(t, s, named, trim(at+i, 1), api.ErrIO)
				case 0:
					told(t, s, named, at+i, content[64*(at+i):64*(at+i)+64])
					asMeant(t, s, named, store(at+i, sectors(1, 9)))
				default:
					told(t, s, named, at+i, named[1].Sectors[c.first+i])
					after, _ := done(t, s, named, store(at+i, sectors(1, 9)))
					holds(t, after, 1, c.first+i, sectors(1, 9))
					sameBut(t, named, after, [3]int{1, c.first + i, 1})
				}
			}
			told(t, s, named, 39, content[64*39:])
		}
	}
}

// P18.1 (U1): what fails while a chunk is written for the first time.
func TestSnapshotFirstFails(t *testing.T) {
	// The origin lies on a and c, 10 sectors each; the store's table of 2 sectors on b and d, its slots on d and e.
	s, w, _ := laid(t, over("snapshot(concat(linear(a, 0, 10), linear(c, 0, 10)), concat(linear(b, 0, 1), linear(d, 0, 3), linear(e, 0, 30)), 1)"), 6)
	one := sectors(1, 7)
	done(t, s, w, store(5, one))
	fails(t, s, bad(w, 1, 0), store(5, one), api.ErrIO)
	fails(t, s, dead(w, 1), store(5, one), api.ErrIO)
	// The table's other sector is read too.
	fails(t, s, bad(w, 3, 0), store(5, one), api.ErrIO)
	fails(t, s, dead(w, 3), store(5, one), api.ErrIO)
	fails(t, s, bad(w, 1, 0), store(18, one), api.ErrIO)
	// With chunks of one sector nothing of the origin is.
	after, _ := done(t, s, dead(w, 0), store(5, one))
	told(t, s, after, 5, one)
	fails(t, s, after, read(6, 1), api.ErrIO)
	// A slot's sector that is bad is bad no more.
	after, _ = done(t, s, bad(w, 3, 1), store(5, one))
	told(t, s, after, 5, one)
	if after[3].Bad[1] {
		t.Error("what was written is bad")
	}

	// Chunks of 4: those of the chunk are read of the origin, but for the one that is written.
	s, w, content := laid(t, over("snapshot(a, b, 4)"), 6)
	after, _ = done(t, s, bad(w, 0, 6), store(6, one))
	told(t, s, after, 4, slices.Concat(content[64*4:64*6], one, content[64*7:64*8]))
	for _, i := range []int{4, 5, 7} {
		fails(t, s, bad(w, 0, i), store(6, one), api.ErrIO)
	}
	done(t, s, bad(w, 0, 3, 8), store(6, one))
	fails(t, s, dead(w, 0), store(6, one), api.ErrIO)
	// Once the chunk has its slot the origin is not asked any more.
	told(t, s, dead(after, 0), 4, slices.Concat(content[64*4:64*6], one, content[64*7:64*8]))
	done(t, s, dead(after, 0), store(4, sectors(4, 8)))
	// All four at once: the first of them asks for the others.
	fails(t, s, bad(w, 0, 7), store(4, sectors(4, 8)), api.ErrIO)
	done(t, s, bad(w, 0, 4), store(4, sectors(4, 8)))
	// No slot is asked for ahead of the table, and ErrSpace is told ahead of the origin.
	s, w, _ = laid(t, over("snapshot(a, linear(b, 0, 5), 4)"), 6)
	w, _ = done(t, s, w, store(0, one))
	fails(t, s, bad(w, 0, 5, 7), store(6, one), api.ErrSpace)
	fails(t, s, dead(w, 0), store(6, one), api.ErrSpace)
	fails(t, s, bad(w, 1, 0), store(6, one), api.ErrIO)
}

// P18.1 (U1): a store that is a snapshot itself has no slot left: that is told as it is, in a first write and in a further one.
func TestSnapshotOfSnapshotSpace(t *testing.T) {
	// The inner one has 20 sectors in chunks of 1: a table of 2 sectors, and 6 slots.
	s, w, _ := laid(t, over("snapshot(linear(a, 0, 10), snapshot(linear(b, 0, 20), linear(c, 0, 8), 1), 1)"), 7)
	w, _ = done(t, s, w, zeroes(0, 5)) // a slot, the table, 4 slots more: 6 of the inner slots, of which the table has the second one
	fails(t, s, w, store(7, sectors(1, 1)), api.ErrSpace)
	done(t, s, w, store(3, sectors(1, 1)))
	// By hand: the outer entry names a slot that the inner one has not copied.
	named := with(w, 2, 3, number4(w[2].Sectors[3], 9, 0, 0, 0, 9))
	told(t, s, named, 9, w[1].Sectors[9])
	fails(t, s, named, store(9, sectors(1, 1)), api.ErrSpace)
}

// P18.1 (U1): a crypt's sectors on its kid, against such as are made by hand; their numbers are those in the crypt.
func TestCryptByHand(t *testing.T) {
	s := stackOf(t, over("crypt(linear(a, 7, 30), k)"))
	key := s.Parts[s.Export].Key
	data := sectors(16, 1)
	w, _ := done(t, s, noughts(s.Devices), store(5, data))
	for i := range 16 {
		holds(t, w, 0, 12+i, crypted(key, 5+i, data[64*i:64*i+64], true))
	}
	sameBut(t, noughts(s.Devices), w, [3]int{0, 12, 16})
	w = with(noughts(s.Devices), 0, 7, crypted(key, 0, data[:64], true))
	told(t, s, w, 0, data[:64])
	w = with(w, 0, 8, crypted(key, 0, data[:64], true))
	if _, b := done(t, s, w, read(1, 1)); bytes.Equal(b, data[:64]) {
		t.Error("the sector's number is not looked at")
	}
	told(t, s, w, 2, crypted(key, 2, make([]byte, 64), false))
}

// P18.1 (U1): an integrity's sectors and tags on its kid, against such as are made by hand.
func TestIntegrityByHand(t *testing.T) {
	// 30 sectors: 24 of data, 6 of tags.
	s := stackOf(t, over("integrity(linear(a, 5, 30), k)"))
	key := s.Parts[s.Export].Key
	data := sectors(24, 1)
	w := noughts(s.Devices)
	for at := range 24 {
		fails(t, s, w, read(at, 1), api.ErrIO)
	}
	w, _ = done(t, s, w, store(0, data[:64*16]))
	fails(t, s, w, read(15, 2), api.ErrIO)
	w, _ = done(t, s, w, store(16, data[64*16:]))
	holds(t, w, 0, 5, data)
	holds(t, w, 0, 29, tagsOf(key, data))
	sameBut(t, noughts(s.Devices), w, [3]int{0, 5, 30})
	told(t, s, w, 8, data[64*8:])

	after, _ := done(t, s, w, store(6, data[:64])) // one tag of four becomes another one
	tags := tagsOf(key, data)
	copy(tags[16*6:], tagged(key, 6, data[:64]))
	holds(t, after, 0, 29, tags)
	sameBut(t, w, after, [3]int{0, 11, 1}, [3]int{0, 30, 1})
}

// P18.1 (U1): in which order an integrity reads and writes is seen by a mirror above it, which passes over what is dead first.
func TestIntegrityOrder(t *testing.T) {
	// Data on a, tags on b.
	one := sectors(1, 1)
	s, w, _ := laid(t, over("mirror(integrity(concat(linear(a, 0, 8), linear(b, 0, 2)), k), linear(c, 0, 8))"), 2)
	done(t, s, dead(w, 0), store(1, one))
	fails(t, s, bad(w, 1, 0), store(1, one), api.ErrIO)
	fails(t, s, bad(dead(w, 0), 1, 0), store(1, one), api.ErrIO) // the tag's sector is read ahead of all
	done(t, s, bad(dead(w, 0), 1, 1), store(1, one))
	// The outer one's tags are the inner one's data: read ahead of the inner one's tags.
	s, w, _ = laid(t, over("mirror(integrity(integrity(concat(linear(a, 0, 8), linear(b, 0, 2)), k), l), linear(c, 0, 6))"), 2)
	fails(t, s, bad(w, 1, 1), store(1, one), api.ErrIO)
	done(t, s, bad(dead(w, 0), 1, 1), store(1, one))
	fails(t, s, bad(dead(w, 1), 0, 6), store(1, one), api.ErrIO)
}

// P18.1 (U1), T3: tags that do not fit are refused: each byte of a sector or of its tag turned, and others' in their places.
func TestTagsRefused(t *testing.T) {
	s, w, content := laid(t, over("integrity(a, k)"), 2)
	for octet := range 64 {
		turnedData := turned(w, 0, 6, octet)
		fails(t, s, turnedData, read(6, 1), api.ErrIO)
		fails(t, s, turnedData, read(5, 3), api.ErrIO)
		told(t, s, turnedData, 7, content[64*7:64*8])
		turnedTag := turned(w, 0, 33, octet)
		for i := 4; i < 8; i++ {
			if octet/16 == i%4 {
				fails(t, s, turnedTag, read(i, 1), api.ErrIO)
			} else {
				told(t, s, turnedTag, i, content[64*i:64*i+64])
			}
		}
		after, _ := done(t, s, turnedData, store(6, sectors(1, 3))) // what is written is right again
		told(t, s, after, 6, sectors(1, 3))
	}
	// A sector in another one's place, with its tag and without.
	moved := with(w, 0, 6, w[0].Sectors[7])
	fails(t, s, moved, read(6, 1), api.ErrIO)
	tags := bytes.Clone(w[0].Sectors[33])
	copy(tags[32:48], tags[48:64])
	fails(t, s, with(moved, 0, 33, tags), read(6, 1), api.ErrIO)
	fails(t, s, with(w, 0, 33, w[0].Sectors[32]), read(4, 1), api.ErrIO)
	fails(t, s, with(w, 0, 33, make([]byte, 64)), read(4, 1), api.ErrIO)
	// Another key's tag.
	other := stackOf(t, over("integrity(a, l)"))
	fails(t, other, w, read(6, 1), api.ErrIO)
	// One of old.
	after, _ := done(t, s, w, store(6, sectors(1, 4)))
	fails(t, s, with(after, 0, 6, w[0].Sectors[6]), read(6, 1), api.ErrIO)
	fails(t, s, with(after, 0, 33, w[0].Sectors[33]), read(6, 1), api.ErrIO)
	told(t, s, with(with(after, 0, 33, w[0].Sectors[33]), 0, 6, w[0].Sectors[6]), 6, content[64*6:64*7])
}

// P18.1 (U1): a tree that is made by hand; each byte of it that shows a sector is looked at, and those of others are not.
func TestVerityByHand(t *testing.T) {
	for _, size := range []int{2, 3, 5, 10, 21, 40} {
		s, w, content := laid(t, over(fmt.Sprintf("verity(linear(a, %d, %d), r)", 40-size, size)), size)
		n := len(content) / 64
		tree, root := planted(content)
		if !bytes.Equal(s.Parts[s.Export].Root, root) {
			t.Fatalf("root %x; want %x", s.Parts[s.Export].Root, root)
		}
		holds(t, w, 0, 40-size, slices.Concat(content, tree))
		for at := range n {
			told(t, s, w, at, content[64*at:64*at+64])
		}
		// Which sectors are asked for is seen by what goes bad.
		for i := 40 - size; i < 40; i++ {
			for at := range n {
				_, _, e := asMeant(t, s, bad(w, 0, i), read(at, 1))
				asked := i == 40-size+at
				level, place := 40-size+n, at
				for count := n; (count > 1 || level == 40-size+n) && !asked; {
					place /= 2
					asked = i == level+place
					count = (count + 1) / 2
					level += count
				}
				if want := map[bool]api.Errno{true: api.ErrIO, false: api.OK}[asked]; e != want {
					t.Errorf("of %d, with %d bad, sector %d: %v; want %v", n, i, at, e, want)
				}
				asMeant(t, s, bad(w, 0, i), read(at, 1))
			}
		}
	}
}

// P18.1 (U1), T3: however its sectors are changed, it tells those under its root, or fails.
func TestVerityTells(t *testing.T) {
	s, w, content := laid(t, over("verity(linear(a, 0, 23), r)"), 1)
	n := len(content) / 64
	tellsOrFails := func(w []api.Content) (failed int) {
		t.Helper()
		for at := range n {
			_, b, e := asMeant(t, s, w, read(at, 1))
			if e == api.ErrIO && len(b) == 0 {
				failed++
			} else if e != api.OK || !bytes.Equal(b, content[64*at:64*at+64]) {
				t.Fatalf("sector %d: %x, %v", at, b, e)
			}
		}
		return failed
	}
	if failed := tellsOrFails(w); failed != 0 {
		t.Errorf("untouched: %d sectors fail", failed)
	}
	for i := range 23 {
		for octet := i % 7; octet < 64; octet += 7 {
			failed := tellsOrFails(turned(w, 0, i, octet))
			if i < n && failed != 1 {
				t.Errorf("a byte of data sector %d is turned: %d sectors fail", i, failed)
			}
			if i == 22 && octet < 32 && failed != n {
				t.Errorf("a byte below the root is turned: %d of %d sectors fail", failed, n)
			}
		}
	}
	// A whole tree of other data.
	other := slices.Concat(sectors(1, 2), content[64:])
	tree, root := planted(other)
	forged := copied(w)
	for i, b := range slices.Collect(slices.Chunk(slices.Concat(other, tree), 64)) {
		forged[0].Sectors[i] = b
	}
	if failed := tellsOrFails(forged); failed != n {
		t.Errorf("under another root: %d of %d sectors fail", failed, n)
	}
	s.Parts = slices.Clone(s.Parts)
	s.Parts[s.Export].Root = root
	told(t, s, forged, 0, other[:64])
	fails(t, s, w, read(1, 1), api.ErrIO)
	s.Parts[s.Export].Root = root[:31]
	fails(t, s, forged, read(0, 1), api.ErrIO)
}

// P18.1 (U1): what fails, in each kind of node, ahead of the request's first sector and in its midst.
func TestFailures(t *testing.T) {
	t.Parallel()
	for n, expr := range kinds {
		s, w, content := laid(t, over(expr), 3)
		size := len(content) / 64
		for dev := range 4 {
			for _, r := range []api.Request{read(size-16, 16), store(1, sectors(15, 1)), trim(size-9, 9)} {
				asMeant(t, s, dead(w, dev), r)
				for i := (n + dev) % 7; i < 40; i += 7 {
					asMeant(t, s, bad(w, dev, i), r)
				}
				asMeant(t, s, bad(dead(w, dev), (dev+1)%5, 0, 1, 2, 3, 4, 5, 6), r)
			}
		}
		all := dead(w, 0, 1, 2, 3, 4)
		fails(t, s, all, read(0, 1), api.ErrIO)
		fails(t, s, all, read(3, 7), api.ErrIO)
		if !s.ReadOnly {
			fails(t, s, all, store(2, sectors(3, 1)), api.ErrIO)
			fails(t, s, all, trim(2, 1), api.ErrIO)
			fails(t, s, all, zeroes(2, 16), api.ErrIO)
		}
	}
}

// P18.1 (U1): a concat whose second kid is dead: what lies in the first one is neither told nor written.
func TestFailsMidway(t *testing.T) {
	s, w, content := laid(t, over("concat(linear(a, 0, 10), b)"), 4)
	gone := dead(w, 1)
	told(t, s, gone, 0, content[:64*10])
	done(t, s, gone, store(2, sectors(8, 1)))
	fails(t, s, gone, read(2, 9), api.ErrIO)
	fails(t, s, gone, store(2, sectors(9, 1)), api.ErrIO)
	fails(t, s, gone, trim(9, 2), api.ErrIO)
	fails(t, s, gone, zeroes(10, 1), api.ErrIO)
	fails(t, s, dead(w, 0), store(9, sectors(2, 1)), api.ErrIO)
	spoilt := bad(w, 1, 1)
	fails(t, s, spoilt, read(8, 8), api.ErrIO)
	told(t, s, spoilt, 8, content[64*8:64*11])
	after, _ := done(t, s, spoilt, store(8, sectors(8, 1))) // a sector that is written is bad no more
	told(t, s, after, 8, sectors(8, 1))
	fails(t, s, dead(spoilt, 1), read(11, 1), api.ErrIO)
}

// P18.1 (U1): a bad sector is bad no more when it was written, and still is when the request failed, in each kind of node.
func TestBadHeals(t *testing.T) {
	t.Parallel()
	for n, expr := range kinds {
		s, w, _ := laid(t, over(expr), 5)
		if s.ReadOnly {
			continue
		}
		for dev := range 4 {
			for i := (n + dev) % 7; i < 40; i += 7 {
				after, _, e := asMeant(t, s, bad(w, dev, i), store(1, sectors(14, 2)))
				if e == api.OK {
					told(t, s, after, 1, sectors(14, 2))
				} else if !after[dev].Bad[i] {
					t.Errorf("%s: with %v the sector %d of device %d is bad no more", expr, e, i, dev)
				}
			}
		}
	}
}

// legs is an expr of mirrors of mirrors with so many legs in all, each of so many sectors of one device.
func legs(device string, count, size int) string {
	var leaves []string
	for i := range count {
		leaves = append(leaves, fmt.Sprintf("linear(%s,%d,%d)", device, size*i, size))
	}
	for len(leaves) > 1 {
		var above []string
		for group := range slices.Chunk(leaves, 4) {
			if len(group) == 1 {
				above = append(above, group[0])
				continue
			}
			above = append(above, "mirror("+strings.Join(group, ",")+")")
		}
		leaves = above
	}
	return leaves[0]
}

// P18.1 (U1): a request writes 200 sectors of devices, and no more, each counted once.
func TestMaxGroup(t *testing.T) {
	head := "device a 400; device b 40; device c 40; journal j 256; key k $" + kHex + "; volume m = "
	text := func(count, size int, expr string) string {
		return head + legs("a", count, size) + "; volume v = " + expr + "; export v;"
	}
	ask := func(text string, r api.Request, want api.Errno) {
		t.Helper()
		s, w, _ := laid(t, text, 1)
		if _, _, e := asMeant(t, s, w, r); e != want {
			t.Errorf("%q: %v of %d: %v; want %v", text, r.Cmd, r.N, e, want)
		}
		if want != api.OK {
			fails(t, s, w, r, want)
		}
	}
	plain := text(20, 10, "concat(m, b)")
	ask(plain, store(0, sectors(10, 1)), api.OK)    // 200
	ask(plain, store(0, sectors(11, 1)), api.ErrIO) // 201
	ask(plain, trim(0, 11), api.ErrIO)              // 201
	ask(plain, zeroes(0, 11), api.ErrIO)            // 201
	ask(plain, store(1, sectors(16, 1)), api.OK)    // 187
	ask(plain, read(0, 16), api.OK)                 // what is read is not counted
	ask(text(20, 10, "concat(b, m)"), store(39, sectors(10, 1)), api.OK)
	ask(text(20, 10, "concat(b, m)"), store(39, sectors(11, 1)), api.ErrIO)
	ask(text(16, 12, "concat(m, mirror(b, c))"), store(0, sectors(16, 1)), api.OK)               // 192 and 8
	ask(text(16, 12, "concat(b, m)"), store(36, sectors(16, 1)), api.OK)                         // 4 and 192
	ask(text(25, 8, "m"), store(0, sectors(8, 1)), api.OK)                                       // 200
	ask(text(25, 8, "concat(m, b)"), store(0, sectors(9, 1)), api.ErrIO)                         // 201
	ask(text(15, 13, "concat(m, integrity(b, k))"), store(0, sectors(16, 1)), api.OK)            // 195, 3, and a tag's sector, which is written thrice
	ask(text(15, 13, "concat(m, linear(integrity(b,k),2,9))"), store(0, sectors(16, 1)), api.OK) // 195, 3 and 2: 200
	ask(text(14, 14, "concat(m, snapshot(b, c, 2))"), store(0, sectors(16, 1)), api.OK)          // 196, 2 and 1
	ask(text(14, 14, "concat(m, snapshot(b, c, 3))"), store(0, sectors(16, 1)), api.OK)          // 196, 3 and 1: 200
	ask(text(14, 14, "concat(m, snapshot(b, c, 4))"), store(0, sectors(16, 1)), api.ErrIO)       // 196, 4 and 1: 201
	ask(text(13, 16, "m"), store(0, sectors(15, 1)), api.OK)                                     // 195
	ask(text(13, 16, "m"), store(0, sectors(16, 1)), api.ErrIO)                                  // 208
	// A sector's own failure is named ahead of it.
	full := text(20, 10, "concat(m, linear(b, 0, 1), snapshot(linear(c, 0, 10), linear(c, 10, 2), 1))")
	ask(full, store(0, sectors(12, 1)), api.ErrIO)
	ask(full, store(0, sectors(13, 1)), api.ErrSpace)
}

// P18.1 (U1): what one request has done another one finds, whatever failed in between.
func TestAllOrNothing(t *testing.T) {
	s, w, content := laid(t, over("concat(snapshot(linear(a, 0, 8), linear(b, 0, 5), 2), integrity(c, k))"), 6)
	before := w
	for range 3 {
		fails(t, s, w, store(0, sectors(6, 1)), api.ErrSpace)          // two chunks would have slots
		fails(t, s, dead(w, 2), store(7, sectors(2, 1)), api.ErrIO)    // one would
		fails(t, s, bad(w, 2, 32), store(6, sectors(4, 1)), api.ErrIO) // its tag's sector
	}
	told(t, s, w, 0, content[:64*16])
	w, _ = done(t, s, w, store(2, sectors(4, 1)))
	fails(t, s, w, store(0, sectors(1, 1)), api.ErrSpace)
	told(t, s, w, 0, slices.Concat(content[:64*2], sectors(4, 1), content[64*6:64*10]))
	told(t, s, before, 0, content[:64*16])
}

// copied is a world in memory of its own.
func copied(w []api.Content) []api.Content {
	w = listed(w)
	for dev := range w {
		for i, b := range w[dev].Sectors {
			w[dev].Sectors[i] = bytes.Clone(b)
		}
	}
	return w
}

// disk and those below make steps of plans that are right.
func disk(dev, size int) api.Step { return api.Step{Kind: api.Disk, Size: size, Dev: dev} }

// joined is a Concat of parts: a kid, its first sector, how many.
func joined(parts ...[3]int) api.Step {
	s := api.Step{Kind: api.Concat}
	for _, p := range parts {
		s.Extents = append(s.Extents, api.Extent{From: s.Size, Count: p[2], Kid: p[0], First: p[1]})
		s.Size += p[2]
	}
	return s
}

func mirror(size int, kids ...int) api.Step {
	return api.Step{Kind: api.Mirror, Size: size, Kids: kids}
}

func snapshot(chunk, size, origin, store, storeSize int) api.Step {
	table, slots := area.Store(storeSize, size, chunk)
	return api.Step{Kind: api.Snapshot, Size: size, Kids: []int{origin, store}, Chunk: chunk, Table: table, Slots: slots}
}

func crypt(size, kid int) api.Step {
	return api.Step{Kind: api.Crypt, Size: size, Kids: []int{kid}, Key: keyBytes()}
}

func integrity(kid, kidSize int) api.Step {
	size, _ := area.Integrity(kidSize)
	return api.Step{Kind: api.Integrity, Size: size, Kids: []int{kid}, Key: keyBytes()}
}

func verity(kid, kidSize int, root []byte) api.Step {
	size, _ := area.Verity(kidSize)
	return api.Step{Kind: api.Verity, Size: size, Kids: []int{kid}, Root: root}
}

func keyBytes() []byte {
	b := make([]byte, 32)
	for i := range b {
		b[i] = byte(7*i + 1)
	}
	return b
}

// steps is a plan of these steps, the last of which is its Root.
func steps(t *testing.T, devices []int, l ...api.Step) api.Plan {
	t.Helper()
	p := api.Plan{Steps: l, Root: len(l) - 1}
	if !plan.Right(p, devices) {
		t.Fatalf("not right: %v", p)
	}
	return p
}

// P18.1 (U1): of a Concat of very many extents the right one is found, at each end of each.
func TestManyExtents(t *testing.T) {
	t.Parallel()
	for _, most := range []int{1, 2, 9} {
		r := rand.New(rand.NewSource(int64(most)))
		var parts [][3]int
		var lies [][2]int
		for range 1000 {
			count := min(1+r.Intn(most), 8)
			dev, first := r.Intn(3), r.Intn(2048-8)
			parts = append(parts, [3]int{dev, first, count})
			for i := range count {
				lies = append(lies, [2]int{dev, first + i})
			}
		}
		devices := []int{2048, 2048, 2048}
		x := on(t, steps(t, devices, disk(0, 2048), disk(1, 2048), disk(2, 2048), joined(parts...)), devices...)
		for dev, d := range x.disks {
			for i := range 2048 {
				d.Tamper(i, number4(make([]byte, 64), dev, byte(i>>8), byte(i)))
			}
		}
		for at, l := range lies {
			b, e := Run(x.plan, x.c, read(at, 1))
			if want, _ := x.disks[l[0]].Read(l[1]); e != api.OK || !bytes.Equal(b, want) {
				t.Fatalf("sector %d: %x, %v; want %x", at, b, e, want)
			}
			one := sectors(1, at)
			if _, e := Run(x.plan, x.c, store(at, one)); e != api.OK {
				t.Fatalf("sector %d: %v", at, e)
			}
			x.has(t, "one of an extent", api.Write{Dev: l[0], Sector: l[1], Data: one})
		}
		x.run(t, read(len(lies)-16, 16), api.OK)
		x.run(t, store(len(lies)-16, sectors(16, 1)), api.OK)
		x.run(t, read(len(lies)-15, 16), api.ErrArg)
	}
}

// P18.1 (U1): a sector of a device that several sectors of a volume lie on is written once, with what was written last.
func TestOneSectorTwice(t *testing.T) {
	one, two, three := sectors(1, 1), sectors(1, 2), sectors(1, 3)
	devices := []int{4}
	p := steps(t, devices, disk(0, 4), joined([3]int{0, 1, 2}, [3]int{0, 0, 4}))
	for _, p := range []api.Plan{p, opt.Optimize(p)} {
		x := on(t, p, devices...)
		x.run(t, store(0, slices.Concat(one, two, three, one)), api.OK)
		x.has(t, "written twice", api.Write{Sector: 1, Data: one}, api.Write{Sector: 2, Data: two}, api.Write{Sector: 0, Data: three})
		x.run(t, store(1, slices.Concat(one, two, three, one)), api.OK)
		x.has(t, "written twice", api.Write{Sector: 2, Data: one}, api.Write{Sector: 0, Data: two}, api.Write{Sector: 1, Data: three})
		x.c.Keep()
		if b := x.run(t, read(0, 6), api.OK); !bytes.Equal(b, slices.Concat(three, one, two, three, one, make([]byte, 64))) {
			t.Errorf("read: %x", b)
		}
	}
	// A mirror of a step with itself, and of steps that lie on one another: what the last leg wrote stays.
	p = steps(t, devices, disk(0, 4), crypt(4, 0), mirror(4, 0, 0, 1))
	x := on(t, p, devices...)
	x.run(t, store(3, one), api.OK)
	x.has(t, "three legs", api.Write{Sector: 3, Data: crypted(keyBytes(), 3, one, true)})
}

// P18.1 (U1): a device that the cache has twice is one: what is written under one number is read under the other, and counted once.
func TestDeviceTwice(t *testing.T) {
	d, _ := device.New(40)
	other, _ := device.New(40)
	disks := []*device.Device{d, other, d}
	c, _ := cache.New(disks)
	devices := []int{40, 40, 40}
	one := sectors(1, 1)
	for n, p := range []api.Plan{
		steps(t, devices, disk(0, 40), disk(2, 40), mirror(40, 0, 1)),
		steps(t, devices, disk(0, 40), disk(2, 40), crypt(40, 1), mirror(40, 0, 2)),
		steps(t, devices, disk(0, 40), disk(2, 40), disk(1, 40), crypt(40, 1), mirror(40, 0, 2, 3)),
		steps(t, devices, disk(0, 40), disk(2, 40), snapshot(2, 40, 0, 1, 40)),
	} {
		x := &ran{plan: p, disks: disks, c: c}
		for at := range 38 {
			x.run(t, store(at, slices.Concat(one, sectors(1, at))), x.wanted(store(at, slices.Concat(one, sectors(1, at)))))
			x.run(t, read(at, 2), x.wanted(read(at, 2)))
			if at%5 == n {
				x.c.Keep()
			}
			if at%11 == n {
				x.c.Apply()
			}
		}
		x.c.Back()
		x.run(t, store(1, sectors(16, n)), x.wanted(store(1, sectors(16, n))))
	}
	// 104 sectors of one device, written under two numbers, are 104.
	big, _ := device.New(2048)
	disks = []*device.Device{big, big}
	var parts [][3]int
	for k := range 4 {
		parts = append(parts, [3]int{0, 100 * k, 100})
	}
	l := []api.Step{disk(0, 2048), disk(1, 2048)}
	for k := range 8 {
		l = append(l, joined([3]int{k % 2, 100 * (k / 2), 100}))
	}
	l = append(l, mirror(100, 2, 3, 4, 5), mirror(100, 6, 7, 8, 9), mirror(100, 10, 11))
	p := steps(t, []int{2048, 2048}, l...)
	x := &ran{plan: p, disks: disks}
	x.c, _ = cache.New(disks)
	x.run(t, store(0, sectors(16, 1)), api.OK)
	if n := len(x.c.Group()); n != 16*len(parts) {
		t.Errorf("%d writes", n)
	}
}

// wanted is the error that is meant.
func (x *ran) wanted(r api.Request) api.Errno {
	m := &meant{plan: x.plan, world: x.world(), same: x.first, left: enough}
	_, _, e := m.do(r)
	return e
}

// chain is a plan of a disk and steps on it, each made of the one below it.
func chain(t *testing.T, devices []int, first []api.Step, count int, next func(kid int) api.Step) api.Plan {
	t.Helper()
	l := slices.Clone(first)
	for range count {
		l = append(l, next(len(l)-1))
	}
	return steps(t, devices, l...)
}

// P18.1 (U1), P1: plans of as many steps as may be, each on the one below it, or on it twice and more: they are run in good time.
func TestDeep(t *testing.T) {
	t.Parallel()
	devices := []int{20, 20}
	ground := []api.Step{disk(1, 20), disk(0, 20)}
	for _, c := range []struct {
		name string
		next func(kid int) api.Step
	}{
		{"in one piece", func(kid int) api.Step { return joined([3]int{kid, 0, 20}) }},
		{"turned round", func(kid int) api.Step { return joined([3]int{kid, 1, 19}, [3]int{kid, 0, 1}) }},
		{"alone", func(kid int) api.Step { return mirror(20, kid) }},
		{"doubled", func(kid int) api.Step { return mirror(20, kid, kid) }},
		{"four times", func(kid int) api.Step { return mirror(20, kid, kid, kid, kid) }},
		{"with the one below", func(kid int) api.Step { return mirror(20, kid, kid-1) }},
		{"with the other disk", func(kid int) api.Step { return mirror(20, 0, kid, kid) }},
	} {
		p := chain(t, devices, ground, 998, c.next)
		for _, p := range []api.Plan{p, opt.Optimize(p)} {
			x := on(t, p, devices...)
			x.quick(t, c.name, store(5, sectors(10, 1)), api.OK)
			x.c.Keep()
			if b := x.quick(t, c.name, read(5, 10), api.OK); !bytes.Equal(b, sectors(10, 1)) {
				t.Errorf("%s: %x", c.name, b)
			}
			x.quick(t, c.name, trim(7, 3), api.OK)
			for i := range 20 {
				x.disks[0].Spoil(i)
				x.disks[1].Spoil(i)
			}
			x.quick(t, c.name, read(2, 2), api.ErrIO)
			x.quick(t, c.name, store(2, sectors(1, 1)), api.OK)
			x.disks[1].Kill()
			x.disks[0].Kill()
			x.quick(t, c.name, read(9, 2), api.ErrIO)
			x.quick(t, c.name, zeroes(9, 2), api.ErrIO)
		}
	}
	// Each sealed by the one above it, and with a leg that is not.
	p := chain(t, devices, ground, 300, func(kid int) api.Step { return crypt(20, kid) })
	x := on(t, p, devices...)
	x.quick(t, "crypts", store(5, sectors(2, 1)), api.OK)
	x.c.Keep()
	if b := x.quick(t, "crypts", read(5, 2), api.OK); !bytes.Equal(b, sectors(2, 1)) {
		t.Errorf("crypts: %x", b)
	}
}

// quick runs a request where what is meant cannot be reckoned sector by sector.
func (x *ran) quick(t *testing.T, what string, r api.Request, want api.Errno) []byte {
	t.Helper()
	b, e := Run(x.plan, x.c, r)
	if e != want || (e != api.OK && len(b)+len(x.c.Group()) != 0) {
		t.Fatalf("%s: %v of %d from %d on: %d bytes, %v, %d writes; want %v", what, r.Cmd, r.N, r.At, len(b), e, len(x.c.Group()), want)
	}
	return b
}

// P18.1 (U1), T3: trees of hashes over trees of hashes, and tags over tags, are read in good time, though each asks for several sectors of the next.
func TestDeepSecrets(t *testing.T) {
	t.Parallel()
	nested := func(word, name string, depths ...int) string {
		text := "device a 2048; device b 2048; journal j 256; key k $" + kHex + "; root r $" + rHex + "; volume v0 = concat(a, b); "
		for i, depth := range depths {
			text += fmt.Sprintf("volume v%d = %sv%d%s; ", i+1, strings.Repeat(word+"(", depth), i, strings.Repeat(", "+name+")", depth))
		}
		return text + fmt.Sprintf("export v%d;", len(depths))
	}
	for _, text := range []string{nested("verity", "r", 11), nested("integrity", "k", 10, 10, 10)} {
		s, w, content := laid(t, text, 11)
		for n, p := range plans(s) {
			x := &ran{plan: p}
			x.disks, x.c = spread(w, n)
			count := min(len(content)/64, 16)
			if b := x.quick(t, "secrets", read(0, count), api.OK); !bytes.Equal(b, content[:64*count]) {
				t.Errorf("other sectors are read: %x", b)
			}
			x.disks[1].Kill()
			x.quick(t, "secrets", read(0, 1), api.ErrIO)
		}
	}
}

// P18.2: a stack by chance, on devices that die, go bad and are tampered with, and caches whose groups are kept, dropped and applied in between:
// request by request its two plans are run as target says of the stack, each over devices and a cache of its own.
func TestScriptsByChance(t *testing.T) {
	t.Parallel()
	r := rand.New(rand.NewSource(181))
	seen := map[string]int{}
	for range 300 {
		s, w := grownStack(r)
		var l script
		seed := r.Int()
		for _, p := range plans(s) {
			x := &ran{plan: p}
			x.disks, x.c = spread(w, seed)
			l = append(l, x)
		}
		for range 40 {
			l.drawnStep(r)
			req := drawn(r, s.Parts[s.Export].Size)
			kept := r.Intn(3) > 0
			var told []api.Content
			for n, x := range l {
				w := x.world()
				if n == 1 {
					if at := differ(w, told); at != "" {
						t.Fatalf("the two plans' worlds differ: %s", at)
					}
				}
				told = w
				_, b, e := x.asStack(t, s, w, req)
				seen[fmt.Sprint(min(req.Cmd, 6), e)]++
				if n == 0 {
					seen["read"] += len(b) / 64
				}
				if kept {
					x.c.Keep()
				}
			}
		}
	}
	for _, what := range []string{"0 error 0", "0 error 1", "0 error 141", "1 error 0", "1 error 1", "1 error 141", "1 error 143", "1 error 144", "3 error 0", "4 error 0", "4 error 141", "6 error 0", "6 error 144"} {
		if seen[what] < 20 {
			t.Errorf("%s: %d times; all: %v", what, seen[what], seen)
		}
	}
}

// wild is a plan by chance that is right, of a few disks and so many steps, which lie on one another as it comes.
func wild(r *rand.Rand, count int) (api.Plan, []int) {
	var devices []int
	var l []api.Step
	for i := range 1 + r.Intn(3) {
		size := 2 + r.Intn(12)
		devices = append(devices, size)
		l = append(l, disk(i, size))
	}
	for range count {
		if more := append(l, wildStep(r, l)); plan.Right(api.Plan{Steps: more}, devices) {
			l = more
		}
	}
	return api.Plan{Steps: l, Root: len(l) - 1 - r.Intn(min(2, len(l)))}, devices
}

// wildStep is a step on some that there are; it may turn out wrong.
func wildStep(r *rand.Rand, l []api.Step) api.Step {
	some := func() int { return max(r.Intn(len(l)), r.Intn(len(l))) }
	kid := some()
	size := l[kid].Size
	switch r.Intn(12) {
	case 0, 1, 2:
		kids := []int{kid}
		for range 6 {
			if other := some(); l[other].Size == size && len(kids) < 4 {
				kids = append(kids, other)
			}
		}
		return mirror(size, kids...)
	case 3, 4, 5:
		store := some()
		return snapshot(1+r.Intn(4), size, kid, store, l[store].Size)
	case 6:
		return crypt(size, kid)
	case 7:
		return integrity(kid, size)
	case 8:
		if r.Intn(4) == 0 {
			_, root := planted(make([]byte, 64*max(1, l[kid].Size/2)))
			return verity(kid, size, root)
		}
	}
	var parts [][3]int
	for range 1 + r.Intn(4) {
		kid := some()
		first := r.Intn(l[kid].Size)
		parts = append(parts, [3]int{kid, first, 1 + r.Intn(l[kid].Size-first)})
	}
	return joined(parts...)
}

// P18.1 (U1), P18.2: plans that no stack has, where steps are the kids of several ones, stores and origins at once: what is read, what the open
// group has, and the error are as is meant of them; they and what Optimize makes of them are run alike.
func TestWildByChance(t *testing.T) {
	t.Parallel()
	r := rand.New(rand.NewSource(182))
	seen := map[string]int{}
	few := [][]byte{make([]byte, 64), sectors(1, 1), number4(make([]byte, 64), 1, 0, 0, 0, 1), number4(make([]byte, 64), 0, 0, 0, 0, 2, 0, 0, 0, 1)}
	for range 6000 {
		p, devices := wild(r, 1+r.Intn(9))
		l := script{on(t, p, devices...), on(t, opt.Optimize(p), devices...)}
		for dev, size := range devices {
			for i := range size {
				b := few[r.Intn(len(few))]
				l.each(func(x *ran) { x.disks[dev].Tamper(i, b) })
			}
		}
		for range 8 {
			l.drawnStep(r)
			req := drawn(r, p.Steps[p.Root].Size)
			if req.Cmd == api.Store && req.N > 0 && r.Intn(2) == 0 {
				req.Data = bytes.Repeat(few[r.Intn(len(few))], req.N)
			}
			w := l[0].world()
			data, e, told := l[0].asked(t, w, req, 30000)
			if !told {
				seen["too many"]++
				break
			}
			other, again, _ := l[1].asked(t, w, req, enough)
			if e != again || !bytes.Equal(data, other) || !l[0].sameGroups(l[0].c.Group(), l[1].c.Group()) {
				t.Fatalf("%v: %v; the other one: %v\nplans %v, %v", req.Cmd, e, again, p, l[1].plan)
			}
			seen[fmt.Sprint(min(req.Cmd, 6), e)]++
			if r.Intn(3) > 0 {
				l.each(func(x *ran) { x.c.Keep() })
			}
		}
	}
	for _, what := range []string{"0 error 0", "0 error 1", "0 error 141", "1 error 0", "1 error 1", "1 error 141", "1 error 144", "1 error 143", "4 error 0", "4 error 141", "6 error 0"} {
		if seen[what] < 50 {
			t.Errorf("%s: %d times; all: %v", what, seen[what], seen)
		}
	}
	if seen["too many"] > 2000 {
		t.Errorf("what is meant was reckoned too seldom: %v", seen)
	}
}

// P18.1 (U1), P18.2: a store that is its own origin, or its mirror's leg, or that a Verity is.
func TestOneWithinAnother(t *testing.T) {
	devices := []int{20, 20}
	for _, l := range [][]api.Step{
		{disk(0, 20), snapshot(1, 20, 0, 0, 20)},
		{disk(0, 20), snapshot(3, 20, 0, 0, 20)},
		{disk(0, 20), disk(1, 20), mirror(20, 0, 1), snapshot(2, 20, 2, 0, 20)},
		{disk(0, 20), disk(1, 20), mirror(20, 0, 1), snapshot(2, 20, 1, 2, 20)},
		{disk(0, 20), disk(1, 20), snapshot(2, 20, 0, 1, 20), snapshot(2, 20, 1, 2, 20)},
		{disk(0, 20), disk(1, 20), snapshot(2, 20, 0, 1, 20), snapshot(3, 20, 2, 2, 20)},
		{disk(0, 20), disk(1, 20), snapshot(2, 20, 0, 1, 20), mirror(20, 2, 1, 0, 2)},
		{disk(0, 20), integrity(0, 20), joined([3]int{0, 0, 4}, [3]int{1, 0, 12})},
		{disk(0, 20), integrity(0, 20), joined([3]int{0, 16, 4}, [3]int{1, 0, 12})},
		{disk(0, 20), disk(1, 20), verity(1, 20, bytes.Repeat([]byte{7}, 32)), snapshot(4, 20, 0, 2, 9)},
	} {
		p := steps(t, devices, l...)
		x := on(t, p, devices...)
		twin := on(t, opt.Optimize(p), devices...)
		for n := range 60 {
			for _, req := range []api.Request{store(n%12, sectors(1+n%4, n)), read(n%9, 7), trim(n%13, n%3)} {
				want := x.wanted(req)
				x.run(t, req, want)
				twin.run(t, req, want)
				if n%3 == 0 {
					x.c.Keep()
					twin.c.Keep()
				}
			}
			if n%7 == 6 {
				x.disks[0].Spoil(n % 20)
				twin.disks[0].Spoil(n % 20)
			}
			if n%9 == 8 {
				x.c.Apply()
				twin.c.Apply()
			}
		}
	}
}

// P18.1, rule 4: what is handed in stays as it is, and what is told shares no memory with the cache, with what was handed in, or with what is told next.
func TestMemory(t *testing.T) {
	t.Parallel()
	for _, expr := range kinds {
		s, w, content := laid(t, over(expr), 7)
		for n, p := range plans(s) {
			x := &ran{plan: p}
			x.disks, x.c = spread(w, n)
			for range 2 {
				b := x.run(t, read(0, 16), api.OK)
				if !bytes.Equal(b, content[:64*16]) {
					t.Fatalf("%s: what was told is still held", expr)
				}
				clear(b)
			}
			if s.ReadOnly {
				continue
			}
			data := sectors(5, 8)
			x.run(t, store(1, data), api.OK) // it asks that the plan and Data stay as they are
			held := x.c.Group()
			clear(data)
			if g := x.c.Group(); !x.sameGroups(g, held) {
				t.Fatalf("%s: the open group holds what was handed in", expr)
			}
			x.c.Keep()
			for range 2 {
				b := x.run(t, read(0, 8), api.OK)
				if !bytes.Equal(b, slices.Concat(content[:64], sectors(5, 8), content[64*6:64*8])) {
					t.Fatalf("%s: what was written is held elsewhere, too", expr)
				}
				clear(b)
			}
			for _, b := range x.c.Group() {
				clear(b.Data)
			}
			x.c.Apply()
			if b := x.run(t, read(1, 5), api.OK); !bytes.Equal(b, sectors(5, 8)) {
				t.Fatalf("%s: what was applied is something else", expr)
			}
		}
	}
}

// Rule 4: what lies behind a list's length is neither looked at nor written into.
func TestBehindLists(t *testing.T) {
	mark := []byte("behind its end")
	for _, expr := range kinds {
		s, w, content := laid(t, over(expr), 7)
		for n, p := range plans(s) {
			more := owned(p)
			l := append(more.Steps, api.Step{Kind: 77})
			more.Steps = l[:len(more.Steps)]
			for i := range more.Steps {
				st := &more.Steps[i]
				st.Kids = append(st.Kids, -5, 77)[:len(st.Kids)]
				st.Extents = append(st.Extents, api.Extent{From: st.Size, Count: 3, Kid: -1})[:len(st.Extents)]
				st.Key, st.Root = append(st.Key, mark...)[:len(st.Key)], append(st.Root, mark...)[:len(st.Root)]
			}
			x := &ran{plan: more}
			x.disks, x.c = spread(w, n)
			if b := x.run(t, read(0, 16), api.OK); !bytes.Equal(b, content[:64*16]) {
				t.Errorf("%s: other sectors are read", expr)
			}
			long := append(sectors(16, 8), mark...)
			r := store(0, long[:64*16])
			x.run(t, r, x.wanted(r))
			if !bytes.Equal(long, append(sectors(16, 8), mark...)) {
				t.Errorf("%s: behind the data stands something else", expr)
			}
			x.run(t, trim(3, 9), x.wanted(trim(3, 9)))
			for i, st := range more.Steps {
				kids, x := st.Kids[:len(st.Kids)+2], st.Extents[:len(st.Extents)+1][len(st.Extents)]
				if kids[len(kids)-2] != -5 || kids[len(kids)-1] != 77 || x.Count != 3 || x.Kid != -1 {
					t.Errorf("%s: behind the lists of step %d stand %v, %v", expr, i, kids, x)
				}
				for _, secret := range [][]byte{st.Key, st.Root} {
					if !bytes.Equal(secret[len(secret):len(secret)+len(mark)], mark) {
						t.Errorf("%s: behind a secret of step %d stands something else", expr, i)
					}
				}
			}
			if l[len(l)-1].Kind != 77 {
				t.Errorf("%s: behind the steps stands %v", expr, l[len(l)-1])
			}
		}
	}
}

// Rule 6: lists without elements may be nil or not.
func TestEmptyLists(t *testing.T) {
	for _, expr := range kinds {
		s, w, content := laid(t, over(expr), 7)
		for n, p := range plans(s) {
			p = owned(p)
			for i := range p.Steps {
				st := &p.Steps[i]
				st.Kids, st.Extents = append([]int{}, st.Kids...), append([]api.Extent{}, st.Extents...)
				st.Key, st.Root = append([]byte{}, st.Key...), append([]byte{}, st.Root...)
			}
			x := &ran{plan: p}
			x.disks, x.c = spread(w, n)
			if b := x.run(t, read(0, 16), api.OK); !bytes.Equal(b, content[:64*16]) {
				t.Errorf("%s: other sectors are read", expr)
			}
			x.run(t, trim(3, 9), x.wanted(trim(3, 9)))
			x.run(t, api.Request{Cmd: api.Store, At: 3, Data: []byte{}}, x.wanted(store(3, nil)))
		}
	}
}

// P2: a request that is done again over the same tells the same, and a plan may be run over several caches in turn.
func TestSameAgain(t *testing.T) {
	t.Parallel()
	for _, expr := range kinds {
		s, w, _ := laid(t, over(expr), 10)
		for n, p := range plans(s) {
			x, other := &ran{plan: p}, &ran{plan: p}
			x.disks, x.c = spread(w, n)
			other.disks, other.c = spread(w, n+5)
			for _, r := range []api.Request{read(0, 16), store(1, sectors(15, 2)), trim(3, 9), store(1, sectors(15, 2))} {
				first, e := Run(p, x.c, r)
				group := x.c.Group()
				for range 3 {
					if b, again := Run(p, other.c, r); e != again || !bytes.Equal(b, first) || !x.sameGroups(other.c.Group(), group) {
						t.Errorf("%s: %v is done otherwise over another cache", expr, r.Cmd)
					}
					if b, again := Run(p, x.c, r); e != again || !bytes.Equal(b, first) || !x.sameGroups(x.c.Group(), group) {
						t.Errorf("%s: %v is done otherwise the next time", expr, r.Cmd)
					}
				}
			}
		}
	}
}

// P18.1 (U1): a plan without steps has no sectors: all but a Flush is refused.
func TestNoSteps(t *testing.T) {
	x := on(t, api.Plan{}, 3)
	for _, root := range []int{0, -1, 1, math.MinInt, math.MaxInt} {
		for _, cmd := range append([]api.Cmd{api.Disc}, commands...) {
			x.c.Write(0, 1, sectors(1, 1))
			want := api.ErrArg
			if cmd == api.Flush {
				want = api.OK
			}
			b, e := Run(api.Plan{Root: root}, x.c, api.Request{Cmd: cmd, N: 1, Data: sectors(1, 1)})
			if e != want || len(b)+len(x.c.Group()) != 0 {
				t.Errorf("%v: %d bytes, %v, %d writes", cmd, len(b), e, len(x.c.Group()))
			}
		}
	}
}

// Ways: what fails wraps what failed below it, down to the device's; each is told with its step, and errors.As finds the one that counts.
func TestFailuresWrap(t *testing.T) {
	s := stackOf(t, over("mirror(linear(crypt(mirror(a, b), k), 3, 20), snapshot(linear(c, 0, 20), d, 2))"))
	x := on(t, plan.Lower(s), s.Devices...)
	run := &runner{Plan: x.plan, cache: x.c, known: map[question]answer{}}
	steps := func(err error) (l []int) {
		for at := err; at != nil; at = errors.Unwrap(at) {
			var f failure
			if !errors.As(at, &f) {
				t.Fatalf("%v is no failure", at)
			}
			l = append(l, f.of)
		}
		return l
	}
	x.disks[0].Kill()
	x.disks[1].Kill()
	x.disks[3].Spoil(0)
	_, err := run.read(place{x.plan.Root, 2})
	var f failure
	if !errors.As(err, &f) || f.Errno != api.ErrIO || f.of != x.plan.Root || f.sector != 2 || number(err) != api.ErrIO {
		t.Errorf("what failed is %v", err)
	}
	if below := errors.Unwrap(err); below == nil || x.plan.Steps[steps(below)[0]].Dev != 3 {
		t.Errorf("below it is %v", below)
	}
	if want := fmt.Sprintf("step %d, sector 2: error 141, for step %d, sector 0: error 141", x.plan.Root, steps(err)[1]); err.Error() != want {
		t.Errorf("it is told as %q; want %q", err.Error(), want)
	}
	// The first leg is dead, as its mirror's legs are.
	_, err = run.read(place{x.plan.Steps[x.plan.Root].Kids[0], 2})
	l := steps(err)
	if number(err) != api.ErrDead || len(l) != 2 || x.plan.Steps[l[0]].Kind != api.Mirror || x.plan.Steps[l[1]].Dev != 1 {
		t.Errorf("what failed is %v, in the steps %v", err, l)
	}
	// A first write that fails, for the origin is dead, is not dead itself.
	x = on(t, plan.Lower(s), s.Devices...)
	x.disks[2].Kill()
	run = &runner{Plan: x.plan, cache: x.c, known: map[question]answer{}}
	err = run.write(place{x.plan.Root, 2}, make([]byte, 64))
	l = steps(err)
	if number(err) != api.ErrIO || len(l) != 2 || x.plan.Steps[l[0]].Kind != api.Snapshot || x.plan.Steps[l[1]].Dev != 2 || number(errors.Unwrap(err)) != api.ErrDead {
		t.Errorf("what failed is %v, in the steps %v", err, l)
	}
}
