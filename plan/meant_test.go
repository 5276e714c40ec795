package plan

import (
	"bytes"
	"fmt"
	"math"
	"math/big"
	"math/rand"
	"slices"
	"strings"
	"testing"

	"cofferdam/api"
	"cofferdam/area"
	"cofferdam/check"
	"cofferdam/codec"
	"cofferdam/hmac"
	"cofferdam/merkle"
	"cofferdam/parse"
	"cofferdam/target"
	"cofferdam/xts"
)

// meantRight follows P2 a second time: what a kind has is taken away, and nothing may be left; ranges are reckoned in exact numbers,
// and what area tells is counted up.
func meantRight(p api.Plan, devices []int) bool {
	if len(p.Steps) == 0 || len(p.Steps) > 1000 || p.Root < 0 || p.Root >= len(p.Steps) {
		return false
	}
	for i, st := range p.Steps {
		if !meantRightStep(p.Steps, i, devices) || !bare(st) {
			return false
		}
	}
	return true
}

// bare tells whether a step has nothing but what its kind has.
func bare(st api.Step) bool {
	switch st.Kind {
	case api.Disk:
		st.Dev = 0
	case api.Concat:
		st.Extents = nil
	case api.Mirror:
		st.Kids = nil
	case api.Snapshot:
		st.Kids, st.Chunk, st.Table, st.Slots = nil, 0, 0, 0
	case api.Crypt, api.Integrity:
		st.Kids, st.Key = nil, nil
	case api.Verity:
		st.Kids, st.Root = nil, nil
	}
	numbers := []int{st.Dev, st.Chunk, st.Table, st.Slots}
	return slices.Equal(numbers, make([]int, 4)) && len(st.Extents)+len(st.Kids)+len(st.Key)+len(st.Root) == 0
}

// meantRightStep tells whether the i-th step has right what its kind has.
func meantRightStep(steps []api.Step, i int, devices []int) bool {
	st := steps[i]
	if st.Size < 1 || st.Size > 8192 {
		return false
	}
	for _, kid := range st.Kids {
		if kid < 0 || kid >= i {
			return false
		}
	}
	switch st.Kind {
	case api.Disk:
		return st.Dev >= 0 && st.Dev < len(devices) && devices[st.Dev] == st.Size
	case api.Concat:
		return meantExtents(steps[:i], st)
	case api.Mirror:
		for _, kid := range st.Kids {
			if steps[kid].Size != st.Size {
				return false
			}
		}
		return len(st.Kids) >= 1 && len(st.Kids) <= 4
	case api.Snapshot:
		if len(st.Kids) != 2 || st.Chunk < 1 || st.Chunk > 16 {
			return false
		}
		table, slots := meantStore(steps[st.Kids[1]].Size, st.Size, st.Chunk)
		return steps[st.Kids[0]].Size == st.Size && st.Table == table && st.Slots == slots && slots > 0
	}
	if len(st.Kids) != 1 {
		return false
	}
	size := steps[st.Kids[0]].Size
	switch st.Kind {
	case api.Crypt:
		return size == st.Size && len(st.Key) == 32 && string(st.Key[:16]) != string(st.Key[16:])
	case api.Integrity:
		return st.Size == most(8192, size, func(d int) int { return d + d/4 + min(d%4, 1) }) && len(st.Key) == 32
	case api.Verity:
		return st.Size == most(2048, size, withHashes) && len(st.Root) == 32
	}
	return false
}

// meantExtents asks extents of each end that they have.
func meantExtents(ahead []api.Step, st api.Step) bool {
	if len(st.Extents) < 1 || len(st.Extents) > 1000 {
		return false
	}
	sum := func(a, b int) *big.Int { return new(big.Int).Add(big.NewInt(int64(a)), big.NewInt(int64(b))) }
	at := big.NewInt(0)
	for _, x := range st.Extents {
		if x.Kid < 0 || x.Kid >= len(ahead) || x.Count < 1 || x.First < 0 || sum(x.First, x.Count).Cmp(big.NewInt(int64(ahead[x.Kid].Size))) > 0 {
			return false
		}
		if big.NewInt(int64(x.From)).Cmp(at) != 0 {
			return false
		}
		at = sum(x.From, x.Count)
	}
	return at.Cmp(big.NewInt(int64(st.Size))) == 0
}

// most is the greatest number of data sectors, up to limit, that need no more than n.
func most(limit, n int, need func(d int) int) int {
	d := 0
	for d < limit && need(d+1) <= n {
		d++
	}
	return d
}

// withHashes is so many data sectors and all their hash sectors.
func withHashes(d int) int {
	all, level := d, d
	for level > 1 || all == d {
		level = (level + 1) / 2
		all += level
	}
	return all
}

// meantStore is how many sectors a table has, and how many slots there are.
func meantStore(n, origin, chunk int) (table, slots int) {
	chunks := 0
	for first := 0; first < origin; first += chunk {
		chunks++
	}
	for 16*table < chunks {
		table++
	}
	for left := n - table - chunk; left >= 0 && slots < chunks; left -= chunk {
		slots++
	}
	if slots == 0 {
		return 0, 0
	}
	return table, slots
}

// runner does requests by the steps of a plan, as chapter 14 says of the nodes of a stack.
type runner struct {
	plan    api.Plan
	world   []api.Content
	touched map[[2]int]bool // sectors of devices that the request has written
}

// do does a request; one that fails leaves the world as it was.
func (m *runner) do(r api.Request) (data []byte, e api.Errno) {
	size := m.plan.Steps[m.plan.Root].Size
	writes := r.Cmd == api.Store || r.Cmd == api.Trim || r.Cmd == api.Zeroes
	switch {
	case r.Cmd == api.Flush:
		return nil, api.OK
	case !writes && r.Cmd != api.Read, r.N < 0, r.N > 16, r.At < 0, r.At > size, r.At+r.N > size:
		return nil, api.ErrArg
	case r.Cmd == api.Store && len(r.Data) != 64*r.N:
		return nil, api.ErrArg
	case writes && m.plan.ReadOnly:
		return nil, api.ErrPerm
	}
	before := m.world
	m.world, m.touched = listed(m.world), map[[2]int]bool{}
	for i := 0; i < r.N && e == api.OK; i++ {
		b := make([]byte, 64)
		switch r.Cmd {
		case api.Read:
			b, e = m.get(m.plan.Root, r.At+i)
			data = append(data, b...)
			continue
		case api.Store:
			b = r.Data[64*i : 64*i+64]
		}
		e = m.put(m.plan.Root, r.At+i, b)
	}
	if e == api.OK && len(m.touched) > 200 || e == api.ErrDead {
		e = api.ErrIO
	}
	if e != api.OK {
		m.world, data = before, nil
	}
	return data, e
}

// listed is a world with lists of its own, of sectors that no one writes into.
func listed(w []api.Content) []api.Content {
	w = slices.Clone(w)
	for dev := range w {
		w[dev].Sectors, w[dev].Bad = slices.Clone(w[dev].Sectors), slices.Clone(w[dev].Bad)
	}
	return w
}

// extent is the kid in which a Concat's sector lies, and which one it is there.
func extent(st api.Step, i int) (int, int) {
	for _, x := range st.Extents {
		if i >= x.From && i < x.From+x.Count {
			return x.Kid, x.First + i - x.From
		}
	}
	panic("in none of the extents")
}

// get reads a sector of a step.
func (m *runner) get(step, i int) ([]byte, api.Errno) {
	st := m.plan.Steps[step]
	switch st.Kind {
	case api.Disk:
		device := m.world[st.Dev]
		if device.Dead {
			return nil, api.ErrDead
		}
		if device.Bad[i] {
			return nil, api.ErrIO
		}
		return device.Sectors[i], api.OK
	case api.Concat:
		return m.get(extent(st, i))
	case api.Mirror:
		all := api.ErrDead
		for _, kid := range st.Kids {
			b, e := m.get(kid, i)
			if e == api.OK {
				return b, e
			}
			if e != api.ErrDead {
				all = api.ErrIO
			}
		}
		return nil, all
	case api.Snapshot:
		slot, e := m.slot(st, i/st.Chunk)
		if e != api.OK {
			return nil, e
		}
		if slot == 0 {
			return m.get(st.Kids[0], i)
		}
		return m.get(st.Kids[1], st.Table+(slot-1)*st.Chunk+i%st.Chunk)
	}
	b, e := m.get(st.Kids[0], i)
	if e != api.OK {
		return nil, e
	}
	switch st.Kind {
	case api.Crypt:
		c, _ := xts.New(st.Key)
		b, _ = c.Open(uint64(i), b)
		return b, api.OK
	case api.Integrity:
		around, e := m.get(st.Kids[0], st.Size+i/4)
		if e != api.OK {
			return nil, e
		}
		return whether(b, hmac.Right(st.Key, i, b, around[i%4*16:i%4*16+16]))
	}
	var path [][]byte
	for _, hash := range merkle.Path(st.Size, i) {
		sector, e := m.get(st.Kids[0], st.Size+hash)
		if e != api.OK {
			return nil, e
		}
		path = append(path, sector)
	}
	return whether(b, merkle.Check(st.Size, i, b, path, st.Root))
}

// whether is a sector, if it is right.
func whether(b []byte, right bool) ([]byte, api.Errno) {
	if right {
		return b, api.OK
	}
	return nil, api.ErrIO
}

// slot is that of a chunk; 0, if it has none.
func (m *runner) slot(st api.Step, chunk int) (int, api.Errno) {
	b, e := m.get(st.Kids[1], chunk/16)
	if e != api.OK {
		return 0, e
	}
	slot, e := codec.Number(b, chunk%16)
	if e != api.OK || slot > st.Slots {
		return 0, api.ErrIO
	}
	return slot, api.OK
}

// put writes a sector of a step.
func (m *runner) put(step, i int, b []byte) api.Errno {
	st := m.plan.Steps[step]
	switch st.Kind {
	case api.Disk:
		if m.world[st.Dev].Dead {
			return api.ErrDead
		}
		m.world[st.Dev].Sectors[i], m.world[st.Dev].Bad[i] = bytes.Clone(b), false
		m.touched[[2]int{st.Dev, i}] = true
		return api.OK
	case api.Concat:
		kid, j := extent(st, i)
		return m.put(kid, j, b)
	case api.Mirror:
		all := api.ErrDead
		for _, kid := range st.Kids {
			switch e := m.put(kid, i, b); e {
			case api.OK:
				all = api.OK
			case api.ErrDead:
			default:
				return e
			}
		}
		return all
	case api.Snapshot:
		slot, e := m.slot(st, i/st.Chunk)
		if e != api.OK {
			return e
		}
		if slot != 0 {
			return m.put(st.Kids[1], st.Table+(slot-1)*st.Chunk+i%st.Chunk, b)
		}
		if e = m.putFirst(st, i, b); e != api.OK && e != api.ErrSpace {
			return api.ErrIO
		}
		return e
	case api.Crypt:
		c, _ := xts.New(st.Key)
		sealed, _ := c.Seal(uint64(i), b)
		return m.put(st.Kids[0], i, sealed)
	case api.Integrity:
		around, e := m.get(st.Kids[0], st.Size+i/4)
		if e != api.OK {
			return e
		}
		if e := m.put(st.Kids[0], i, b); e != api.OK {
			return e
		}
		tag := hmac.Tag(st.Key, i, b)
		around, _ = codec.SetField(around, i%4, tag[:])
		return m.put(st.Kids[0], st.Size+i/4, around)
	}
	return api.ErrPerm
}

// putFirst writes a sector of a Snapshot whose chunk has no slot.
func (m *runner) putFirst(st api.Step, i int, b []byte) api.Errno {
	named := map[int]bool{}
	var table [][]byte
	for t := range st.Table {
		sector, e := m.get(st.Kids[1], t)
		if e != api.OK {
			return e
		}
		table = append(table, sector)
	}
	for chunk := 0; chunk*st.Chunk < st.Size; chunk++ {
		slot, _ := codec.Number(table[chunk/16], chunk%16)
		named[slot] = true
	}
	slot := 1
	for named[slot] {
		slot++
	}
	if slot > st.Slots {
		return api.ErrSpace
	}
	chunk := i / st.Chunk
	for j := chunk * st.Chunk; j < min(chunk*st.Chunk+st.Chunk, st.Size); j++ {
		held := b
		if j != i {
			var e api.Errno
			if held, e = m.get(st.Kids[0], j); e != api.OK {
				return e
			}
		}
		if e := m.put(st.Kids[1], st.Table+(slot-1)*st.Chunk+j%st.Chunk, held); e != api.OK {
			return e
		}
	}
	around, _ := codec.SetNumber(table[chunk/16], chunk%16, slot)
	return m.put(st.Kids[1], chunk/16, around)
}

// sectors is so many sectors, none like another one; another seed makes others.
func sectors(n, seed int) []byte {
	b := make([]byte, 64*n)
	rand.New(rand.NewSource(int64(seed))).Read(b)
	return b
}

// noughts is a stack's world of noughts.
func noughts(s api.Stack) []api.Content {
	var w []api.Content
	for _, size := range s.Devices {
		c := api.Content{Bad: make([]bool, size)}
		for range size {
			c.Sectors = append(c.Sectors, make([]byte, 64))
		}
		w = append(w, c)
	}
	return w
}

// lay lays content from a node's sector on into a world, by hand: whatever lies below it tells just that. Roots become those of what is laid.
// Where a node's sectors hang together the others are noughts.
func lay(s api.Stack, w []api.Content, node, first int, content []byte) {
	p := &s.Parts[node]
	whole := make([]byte, 64*p.Size)
	copy(whole[64*first:], content)
	switch p.Kind {
	case api.Disk:
		for i := range len(content) / 64 {
			w[p.Dev].Sectors[first+i] = bytes.Clone(content[64*i : 64*i+64])
		}
	case api.Linear:
		lay(s, w, p.Kids[0], p.First+first, content)
	case api.Concat:
		for _, kid := range p.Kids {
			size := s.Parts[kid].Size
			if first < size {
				count := min(len(content)/64, size-first)
				lay(s, w, kid, first, content[:64*count])
				content = content[64*count:]
			}
			first = max(0, first-size)
		}
	case api.Mirror:
		for _, kid := range p.Kids {
			lay(s, w, kid, first, content)
		}
	case api.Snapshot:
		lay(s, w, p.Kids[0], first, content)
		lay(s, w, p.Kids[1], 0, make([]byte, 64*s.Parts[p.Kids[1]].Size))
	case api.Crypt:
		c, _ := xts.New(p.Key)
		var sealed []byte
		for i := range len(content) / 64 {
			b, _ := c.Seal(uint64(first+i), content[64*i:64*i+64])
			sealed = append(sealed, b...)
		}
		lay(s, w, p.Kids[0], first, sealed)
	case api.Integrity:
		var tags []byte
		for i := range p.Size {
			tag := hmac.Tag(p.Key, i, whole[64*i:64*i+64])
			tags = append(tags, tag[:]...)
		}
		lay(s, w, p.Kids[0], 0, slices.Concat(whole, tags, make([]byte, -len(tags)&63)))
	case api.Verity:
		tree, root, _ := merkle.Build(whole)
		p.Root = root[:]
		lay(s, w, p.Kids[0], 0, append(whole, tree...))
	}
}

// checkedOf is a text's stack, or what is wrong with it.
func checkedOf(text string) (api.Stack, api.Errno) {
	n, e, _ := parse.Parse(text)
	if e != api.OK {
		return api.Stack{}, e
	}
	s, e, _ := check.Check(n)
	return s, e
}

// stackOf is the stack of a text that has one.
func stackOf(t *testing.T, text string) api.Stack {
	t.Helper()
	s, e := checkedOf(text)
	if e != api.OK {
		t.Fatalf("%q: %v", text, e)
	}
	return s
}

// grower makes texts of stacks out of pieces of devices that are apart.
type grower struct {
	*rand.Rand
	pieces []piece
	named  []string // statements of volumes
}

// piece is an expr and how many sectors it has.
type piece struct {
	text string
	size int
}

// grown is a text: devices, a journal among them, and volumes, of which the last one is nested so deep at most.
func grown(r *rand.Rand, depth int) string {
	g := &grower{Rand: r}
	var b strings.Builder
	fmt.Fprintf(&b, "key k $%s; key l $%s; root r $%s; ", kHex, lHex, rHex)
	journal := r.Intn(5)
	for i, name := range strings.Split("a b c d e", " ") {
		if i == journal {
			b.WriteString("journal j 256; ")
		}
		size := 6 + r.Intn(60)
		fmt.Fprintf(&b, "device %s %d; ", name, size)
		if r.Intn(3) == 0 {
			g.pieces = append(g.pieces, piece{name, size})
			continue
		}
		cut := 1 + r.Intn(size-1)
		g.pieces = append(g.pieces,
			piece{fmt.Sprintf("linear(%s, 0, %d)", name, cut), cut},
			piece{fmt.Sprintf("linear(%s, %d, %d)", name, cut, size-cut), size - cut})
	}
	r.Shuffle(len(g.pieces), func(i, k int) { g.pieces[i], g.pieces[k] = g.pieces[k], g.pieces[i] })
	whole := g.expr(depth).text
	end := ""
	if r.Intn(10) == 0 {
		end = " readonly"
	}
	fmt.Fprintf(&b, "%svolume v = %s; export v%s;", strings.Join(g.named, ""), whole, end)
	return b.String()
}

// expr is an expr; some are given a name.
func (g *grower) expr(depth int) piece {
	p := g.plain(depth)
	if g.Intn(6) > 0 || len(g.named) == 10 {
		return p
	}
	name := fmt.Sprintf("n%d", len(g.named))
	g.named = append(g.named, fmt.Sprintf("volume %s = %s; ", name, p.text))
	return piece{name, p.size}
}

func (g *grower) plain(depth int) piece {
	if depth <= 1 || len(g.pieces) < 2 {
		p := g.pieces[0]
		if len(g.pieces) > 1 {
			g.pieces = g.pieces[1:]
		}
		return p
	}
	kid := g.expr(depth - 1)
	switch g.Intn(11) {
	case 0:
		first := g.Intn(kid.size)
		count := 1 + g.Intn(kid.size-first)
		return piece{fmt.Sprintf("linear(%s, %d, %d)", kid.text, first, count), count}
	case 1, 2, 3:
		other := g.expr(depth - 1)
		return piece{fmt.Sprintf("concat(%s, %s)", kid.text, other.text), kid.size + other.size}
	case 4:
		other := g.expr(depth - 2)
		size := min(kid.size, other.size)
		return piece{fmt.Sprintf("mirror(%s, %s)", kid.cutTo(size), other.cutTo(size)), size}
	case 5, 6:
		other := g.expr(depth - 1)
		chunk := 1 + g.Intn(5)
		if _, slots := area.Store(other.size, kid.size, chunk); slots > 0 {
			return piece{fmt.Sprintf("snapshot(%s, %s, %d)", kid.text, other.text, chunk), kid.size}
		}
	case 7, 8:
		return piece{fmt.Sprintf("crypt(%s, k)", kid.text), kid.size}
	case 9:
		if size, _ := area.Verity(kid.size); size > 0 {
			return piece{fmt.Sprintf("verity(%s, r)", kid.text), size}
		}
	case 10:
		if size, _ := area.Integrity(kid.size); size > 0 {
			return piece{fmt.Sprintf("integrity(%s, l)", kid.text), size}
		}
	}
	return kid
}

// cutTo is the piece's first sectors.
func (p piece) cutTo(size int) string {
	if size == p.size {
		return p.text
	}
	return fmt.Sprintf("linear(%s, 0, %d)", p.text, size)
}

// grownStack is the stack of a grown text.
func grownStack(r *rand.Rand) api.Stack {
	for {
		if s, e := checkedOf(grown(r, 2+r.Intn(6))); e == api.OK {
			return s
		}
	}
}

// drawn is a request within a volume, or now and then one a little wrong.
func drawn(r *rand.Rand, size int) api.Request {
	at := r.Intn(size)
	n := 1 + r.Intn(min(16, size-at))
	if r.Intn(3) == 0 {
		n = 1
	}
	req := api.Request{Cmd: []api.Cmd{api.Read, api.Read, api.Read, api.Store, api.Store, api.Store, api.Trim, api.Zeroes, api.Flush}[r.Intn(9)], At: at, N: n}
	if r.Intn(40) == 0 {
		req.N = r.Intn(20) - 2
	}
	if req.Cmd == api.Store {
		req.Data = sectors(max(0, req.N), r.Int())
	}
	return req
}

// hurt is a world in which now and then a device has died, a sector has gone bad, or somebody else has written one.
func hurt(r *rand.Rand, w []api.Content) []api.Content {
	w = listed(w)
	c := &w[r.Intn(len(w))]
	i := r.Intn(len(c.Sectors))
	if r.Intn(2) == 0 {
		i = r.Intn(min(8, len(c.Sectors))) // where tables begin
	}
	switch n := r.Intn(100); {
	case n < 1:
		c.Dead = true
	case n < 15:
		c.Bad[i] = true
	case n < 18:
		c.Sectors[i], _ = codec.SetNumber(c.Sectors[i], r.Intn(16), r.Intn(6))
	}
	return w
}

// differ is where two worlds differ; nothing, if they do not.
func differ(a, b []api.Content) string {
	if len(a) != len(b) {
		return fmt.Sprintf("%d devices, %d", len(a), len(b))
	}
	for dev := range a {
		if a[dev].Dead != b[dev].Dead || !slices.Equal(a[dev].Bad, b[dev].Bad) || !slices.EqualFunc(a[dev].Sectors, b[dev].Sectors, bytes.Equal) {
			return fmt.Sprintf("device %d", dev)
		}
	}
	return ""
}

// alikeAsked asks that a request, done by the steps of a stack's plan, tells what target tells of the stack. It tells the world behind it.
func alikeAsked(t *testing.T, s api.Stack, p api.Plan, w []api.Content, r api.Request) ([]api.Content, api.Errno) {
	t.Helper()
	want, wantData, wantErr := target.Do(s, w, r)
	m := &runner{plan: p, world: w}
	data, e := m.do(r)
	if e != wantErr || !bytes.Equal(data, wantData) {
		t.Fatalf("%v of %d from %d on: %d bytes, %v; of the stack %d bytes, %v\nstack %v\nplan %v", r.Cmd, r.N, r.At, len(data), e, len(wantData), wantErr, s, p)
	}
	if at := differ(m.world, want); at != "" {
		t.Fatalf("%v of %d from %d on: %v, and the worlds differ: %s\nstack %v\nplan %v", r.Cmd, r.N, r.At, e, at, s, p)
	}
	return want, e
}

// P15.3: requests on stacks of each kind, and of each within others: every sector is read and written by itself, and many by one request.
func TestMeansTheSame(t *testing.T) {
	t.Parallel()
	for _, expr := range kinds {
		for _, end := range []string{"", " readonly"} {
			s := stackOf(t, ground+"volume v = "+expr+"; export v"+end+";")
			size := s.Parts[s.Export].Size
			w := noughts(s)
			lay(s, w, s.Export, 0, sectors(size, 1))
			p := Lower(s)
			for i := range size {
				w, _ = alikeAsked(t, s, p, w, api.Request{Cmd: api.Read, At: i, N: 1})
				w, _ = alikeAsked(t, s, p, w, api.Request{Cmd: api.Store, At: i, N: 1, Data: sectors(1, i)})
				w, _ = alikeAsked(t, s, p, w, api.Request{Cmd: api.Read, At: i, N: 1})
			}
			w, _ = alikeAsked(t, s, p, w, api.Request{Cmd: api.Flush})
			for at := range size + 2 {
				for _, n := range []int{0, 2, 16, 17} {
					w, _ = alikeAsked(t, s, p, w, api.Request{Cmd: api.Read, At: at, N: n})
					w, _ = alikeAsked(t, s, p, w, api.Request{Cmd: api.Store, At: at, N: n, Data: sectors(n, at)})
					w, _ = alikeAsked(t, s, p, w, api.Request{Cmd: api.Trim, At: at, N: n})
					w, _ = alikeAsked(t, s, p, w, api.Request{Cmd: api.Zeroes, At: at, N: n})
				}
			}
		}
	}
}

// P15.3: stacks by chance, on devices that die, go bad and are tampered with, request by request. P15.2: all of their plans are right.
func TestMeansTheSameByChance(t *testing.T) {
	t.Parallel()
	r := rand.New(rand.NewSource(15))
	told := map[string]int{}
	for range 600 {
		s := grownStack(r)
		w := noughts(s)
		lay(s, w, s.Export, 0, sectors(s.Parts[s.Export].Size, r.Int()))
		p := Lower(s)
		if !Right(p, s.Devices) || !meantRight(p, s.Devices) {
			t.Fatalf("not right: %v\nstack %v", p, s)
		}
		for _, part := range s.Parts {
			told[fmt.Sprint("kind ", part.Kind)]++
		}
		for range 50 {
			req := drawn(r, s.Parts[s.Export].Size)
			var e api.Errno
			w, e = alikeAsked(t, s, p, hurt(r, w), req)
			told[fmt.Sprint(req.Cmd, " ", e)]++
		}
	}
	for kind := api.Disk; kind <= api.Verity; kind++ {
		if told[fmt.Sprint("kind ", kind)] < 100 {
			t.Errorf("of kind %v too few were tried: %v", kind, told)
		}
	}
	for _, seldom := range []string{"0 error 0", "1 error 0", "0 error 141", "1 error 141", "1 error 143", "1 error 144", "4 error 0", "6 error 0"} {
		if told[seldom] < 50 {
			t.Errorf("%q was told too seldom: %v", seldom, told)
		}
	}
}

// edges are numbers that a field may be made: those about what it was, about limits, and at the ends of int.
func edges(was int) []int {
	return []int{was - 1, was + 1, -was, 2 * was, 0, 1, 2, -1, 4, 5, 15, 16, 17, 31, 32, 33, 1000, 1001, 2048, 8191, 8192, 8193,
		1 << 31, 1 << 32, -1 << 31, math.MaxInt, math.MaxInt - was, math.MaxInt - was + 1, math.MinInt, math.MinInt + was}
}

// changed makes one thing of a plan, or of the devices, another one. The plan's lists are its own.
func changed(r *rand.Rand, p *api.Plan, devices []int) {
	if len(p.Steps) == 0 {
		return
	}
	i := r.Intn(len(p.Steps))
	st := &p.Steps[i]
	numbers := []*int{&p.Root, &st.Size, &st.Size, &st.Dev, &st.Chunk, &st.Table, &st.Slots}
	for k := range st.Kids {
		numbers = append(numbers, &st.Kids[k])
	}
	for k := range st.Extents {
		x := &st.Extents[k]
		numbers = append(numbers, &x.From, &x.Count, &x.Kid, &x.First)
	}
	if len(devices) > 0 {
		numbers = append(numbers, &devices[r.Intn(len(devices))])
	}
	switch n := r.Intn(20); {
	case n < 10:
		number := numbers[r.Intn(len(numbers))]
		l := edges(*number)
		*number = l[r.Intn(len(l))]
	case n == 10:
		st.Kind = []api.Kind{0, 1, 2, 3, 4, 5, 6, 7, 8, 9, -1, math.MaxInt, math.MinInt}[r.Intn(13)]
	case n == 11:
		st.Kids = append(st.Kids, r.Intn(len(p.Steps)))
	case n == 12 && len(st.Kids) > 0:
		st.Kids = st.Kids[1:]
	case n == 13:
		st.Extents = append(st.Extents, api.Extent{From: st.Size, Count: r.Intn(3), Kid: r.Intn(i + 1)})
	case n == 14 && len(st.Extents) > 0:
		k := r.Intn(len(st.Extents))
		st.Extents = slices.Delete(st.Extents, k, k+1)
	case n == 15 && len(st.Extents) > 0:
		cutExtent(r, st, r.Intn(len(st.Extents)))
	case n == 16:
		st.Key = sectors(1, r.Int())[:[]int{0, 16, 31, 32, 33, 64}[r.Intn(6)]]
	case n == 17:
		st.Root = sectors(1, r.Int())[:[]int{0, 16, 31, 32, 33, 64}[r.Intn(6)]]
	case n == 18:
		p.Steps = slices.Insert(p.Steps, i, *st)
	case n == 19:
		p.Steps = slices.Delete(p.Steps, i, i+1)
	}
}

// cutExtent makes two extents of one: as it was, or with a sector less, more, or twice.
func cutExtent(r *rand.Rand, st *api.Step, k int) {
	x := st.Extents[k]
	if x.Count < 2 {
		return
	}
	count := 1 + r.Intn(min(x.Count, 8192)-1)
	two := api.Extent{From: x.From + count, Count: x.Count - count, Kid: x.Kid, First: x.First + count}
	if r.Intn(3) == 0 {
		two.From += r.Intn(3) - 1
		two.Count += r.Intn(3) - 1
	}
	x.Count = count
	st.Extents = slices.Replace(st.Extents, k, k+1, x, two)
}

// owned is a plan in memory of its own.
func owned(p api.Plan) api.Plan {
	p.Steps = slices.Clone(p.Steps)
	for i := range p.Steps {
		st := &p.Steps[i]
		st.Extents, st.Kids = slices.Clone(st.Extents), slices.Clone(st.Kids)
		st.Key, st.Root = bytes.Clone(st.Key), bytes.Clone(st.Root)
	}
	return p
}

// P15.1 (P2): plans that were right till something of them was made another thing, held against what is meant.
func TestRightByChance(t *testing.T) {
	t.Parallel()
	r := rand.New(rand.NewSource(151))
	seen := map[bool]int{}
	for range 300 {
		s := grownStack(r)
		first := Lower(s)
		for range 200 {
			p, devices := owned(first), slices.Clone(s.Devices)
			for range 1 + r.Intn(2) {
				changed(r, &p, devices)
			}
			held, heldDevices := fmt.Sprint(p), slices.Clone(devices)
			want := meantRight(p, devices)
			if Right(p, devices) != want {
				t.Fatalf("Right of %v over %v: %v", p, devices, !want)
			}
			if fmt.Sprint(p) != held || !slices.Equal(devices, heldDevices) {
				t.Fatalf("Right changes what is handed in: %s is %v", held, p)
			}
			seen[want]++
		}
	}
	if seen[true] < 3000 || seen[false] < 30000 {
		t.Errorf("right and wrong ones: %v", seen)
	}
}
