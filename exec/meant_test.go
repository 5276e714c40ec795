package exec

import (
	"bytes"
	libaes "crypto/aes"
	libhmac "crypto/hmac"
	"crypto/sha256"
	"encoding/binary"
	"fmt"
	"math/rand"
	"slices"
	"strings"
	"testing"

	"cofferdam/api"
	"cofferdam/area"
	"cofferdam/cache"
	"cofferdam/device"
	"cofferdam/opt"
	"cofferdam/plan"
	"cofferdam/target"
)

// What the chapter says of requests, written a second time: on a world and a list of writes, with ciphers and digests of Go's own library,
// without errors that wrap others, and with every sector read and written anew, however often it is asked for.

// meant is a world on which a plan's requests are done.
type meant struct {
	plan    api.Plan
	world   []api.Content
	same    func(dev int) int // the first number of a device that has several
	written []api.Write       // all of them, in order
	left    int               // how often a sector may still be asked for
}

// do does a request, and tells what was read and what the open group has then.
func (m *meant) do(r api.Request) ([]byte, []api.Write, api.Errno) {
	size := m.plan.Steps[m.plan.Root].Size
	writes := r.Cmd == api.Store || r.Cmd == api.Trim || r.Cmd == api.Zeroes
	switch {
	case r.Cmd == api.Flush:
		return nil, nil, api.OK
	case !writes && r.Cmd != api.Read, r.N < 0, r.N > 16, r.At < 0, r.At > size, r.At+r.N > size:
		return nil, nil, api.ErrArg
	case r.Cmd == api.Store && len(r.Data) != 64*r.N:
		return nil, nil, api.ErrArg
	case writes && m.plan.ReadOnly:
		return nil, nil, api.ErrPerm
	}
	m.written = nil
	var data []byte
	var e api.Errno
	for i := 0; i < r.N && e == api.OK; i++ {
		var b []byte
		switch r.Cmd {
		case api.Read:
			b, e = m.get(m.plan.Root, r.At+i)
			data = append(data, b...)
		case api.Store:
			e = m.put(m.plan.Root, r.At+i, r.Data[64*i:64*i+64])
		default:
			e = m.put(m.plan.Root, r.At+i, make([]byte, 64))
		}
	}
	group := m.group()
	switch {
	case e == api.ErrDead, e == api.OK && len(group) > 200:
		return nil, nil, api.ErrIO
	case e != api.OK:
		return nil, nil, e
	}
	return data, group, api.OK
}

// group is each sector that was written, once, as it was written last, in the order in which they were written first.
func (m *meant) group() []api.Write {
	var l []api.Write
	numbers := map[[2]int]int{}
	for _, w := range m.written {
		at := [2]int{m.same(w.Dev), w.Sector}
		n, is := numbers[at]
		if !is {
			n = len(l)
			numbers[at] = n
			l = append(l, w)
		}
		l[n] = w
	}
	return l
}

// onDevice is what a device's sector holds.
func (m *meant) onDevice(dev, i int) ([]byte, api.Errno) {
	dev = m.same(dev)
	if m.world[dev].Dead {
		return nil, api.ErrDead
	}
	for k := len(m.written) - 1; k >= 0; k-- {
		if w := m.written[k]; m.same(w.Dev) == dev && w.Sector == i {
			return w.Data, api.OK
		}
	}
	if m.world[dev].Bad[i] {
		return nil, api.ErrIO
	}
	return m.world[dev].Sectors[i], api.OK
}

// get is a sector of a step that is read.
func (m *meant) get(step, i int) ([]byte, api.Errno) {
	m.left--
	if m.left < 0 {
		return nil, api.ErrArg // it is asked for too often
	}
	s := m.plan.Steps[step]
	switch s.Kind {
	case api.Disk:
		return m.onDevice(s.Dev, i)
	case api.Concat:
		kid, j := extent(s, i)
		return m.get(kid, j)
	case api.Mirror:
		dead := 0
		for _, kid := range s.Kids {
			b, e := m.get(kid, i)
			if e == api.OK {
				return b, e
			}
			if e == api.ErrDead {
				dead++
			}
		}
		if dead == len(s.Kids) {
			return nil, api.ErrDead
		}
		return nil, api.ErrIO
	case api.Snapshot:
		entry, e := m.entry(s, i/s.Chunk)
		switch {
		case e != api.OK:
			return nil, e
		case entry == 0:
			return m.get(s.Kids[0], i)
		}
		return m.get(s.Kids[1], s.Table+(entry-1)*s.Chunk+i%s.Chunk)
	case api.Crypt:
		b, e := m.get(s.Kids[0], i)
		if e != api.OK {
			return nil, e
		}
		return crypted(s.Key, i, b, false), api.OK
	case api.Integrity:
		return m.getTagged(s, i)
	}
	return m.getShown(s, i)
}

// extent is the step in which a Concat's sector lies, and which one it is there.
func extent(s api.Step, i int) (int, int) {
	for _, x := range s.Extents {
		if i < x.From+x.Count {
			return x.Kid, x.First + i - x.From
		}
	}
	panic("beyond a Concat")
}

// entryOf is an entry in a sector of a table.
func entryOf(sector []byte, chunk int) int {
	return int(binary.BigEndian.Uint32(sector[chunk%16*4:]))
}

// entry is a chunk's: 0, or one of a slot.
func (m *meant) entry(s api.Step, chunk int) (int, api.Errno) {
	sector, e := m.get(s.Kids[1], chunk/16)
	if e != api.OK {
		return 0, e
	}
	if entryOf(sector, chunk) > s.Slots {
		return 0, api.ErrIO
	}
	return entryOf(sector, chunk), api.OK
}

func (m *meant) getTagged(s api.Step, i int) ([]byte, api.Errno) {
	b, e := m.get(s.Kids[0], i)
	if e != api.OK {
		return nil, e
	}
	sector, e := m.get(s.Kids[0], s.Size+i/4)
	if e != api.OK {
		return nil, e
	}
	if !bytes.Equal(sector[i%4*16:i%4*16+16], tagged(s.Key, i, b)) {
		return nil, api.ErrIO
	}
	return b, api.OK
}

func (m *meant) getShown(s api.Step, i int) ([]byte, api.Errno) {
	b, e := m.get(s.Kids[0], i)
	if e != api.OK {
		return nil, e
	}
	shown, mark, place, first := b, byte(0), i, s.Size
	right := true
	for count := s.Size; count > 1 || mark == 0; {
		sector, e := m.get(s.Kids[0], first+place/2)
		if e != api.OK {
			return nil, e
		}
		right = right && bytes.Equal(hashed(mark, shown), sector[place%2*32:place%2*32+32])
		count = (count + 1) / 2
		first += count
		shown, mark, place = sector, 1, place/2
	}
	if !right || !bytes.Equal(hashed(1, shown), s.Root) {
		return nil, api.ErrIO
	}
	return b, api.OK
}

// put writes a sector of a step.
func (m *meant) put(step, i int, b []byte) api.Errno {
	m.left--
	if m.left < 0 {
		return api.ErrArg
	}
	s := m.plan.Steps[step]
	switch s.Kind {
	case api.Disk:
		if m.world[m.same(s.Dev)].Dead {
			return api.ErrDead
		}
		m.written = append(m.written, api.Write{Dev: s.Dev, Sector: i, Data: bytes.Clone(b)})
		return api.OK
	case api.Concat:
		kid, j := extent(s, i)
		return m.put(kid, j, b)
	case api.Mirror:
		passed := 0
		for _, kid := range s.Kids {
			switch e := m.put(kid, i, b); e {
			case api.OK:
			case api.ErrDead:
				passed++
			default:
				return e
			}
		}
		if passed == len(s.Kids) {
			return api.ErrDead
		}
		return api.OK
	case api.Snapshot:
		return m.putSlot(s, i, b)
	case api.Crypt:
		return m.put(s.Kids[0], i, crypted(s.Key, i, b, true))
	case api.Integrity:
		sector, e := m.get(s.Kids[0], s.Size+i/4)
		if e != api.OK {
			return e
		}
		if e := m.put(s.Kids[0], i, b); e != api.OK {
			return e
		}
		sector = bytes.Clone(sector)
		copy(sector[i%4*16:], tagged(s.Key, i, b))
		return m.put(s.Kids[0], s.Size+i/4, sector)
	}
	return api.ErrPerm
}

func (m *meant) putSlot(s api.Step, i int, b []byte) api.Errno {
	entry, e := m.entry(s, i/s.Chunk)
	if e != api.OK {
		return e
	}
	if entry != 0 {
		return m.put(s.Kids[1], s.Table+(entry-1)*s.Chunk+i%s.Chunk, b)
	}
	if e = m.putFirst(s, i, b); e == api.OK || e == api.ErrSpace {
		return e
	}
	return api.ErrIO
}

func (m *meant) putFirst(s api.Step, i int, b []byte) api.Errno {
	var table []byte
	for t := range s.Table {
		sector, e := m.get(s.Kids[1], t)
		if e != api.OK {
			return e
		}
		table = append(table, sector...)
	}
	named := map[int]bool{}
	for chunk := 0; chunk*s.Chunk < s.Size; chunk++ {
		named[entryOf(table[chunk/16*64:], chunk)] = true
	}
	slot := 1
	for named[slot] {
		slot++
	}
	if slot > s.Slots {
		return api.ErrSpace
	}
	chunk := i / s.Chunk
	for k := 0; k < s.Chunk && chunk*s.Chunk+k < s.Size; k++ {
		held := b
		if chunk*s.Chunk+k != i {
			var e api.Errno
			if held, e = m.get(s.Kids[0], chunk*s.Chunk+k); e != api.OK {
				return e
			}
		}
		if e := m.put(s.Kids[1], s.Table+(slot-1)*s.Chunk+k, held); e != api.OK {
			return e
		}
	}
	sector := bytes.Clone(table[chunk/16*64 : chunk/16*64+64])
	binary.BigEndian.PutUint32(sector[chunk%16*4:], uint32(slot))
	return m.put(s.Kids[1], chunk/16, sector)
}

// crypted is a sector sealed, or opened, by AES-XTS with the library's AES.
func crypted(key []byte, i int, b []byte, seal bool) []byte {
	blocks, _ := libaes.NewCipher(key[:16])
	places, _ := libaes.NewCipher(key[16:])
	tweak := make([]byte, 16)
	binary.LittleEndian.PutUint64(tweak, uint64(i))
	places.Encrypt(tweak, tweak)
	var out []byte
	for ; len(b) > 0; b = b[16:] {
		block := make([]byte, 16)
		for j := range block {
			block[j] = b[j] ^ tweak[j]
		}
		if seal {
			blocks.Encrypt(block, block)
		} else {
			blocks.Decrypt(block, block)
		}
		for j := range block {
			block[j] ^= tweak[j]
		}
		out = append(out, block...)
		low, high := binary.LittleEndian.Uint64(tweak), binary.LittleEndian.Uint64(tweak[8:])
		binary.LittleEndian.PutUint64(tweak, low<<1^high>>63*0x87)
		binary.LittleEndian.PutUint64(tweak[8:], high<<1|low>>63)
	}
	return out
}

// tagged is a sector's tag, by the library's HMAC.
func tagged(key []byte, i int, b []byte) []byte {
	h := libhmac.New(sha256.New, key)
	h.Write(binary.BigEndian.AppendUint64(nil, uint64(i)))
	h.Write(b)
	return h.Sum(nil)[:16]
}

// hashed is a sector's hash, by the library's digest.
func hashed(mark byte, b []byte) []byte {
	h := sha256.Sum256(append([]byte{mark}, b...))
	return h[:]
}

// planted is a tree of hashes over data, and its root.
func planted(data []byte) (tree, root []byte) {
	below, mark := data, byte(0)
	for len(below) > 64 || mark == 0 {
		var level []byte
		for ; len(below) > 0; below = below[64:] {
			level = append(level, hashed(mark, below[:64])...)
		}
		level = append(level, make([]byte, len(level)%64)...)
		tree = append(tree, level...)
		below, mark = level, 1
	}
	return tree, hashed(1, below)
}

// tagsOf is the sectors of the tags of data.
func tagsOf(key, data []byte) []byte {
	var all []byte
	for i := 0; 64*i < len(data); i++ {
		all = append(all, tagged(key, i, data[64*i:64*i+64])...)
	}
	return append(all, make([]byte, -len(all)&63)...)
}

// lay lays content from a node's sector on into a world, by hand: whatever lies below it tells just that. Roots become those of what is laid.
// Where a node's sectors hang together the others are noughts.
func lay(s api.Stack, w []api.Content, node, first int, content []byte) {
	p := &s.Parts[node]
	whole := make([]byte, 64*p.Size)
	copy(whole[64*first:], content)
	switch p.Kind {
	case api.Disk:
		for i := range len(content) / 64 {
			w[p.Dev].Sectors[first+i] = bytes.Clone(content[64*i : 64*i+64])
		}
	case api.Linear:
		lay(s, w, p.Kids[0], p.First+first, content)
	case api.Concat:
		for _, kid := range p.Kids {
			size := s.Parts[kid].Size
			if first < size {
				count := min(len(content)/64, size-first)
				lay(s, w, kid, first, content[:64*count])
				content = content[64*count:]
			}
			first = max(0, first-size)
		}
	case api.Mirror:
		for _, kid := range p.Kids {
			lay(s, w, kid, first, content)
		}
	case api.Snapshot:
		lay(s, w, p.Kids[0], first, content)
		lay(s, w, p.Kids[1], 0, make([]byte, 64*s.Parts[p.Kids[1]].Size))
	case api.Crypt:
		var sealed []byte
		for i := range len(content) / 64 {
			sealed = append(sealed, crypted(p.Key, first+i, content[64*i:64*i+64], true)...)
		}
		lay(s, w, p.Kids[0], first, sealed)
	case api.Integrity:
		lay(s, w, p.Kids[0], 0, append(whole, tagsOf(p.Key, whole)...))
	case api.Verity:
		tree, root := planted(whole)
		p.Root = root
		lay(s, w, p.Kids[0], 0, append(whole, tree...))
	}
}

// ran is a plan, the devices that it is run over, and their cache.
type ran struct {
	plan  api.Plan
	disks []*device.Device
	c     *cache.Cache
}

// first is the first number of a device.
func (x *ran) first(dev int) int {
	return slices.Index(x.disks, x.disks[dev])
}

// world is what the cache tells when its open group is dropped: what the devices hold, with the kept groups over it.
func (x *ran) world() []api.Content {
	var w []api.Content
	for _, d := range x.disks {
		c := api.Content{Dead: d.Dead()}
		for i := range d.Size() {
			b, e := d.Read(i)
			if e != api.OK {
				b = nil
			}
			c.Sectors, c.Bad = append(c.Sectors, b), append(c.Bad, d.Bad(i))
		}
		w = append(w, c)
	}
	for _, group := range x.c.Groups() {
		w = x.behind(w, group)
	}
	return w
}

// behind is a world with what a group writes in it.
func (x *ran) behind(w []api.Content, group []api.Write) []api.Content {
	w = listed(w)
	for _, put := range group {
		for dev := range w {
			if x.first(dev) == x.first(put.Dev) {
				w[dev].Sectors[put.Sector], w[dev].Bad[put.Sector] = put.Data, false
			}
		}
	}
	return w
}

// counts is what would be others if a device was written or synced.
func (x *ran) counts() []int {
	var l []int
	for _, d := range x.disks {
		l = append(l, d.Writes(), d.Pending(), d.Moment())
	}
	return l
}

// sameGroups tells whether two lists write the same, in the same order, under whichever of a device's numbers.
func (x *ran) sameGroups(l, m []api.Write) bool {
	return slices.EqualFunc(l, m, func(v, w api.Write) bool {
		return x.first(v.Dev) == x.first(w.Dev) && v.Sector == w.Sector && bytes.Equal(v.Data, w.Data)
	})
}

// asked runs a request, where the cache tells a world when its open group is dropped. It asks for all that is promised, but for what the stack
// means of which the plan is. Where what is meant is not reckoned in so many steps it tells false.
func (x *ran) asked(t *testing.T, w []api.Content, r api.Request, steps int) ([]byte, api.Errno, bool) {
	t.Helper()
	m := &meant{plan: x.plan, world: w, same: x.first, left: steps}
	want, wantGroup, wantErr := m.do(r)
	if m.left < 0 {
		return nil, api.OK, false
	}
	plan, given, kept, counts := owned(x.plan), bytes.Clone(r.Data), x.c.Groups(), x.counts()
	b, e := Run(x.plan, x.c, r)
	what := fmt.Sprintf("%v of %d from %d on, with %d bytes", r.Cmd, r.N, r.At, len(r.Data))
	if e != wantErr || !bytes.Equal(b, want) {
		t.Fatalf("%s: %d bytes, %v; want %d bytes, %v\nplan %v", what, len(b), e, len(want), wantErr, x.plan)
	}
	if g := x.c.Group(); !x.sameGroups(g, wantGroup) {
		t.Fatalf("%s: %v, and the open group has %d writes: %v; want %d: %v\nplan %v", what, e, len(g), g, len(wantGroup), wantGroup, x.plan)
	}
	if !samePlans(plan, x.plan) || !bytes.Equal(given, r.Data) {
		t.Fatalf("%s: what was handed in was changed\nplan %v, it was %v", what, x.plan, plan)
	}
	if !slices.EqualFunc(kept, x.c.Groups(), x.sameGroups) {
		t.Fatalf("%s: what was kept was changed: %v; it was %v", what, x.c.Groups(), kept)
	}
	if now := x.counts(); !slices.Equal(now, counts) {
		t.Fatalf("%s: the devices count %v; they did %v", what, now, counts)
	}
	return b, e, true
}

// enough is how many steps what is meant of a stack's plan is reckoned in, however deep it is.
const enough = 1 << 20

// asStack runs a request on a plan of a stack, and asks that it is done as target says of the stack.
func (x *ran) asStack(t *testing.T, s api.Stack, w []api.Content, r api.Request) ([]api.Content, []byte, api.Errno) {
	t.Helper()
	want, wantData, wantErr := target.Do(s, w, r)
	b, e, _ := x.asked(t, w, r, enough)
	if e != wantErr || !bytes.Equal(b, wantData) {
		t.Fatalf("%v of %d from %d on: %d bytes, %v; of the stack %d bytes, %v\nstack %v\nplan %v", r.Cmd, r.N, r.At, len(b), e, len(wantData), wantErr, s, x.plan)
	}
	if at := differ(x.behind(w, x.c.Group()), want); at != "" {
		t.Fatalf("%v of %d from %d on: %v, and what is behind it is not as the stack means: %s\nstack %v\nplan %v", r.Cmd, r.N, r.At, e, at, s, x.plan)
	}
	return want, b, e
}

// plans are a stack's plan, and what Optimize makes of it.
func plans(s api.Stack) []api.Plan {
	p := plan.Lower(s)
	return []api.Plan{p, opt.Optimize(p)}
}

// spread is devices and a cache over them that tells a world: some of its sectors lie on the devices, some in kept groups, over others that they
// hide, or over bad ones; and the open group has what is to be dropped.
func spread(w []api.Content, seed int) ([]*device.Device, *cache.Cache) {
	r := rand.New(rand.NewSource(int64(seed)))
	var disks []*device.Device
	for _, c := range w {
		d, _ := device.New(len(c.Sectors))
		disks = append(disks, d)
	}
	c, _ := cache.New(disks)
	other := sectors(1, seed)
	var second []api.Write
	for dev, content := range w {
		for i, b := range content.Sectors {
			lies := r.Intn(8)
			switch {
			case content.Bad[i]:
				disks[dev].Spoil(i)
			case lies > 2:
				if !bytes.Equal(b, make([]byte, 64)) {
					disks[dev].Tamper(i, b)
				}
			case lies == 2:
				disks[dev].Tamper(i, other)
				c.Write(dev, i, b)
			case lies == 1:
				disks[dev].Spoil(i)
				c.Write(dev, i, other)
				fallthrough
			default:
				second = append(second, api.Write{Dev: dev, Sector: i, Data: b})
			}
		}
	}
	c.Keep()
	for _, put := range second {
		c.Write(put.Dev, put.Sector, put.Data)
	}
	c.Keep()
	for range r.Intn(6) {
		dev := r.Intn(len(w))
		c.Write(dev, r.Intn(len(w[dev].Sectors)), other)
	}
	for dev, content := range w {
		if content.Dead {
			disks[dev].Kill()
		}
	}
	return disks, c
}

// asMeant runs a request on both plans of a stack, over devices and caches that tell a world each in its own way, and asks that all is as the
// chapter means and as target says of the stack. It tells the world behind the request, what was read, and the error.
func asMeant(t *testing.T, s api.Stack, w []api.Content, r api.Request) ([]api.Content, []byte, api.Errno) {
	t.Helper()
	var behind []api.Content
	var b []byte
	var e api.Errno
	for n, p := range plans(s) {
		x := &ran{plan: p}
		x.disks, x.c = spread(w, 10*r.At+n)
		behind, b, e = x.asStack(t, s, w, r)
	}
	return behind, b, e
}

// listed is a world with lists of its own, of sectors that no one writes into.
func listed(w []api.Content) []api.Content {
	w = slices.Clone(w)
	for dev := range w {
		w[dev].Sectors, w[dev].Bad = slices.Clone(w[dev].Sectors), slices.Clone(w[dev].Bad)
	}
	return w
}

// differ is where two worlds differ; nothing, if they do not. What cannot be read may be anything.
func differ(a, b []api.Content) string {
	if len(a) != len(b) {
		return fmt.Sprintf("%d devices, %d", len(a), len(b))
	}
	for dev := range a {
		if a[dev].Dead != b[dev].Dead || !slices.Equal(a[dev].Bad, b[dev].Bad) || len(a[dev].Sectors) != len(b[dev].Sectors) {
			return fmt.Sprintf("device %d: dead, bad, or how many", dev)
		}
		for i := range a[dev].Sectors {
			if !a[dev].Dead && !a[dev].Bad[i] && !bytes.Equal(a[dev].Sectors[i], b[dev].Sectors[i]) {
				return fmt.Sprintf("device %d, sector %d: %x, %x", dev, i, a[dev].Sectors[i], b[dev].Sectors[i])
			}
		}
	}
	return ""
}

// owned is a plan in memory of its own.
func owned(p api.Plan) api.Plan {
	p.Steps = slices.Clone(p.Steps)
	for i := range p.Steps {
		s := &p.Steps[i]
		s.Extents, s.Kids = slices.Clone(s.Extents), slices.Clone(s.Kids)
		s.Key, s.Root = bytes.Clone(s.Key), bytes.Clone(s.Root)
	}
	return p
}

func samePlans(a, b api.Plan) bool {
	return a.Root == b.Root && a.ReadOnly == b.ReadOnly && slices.EqualFunc(a.Steps, b.Steps, func(a, b api.Step) bool {
		return a.Kind == b.Kind && a.Size == b.Size && a.Dev == b.Dev && slices.Equal(a.Extents, b.Extents) && slices.Equal(a.Kids, b.Kids) &&
			a.Chunk == b.Chunk && a.Table == b.Table && a.Slots == b.Slots && bytes.Equal(a.Key, b.Key) && bytes.Equal(a.Root, b.Root)
	})
}

// grower makes texts of stacks out of pieces of devices that are apart.
type grower struct {
	*rand.Rand
	pieces []piece
}

// piece is an expr and how many sectors it has.
type piece struct {
	text string
	size int
}

// grown is a text: devices, a journal among them, and a volume that is nested so deep at most.
func grown(r *rand.Rand, depth int) string {
	g := &grower{Rand: r}
	var b strings.Builder
	fmt.Fprintf(&b, "key k $%s; key l $%s; root r $%s; ", kHex, lHex, rHex)
	journal := r.Intn(5)
	for i, name := range strings.Split("a b c d e", " ") {
		if i == journal {
			b.WriteString("journal j 256; ")
		}
		size := 6 + r.Intn(50)
		fmt.Fprintf(&b, "device %s %d; ", name, size)
		if r.Intn(3) == 0 {
			g.pieces = append(g.pieces, piece{name, size})
			continue
		}
		cut := 1 + r.Intn(size-1)
		g.pieces = append(g.pieces,
			piece{fmt.Sprintf("linear(%s, 0, %d)", name, cut), cut},
			piece{fmt.Sprintf("linear(%s, %d, %d)", name, cut, size-cut), size - cut})
	}
	r.Shuffle(len(g.pieces), func(i, k int) { g.pieces[i], g.pieces[k] = g.pieces[k], g.pieces[i] })
	end := ""
	if r.Intn(20) == 0 {
		end = " readonly"
	}
	fmt.Fprintf(&b, "volume v = %s; export v%s;", g.expr(depth).text, end)
	return b.String()
}

func (g *grower) expr(depth int) piece {
	if depth <= 1 || len(g.pieces) < 2 {
		p := g.pieces[0]
		if len(g.pieces) > 1 {
			g.pieces = g.pieces[1:]
		}
		return p
	}
	kid := g.expr(depth - 1)
	switch g.Intn(10) {
	case 0:
		first := g.Intn(kid.size)
		count := 1 + g.Intn(kid.size-first)
		return piece{fmt.Sprintf("linear(%s, %d, %d)", kid.text, first, count), count}
	case 1, 2:
		other := g.expr(depth - 1)
		return piece{fmt.Sprintf("concat(%s, %s)", kid.text, other.text), kid.size + other.size}
	case 3, 4:
		other := g.expr(depth - 2)
		size := min(kid.size, other.size)
		return piece{fmt.Sprintf("mirror(%s, %s)", kid.cutTo(size), other.cutTo(size)), size}
	case 5, 6, 7:
		other := g.expr(depth - 1)
		chunk := 1 + g.Intn(5)
		if _, slots := area.Store(other.size, kid.size, chunk); slots > 0 {
			return piece{fmt.Sprintf("snapshot(%s, %s, %d)", kid.text, other.text, chunk), kid.size}
		}
		return kid
	case 8:
		return piece{fmt.Sprintf("crypt(%s, k)", kid.text), kid.size}
	}
	if g.Intn(2) == 0 {
		if size, _ := area.Verity(kid.size); size > 0 {
			return piece{fmt.Sprintf("verity(%s, r)", kid.text), size}
		}
	}
	if size, _ := area.Integrity(kid.size); size > 0 {
		return piece{fmt.Sprintf("integrity(%s, l)", kid.text), size}
	}
	return kid
}

// cutTo is the piece's first sectors.
func (p piece) cutTo(size int) string {
	if size == p.size {
		return p.text
	}
	return fmt.Sprintf("linear(%s, 0, %d)", p.text, size)
}

// grownStack is the stack of a grown text, and a world that is laid for it.
func grownStack(r *rand.Rand) (api.Stack, []api.Content) {
	for {
		if s, e := checkedOf(grown(r, 2+r.Intn(6))); e == api.OK {
			w := noughts(s.Devices)
			lay(s, w, s.Export, 0, sectors(s.Parts[s.Export].Size, r.Int()))
			return s, w
		}
	}
}

// drawn is a request within a volume, or now and then one a little wrong.
func drawn(r *rand.Rand, size int) api.Request {
	at := r.Intn(size)
	n := 1 + r.Intn(min(16, size-at))
	if r.Intn(3) == 0 {
		n = 1
	}
	req := api.Request{Cmd: []api.Cmd{api.Read, api.Read, api.Read, api.Store, api.Store, api.Store, api.Trim, api.Zeroes, api.Flush}[r.Intn(9)], At: at, N: n, FUA: r.Intn(2) == 0}
	if r.Intn(40) == 0 {
		req.N = r.Intn(20) - 2
	}
	if r.Intn(100) == 0 {
		req.Cmd = api.Cmd(r.Intn(10) - 2)
	}
	if req.Cmd == api.Store {
		req.Data = sectors(max(0, req.N), r.Int())
	}
	return req
}

// script is the plans of one stack, each run over devices and a cache of its own: what is done to one is done to all.
type script []*ran

func (l script) each(do func(x *ran)) {
	for _, x := range l {
		do(x)
	}
}

// drawnStep does something to the devices or to the caches: a device dies, a sector goes bad, somebody else writes, a group is kept, dropped, or
// grows, what was kept is applied.
func (l script) drawnStep(r *rand.Rand) {
	dev := r.Intn(len(l[0].disks))
	i := r.Intn(l[0].disks[dev].Size())
	if r.Intn(2) == 0 {
		i = r.Intn(min(8, l[0].disks[dev].Size())) // where tables begin
	}
	field, number, other := r.Intn(16), r.Intn(6), sectors(1, r.Int())
	switch n := r.Intn(120); {
	case n < 1:
		l.each(func(x *ran) { x.disks[dev].Kill() })
	case n < 12:
		l.each(func(x *ran) { x.disks[dev].Spoil(i) })
	case n < 16:
		l.each(func(x *ran) {
			b, _ := x.disks[dev].Read(i)
			if len(b) == 64 {
				binary.BigEndian.PutUint32(b[4*field:], uint32(number))
				x.disks[dev].Tamper(i, b)
			}
		})
	case n < 20:
		l.each(func(x *ran) { x.disks[dev].Tamper(i, other) })
	case n < 60:
		l.each(func(x *ran) { x.c.Keep() })
	case n < 70:
		l.each(func(x *ran) { x.c.Back() })
	case n < 80:
		l.each(func(x *ran) { x.c.Apply() })
	case n < 100:
		l.each(func(x *ran) {
			x.c.Back()
			x.c.Write(dev, i, other)
		})
	}
}
