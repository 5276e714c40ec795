package target

import (
	"bytes"
	libaes "crypto/aes"
	libhmac "crypto/hmac"
	"crypto/sha256"
	"encoding/binary"
	"fmt"
	"math/rand"
	"slices"
	"strings"
	"testing"

	"cofferdam/api"
	"cofferdam/area"
)

// What the chapter says of requests, written a second time: on a world that is written into and laid back where a request fails,
// with ciphers and digests of Go's own library, without errors that wrap others, and with every sector read anew.

// meant is a world on which requests are done.
type meant struct {
	stack   api.Stack
	world   []api.Content
	touched map[[2]int]bool // sectors of devices that the request has written
}

// listed is a world with lists of its own, of sectors that no one writes into.
func listed(w []api.Content) []api.Content {
	w = slices.Clone(w)
	for dev := range w {
		w[dev].Sectors, w[dev].Bad = slices.Clone(w[dev].Sectors), slices.Clone(w[dev].Bad)
	}
	return w
}

// do does a request.
func (m *meant) do(r api.Request) (data []byte, e api.Errno) {
	exported := m.stack.Parts[m.stack.Export]
	writes := r.Cmd == api.Store || r.Cmd == api.Trim || r.Cmd == api.Zeroes
	switch {
	case r.Cmd == api.Flush:
		return nil, api.OK
	case !writes && r.Cmd != api.Read, r.N < 0, r.N > 16, r.At < 0, r.At > exported.Size, r.At+r.N > exported.Size:
		return nil, api.ErrArg
	case r.Cmd == api.Store && len(r.Data) != 64*r.N:
		return nil, api.ErrArg
	case writes && m.stack.ReadOnly:
		return nil, api.ErrPerm
	}
	before := m.world
	m.world = listed(m.world)
	m.touched = map[[2]int]bool{}
	for i := 0; i < r.N && e == api.OK; i++ {
		var b []byte
		switch r.Cmd {
		case api.Read:
			b, e = m.get(m.stack.Export, r.At+i)
			data = append(data, b...)
		case api.Store:
			e = m.put(m.stack.Export, r.At+i, r.Data[64*i:64*i+64])
		default:
			e = m.put(m.stack.Export, r.At+i, make([]byte, 64))
		}
	}
	if e == api.OK && len(m.touched) > 200 || e == api.ErrDead {
		e = api.ErrIO
	}
	if e != api.OK {
		m.world, data = before, nil
	}
	return data, e
}

// get is a sector of a node that is read.
func (m *meant) get(node, i int) ([]byte, api.Errno) {
	p := m.stack.Parts[node]
	switch p.Kind {
	case api.Disk:
		device := m.world[p.Dev]
		if device.Dead {
			return nil, api.ErrDead
		}
		if device.Bad[i] {
			return nil, api.ErrIO
		}
		return bytes.Clone(device.Sectors[i]), api.OK
	case api.Linear:
		return m.get(p.Kids[0], p.First+i)
	case api.Concat:
		kid, j := m.part(p, i)
		return m.get(kid, j)
	case api.Mirror:
		dead := 0
		for _, kid := range p.Kids {
			b, e := m.get(kid, i)
			if e == api.OK {
				return b, e
			}
			if e == api.ErrDead {
				dead++
			}
		}
		if dead == len(p.Kids) {
			return nil, api.ErrDead
		}
		return nil, api.ErrIO
	case api.Snapshot:
		return m.getSnapshot(p, i)
	case api.Crypt:
		b, e := m.get(p.Kids[0], i)
		if e != api.OK {
			return nil, e
		}
		return crypted(p.Key, i, b, false), api.OK
	case api.Integrity:
		return m.getIntegrity(p, i)
	}
	return m.getVerity(p, i)
}

// part is the kid of a concat in which a sector lies, and which one it is there.
func (m *meant) part(p api.Part, i int) (int, int) {
	first := 0
	for _, kid := range p.Kids {
		end := first + m.stack.Parts[kid].Size
		if i < end {
			return kid, i - first
		}
		first = end
	}
	panic("beyond a concat")
}

// shares is how many sectors a snapshot's table has, how many slots it has, how many chunks.
func (m *meant) shares(p api.Part) (table, slots, chunks int) {
	chunks = p.Size / p.Chunk
	if p.Size%p.Chunk != 0 {
		chunks++
	}
	for table*16 < chunks {
		table++
	}
	for slots < chunks && table+(slots+1)*p.Chunk <= m.stack.Parts[p.Kids[1]].Size {
		slots++
	}
	return table, slots, chunks
}

// entryOf is an entry in a sector of a table.
func entryOf(sector []byte, c int) uint32 {
	return binary.BigEndian.Uint32(sector[c%16*4:])
}

func (m *meant) getSnapshot(p api.Part, i int) ([]byte, api.Errno) {
	table, slots, _ := m.shares(p)
	c := i / p.Chunk
	sector, e := m.get(p.Kids[1], c/16)
	if e != api.OK {
		return nil, e
	}
	entry := entryOf(sector, c)
	switch {
	case entry == 0:
		return m.get(p.Kids[0], i)
	case entry <= uint32(slots):
		return m.get(p.Kids[1], table+int(entry-1)*p.Chunk+i%p.Chunk)
	}
	return nil, api.ErrIO
}

func (m *meant) getIntegrity(p api.Part, i int) ([]byte, api.Errno) {
	b, e := m.get(p.Kids[0], i)
	if e != api.OK {
		return nil, e
	}
	sector, e := m.get(p.Kids[0], p.Size+i/4)
	if e != api.OK {
		return nil, e
	}
	if !bytes.Equal(sector[i%4*16:i%4*16+16], tagged(p.Key, i, b)) {
		return nil, api.ErrIO
	}
	return b, api.OK
}

func (m *meant) getVerity(p api.Part, i int) ([]byte, api.Errno) {
	b, e := m.get(p.Kids[0], i)
	if e != api.OK {
		return nil, e
	}
	shown, mark, place, first := b, byte(0), i, p.Size
	right := true
	for count := p.Size; count > 1 || mark == 0; {
		sector, e := m.get(p.Kids[0], first+place/2)
		if e != api.OK {
			return nil, e
		}
		right = right && bytes.Equal(hashed(mark, shown), sector[place%2*32:place%2*32+32])
		count = (count + 1) / 2
		first += count
		shown, mark, place = sector, 1, place/2
	}
	if !right || !bytes.Equal(hashed(1, shown), p.Root) {
		return nil, api.ErrIO
	}
	return b, api.OK
}

// put writes a sector of a node.
func (m *meant) put(node, i int, b []byte) api.Errno {
	p := m.stack.Parts[node]
	switch p.Kind {
	case api.Disk:
		if m.world[p.Dev].Dead {
			return api.ErrDead
		}
		m.world[p.Dev].Sectors[i] = bytes.Clone(b)
		m.world[p.Dev].Bad[i] = false
		m.touched[[2]int{p.Dev, i}] = true
		return api.OK
	case api.Linear:
		return m.put(p.Kids[0], p.First+i, b)
	case api.Concat:
		kid, j := m.part(p, i)
		return m.put(kid, j, b)
	case api.Mirror:
		passed := 0
		for _, kid := range p.Kids {
			switch e := m.put(kid, i, b); e {
			case api.OK:
			case api.ErrDead:
				passed++
			default:
				return e
			}
		}
		if passed == len(p.Kids) {
			return api.ErrDead
		}
		return api.OK
	case api.Snapshot:
		return m.putSnapshot(p, i, b)
	case api.Crypt:
		return m.put(p.Kids[0], i, crypted(p.Key, i, b, true))
	case api.Integrity:
		sector, e := m.get(p.Kids[0], p.Size+i/4)
		if e != api.OK {
			return e
		}
		if e := m.put(p.Kids[0], i, b); e != api.OK {
			return e
		}
		copy(sector[i%4*16:], tagged(p.Key, i, b))
		return m.put(p.Kids[0], p.Size+i/4, sector)
	}
	return api.ErrPerm
}

func (m *meant) putSnapshot(p api.Part, i int, b []byte) api.Errno {
	table, slots, _ := m.shares(p)
	c := i / p.Chunk
	sector, e := m.get(p.Kids[1], c/16)
	if e != api.OK {
		return e
	}
	entry := entryOf(sector, c)
	switch {
	case entry == 0:
		if e := m.putFirst(p, i, b); e == api.OK || e == api.ErrSpace {
			return e
		}
		return api.ErrIO
	case entry <= uint32(slots):
		return m.put(p.Kids[1], table+int(entry-1)*p.Chunk+i%p.Chunk, b)
	}
	return api.ErrIO
}

func (m *meant) putFirst(p api.Part, i int, b []byte) api.Errno {
	table, slots, chunks := m.shares(p)
	named := map[uint32]bool{}
	var own []byte
	c := i / p.Chunk
	for t := 0; t < table; t++ {
		sector, e := m.get(p.Kids[1], t)
		if e != api.OK {
			return e
		}
		for k := 16 * t; k < min(16*t+16, chunks); k++ {
			named[entryOf(sector, k)] = true
		}
		if t == c/16 {
			own = sector
		}
	}
	slot := 1
	for named[uint32(slot)] {
		slot++
	}
	if slot > slots {
		return api.ErrSpace
	}
	for k := 0; k < p.Chunk && c*p.Chunk+k < p.Size; k++ {
		held := b
		if c*p.Chunk+k != i {
			var e api.Errno
			if held, e = m.get(p.Kids[0], c*p.Chunk+k); e != api.OK {
				return e
			}
		}
		if e := m.put(p.Kids[1], table+(slot-1)*p.Chunk+k, held); e != api.OK {
			return e
		}
	}
	binary.BigEndian.PutUint32(own[c%16*4:], uint32(slot))
	return m.put(p.Kids[1], c/16, own)
}

// crypted is a sector sealed, or opened, by AES-XTS with the library's AES.
func crypted(key []byte, i int, b []byte, seal bool) []byte {
	blocks, _ := libaes.NewCipher(key[:16])
	places, _ := libaes.NewCipher(key[16:])
	tweak := make([]byte, 16)
	binary.LittleEndian.PutUint64(tweak, uint64(i))
	places.Encrypt(tweak, tweak)
	var out []byte
	for ; len(b) > 0; b = b[16:] {
		block := make([]byte, 16)
		for j := range block {
			block[j] = b[j] ^ tweak[j]
		}
		if seal {
			blocks.Encrypt(block, block)
		} else {
			blocks.Decrypt(block, block)
		}
		for j := range block {
			block[j] ^= tweak[j]
		}
		out = append(out, block...)
		low, high := binary.LittleEndian.Uint64(tweak), binary.LittleEndian.Uint64(tweak[8:])
		binary.LittleEndian.PutUint64(tweak, low<<1^high>>63*0x87)
		binary.LittleEndian.PutUint64(tweak[8:], high<<1|low>>63)
	}
	return out
}

// tagged is a sector's tag, by the library's HMAC.
func tagged(key []byte, i int, b []byte) []byte {
	h := libhmac.New(sha256.New, key)
	h.Write(binary.BigEndian.AppendUint64(nil, uint64(i)))
	h.Write(b)
	return h.Sum(nil)[:16]
}

// hashed is a sector's hash, by the library's digest.
func hashed(mark byte, b []byte) []byte {
	h := sha256.Sum256(append([]byte{mark}, b...))
	return h[:]
}

// planted is a tree of hashes over data, and its root.
func planted(data []byte) (tree, root []byte) {
	below, mark := data, byte(0)
	for len(below) > 64 || mark == 0 {
		var level []byte
		for ; len(below) > 0; below = below[64:] {
			level = append(level, hashed(mark, below[:64])...)
		}
		level = append(level, make([]byte, len(level)%64)...)
		tree = append(tree, level...)
		below, mark = level, 1
	}
	return tree, hashed(1, below)
}

// tagsOf is the sectors of the tags of data.
func tagsOf(key, data []byte) []byte {
	var all []byte
	for i := 0; 64*i < len(data); i++ {
		all = append(all, tagged(key, i, data[64*i:64*i+64])...)
	}
	return append(all, make([]byte, -len(all)&63)...)
}

// lay lays content from a node's sector on into a world, by hand: whatever lies below it tells just that. Roots become those of what is laid.
// Where a node's sectors hang together the others are noughts.
func lay(s api.Stack, w []api.Content, node, first int, content []byte) {
	p := &s.Parts[node]
	whole := make([]byte, 64*p.Size)
	switch p.Kind {
	case api.Disk:
		for i := range len(content) / 64 {
			w[p.Dev].Sectors[first+i] = bytes.Clone(content[64*i : 64*i+64])
		}
	case api.Linear:
		lay(s, w, p.Kids[0], p.First+first, content)
	case api.Concat:
		for _, kid := range p.Kids {
			size := s.Parts[kid].Size
			if first < size {
				count := min(len(content)/64, size-first)
				lay(s, w, kid, first, content[:64*count])
				content = content[64*count:]
			}
			first = max(0, first-size)
		}
	case api.Mirror:
		for _, kid := range p.Kids {
			lay(s, w, kid, first, content)
		}
	case api.Snapshot:
		lay(s, w, p.Kids[0], first, content)
		lay(s, w, p.Kids[1], 0, make([]byte, 64*s.Parts[p.Kids[1]].Size))
	case api.Crypt:
		var sealed []byte
		for i := range len(content) / 64 {
			sealed = append(sealed, crypted(p.Key, first+i, content[64*i:64*i+64], true)...)
		}
		lay(s, w, p.Kids[0], first, sealed)
	case api.Integrity:
		copy(whole[64*first:], content)
		lay(s, w, p.Kids[0], 0, append(whole, tagsOf(p.Key, whole)...))
	case api.Verity:
		copy(whole[64*first:], content)
		tree, root := planted(whole)
		p.Root = root
		lay(s, w, p.Kids[0], 0, append(whole, tree...))
	}
}

// laid is a text's stack, and a world in which the exported node tells content that a seed makes, which is told too.
func laid(t *testing.T, text string, seed int) (api.Stack, []api.Content, []byte) {
	t.Helper()
	s := stackOf(t, text)
	w := noughts(s)
	content := sectors(s.Parts[s.Export].Size, seed)
	lay(s, w, s.Export, 0, content)
	return s, w, content
}

// asMeant does a request, and asks that all it tells is what the chapter means; what is handed in stays as it is. It tells the world
// behind the request, and its error.
func asMeant(t *testing.T, s api.Stack, w []api.Content, r api.Request) ([]api.Content, api.Errno) {
	t.Helper()
	m := &meant{stack: s, world: w}
	worldHeld, dataHeld := copied(w), bytes.Clone(r.Data)
	want, wantErr := m.do(r)
	behind, b, e := Do(s, w, r)
	if e != wantErr || !bytes.Equal(b, want) {
		t.Fatalf("%v of %d from %d on: %d bytes, %v; want %d bytes, %v\nstack %v", r.Cmd, r.N, r.At, len(b), e, len(want), wantErr, s)
	}
	if at := differ(behind, m.world); at != "" {
		t.Fatalf("%v of %d from %d on: %v, and the world is not the one that is meant: %s\nstack %v", r.Cmd, r.N, r.At, e, at, s)
	}
	if differ(w, worldHeld) != "" || !bytes.Equal(r.Data, dataHeld) {
		t.Fatalf("%v of %d from %d on: what was handed in was changed", r.Cmd, r.N, r.At)
	}
	return behind, e
}

// grower makes texts of stacks out of pieces of devices that are apart.
type grower struct {
	*rand.Rand
	pieces []piece
}

// piece is an expr and how many sectors it has.
type piece struct {
	text string
	size int
}

// grown is a text: devices, a journal among them, and a volume that is nested so deep at most.
func grown(r *rand.Rand, depth int) string {
	g := &grower{Rand: r}
	var b strings.Builder
	fmt.Fprintf(&b, "key k $%s; key l $%s; root r $%s; journal j 256; ", kHex, lHex, rHex)
	for _, name := range strings.Split("a b c d e f g", " ") {
		size := 6 + r.Intn(60)
		fmt.Fprintf(&b, "device %s %d; ", name, size)
		if r.Intn(3) == 0 {
			g.pieces = append(g.pieces, piece{name, size})
			continue
		}
		cut := 1 + r.Intn(size-1)
		g.pieces = append(g.pieces,
			piece{fmt.Sprintf("linear(%s, 0, %d)", name, cut), cut},
			piece{fmt.Sprintf("linear(%s, %d, %d)", name, cut, size-cut), size - cut})
	}
	r.Shuffle(len(g.pieces), func(i, j int) { g.pieces[i], g.pieces[j] = g.pieces[j], g.pieces[i] })
	end := ""
	if r.Intn(20) == 0 {
		end = " readonly"
	}
	fmt.Fprintf(&b, "volume v = %s; export v%s;", g.expr(depth).text, end)
	return b.String()
}

func (g *grower) expr(depth int) piece {
	if depth <= 1 || len(g.pieces) < 2 {
		p := g.pieces[0]
		if len(g.pieces) > 1 {
			g.pieces = g.pieces[1:]
		}
		return p
	}
	kid := g.expr(depth - 1)
	switch g.Intn(10) {
	case 0:
		first := g.Intn(kid.size)
		count := 1 + g.Intn(kid.size-first)
		return piece{fmt.Sprintf("linear(%s, %d, %d)", kid.text, first, count), count}
	case 1, 2:
		other := g.expr(depth - 1)
		return piece{fmt.Sprintf("concat(%s, %s)", kid.text, other.text), kid.size + other.size}
	case 3, 4:
		other := g.expr(depth - 2)
		size := min(kid.size, other.size)
		return piece{fmt.Sprintf("mirror(%s, %s)", kid.cutTo(size), other.cutTo(size)), size}
	case 5, 6, 7:
		other := g.expr(depth - 1)
		chunk := 1 + g.Intn(5)
		if _, slots := area.Store(other.size, kid.size, chunk); slots > 0 {
			return piece{fmt.Sprintf("snapshot(%s, %s, %d)", kid.text, other.text, chunk), kid.size}
		}
		return kid
	case 8:
		return piece{fmt.Sprintf("crypt(%s, k)", kid.text), kid.size}
	}
	if g.Intn(2) == 0 {
		if size, _ := area.Verity(kid.size); size > 0 {
			return piece{fmt.Sprintf("verity(%s, r)", kid.text), size}
		}
	}
	if size, _ := area.Integrity(kid.size); size > 0 {
		return piece{fmt.Sprintf("integrity(%s, l)", kid.text), size}
	}
	return kid
}

// cutTo is the piece's first sectors.
func (p piece) cutTo(size int) string {
	if size == p.size {
		return p.text
	}
	return fmt.Sprintf("linear(%s, 0, %d)", p.text, size)
}

// grownStack is the stack of a grown text, and a world that is laid for it.
func grownStack(t *testing.T, r *rand.Rand) (api.Stack, []api.Content) {
	t.Helper()
	for {
		text := grown(r, 2+r.Intn(6))
		if s, e := checkedOf(text); e == api.OK {
			w := noughts(s)
			lay(s, w, s.Export, 0, sectors(s.Parts[s.Export].Size, r.Int()))
			return s, w
		}
	}
}

// drawn is a request within the exported node, or now and then one a little wrong.
func drawn(r *rand.Rand, size int) api.Request {
	at := r.Intn(size)
	n := 1 + r.Intn(min(16, size-at))
	if r.Intn(3) == 0 {
		n = 1
	}
	req := api.Request{Cmd: []api.Cmd{api.Read, api.Read, api.Store, api.Store, api.Store, api.Trim, api.Zeroes, api.Flush}[r.Intn(8)], At: at, N: n, FUA: r.Intn(2) == 0}
	if r.Intn(40) == 0 {
		req.N = r.Intn(20) - 2
	}
	if req.Cmd == api.Store {
		req.Data = sectors(max(0, req.N), r.Int())
	}
	return req
}

// drawnFault changes a world in place: a device dies, a sector goes bad; if tampered, somebody else writes.
func drawnFault(r *rand.Rand, w []api.Content, tampered bool) {
	dev := 1 + r.Intn(len(w)-1) // grown texts name the journal first
	c := &w[dev]
	i := r.Intn(len(c.Sectors))
	if r.Intn(2) == 0 {
		i = r.Intn(min(8, len(c.Sectors))) // where tables begin
	}
	switch n := r.Intn(100); {
	case n < 1:
		c.Dead = true
	case n < 20:
		c.Bad[i] = true
	case n < 23 && tampered:
		b := bytes.Clone(c.Sectors[i])
		b[r.Intn(64)] ^= byte(1 + r.Intn(255))
		c.Sectors[i] = b
	case n < 26 && tampered:
		b := bytes.Clone(c.Sectors[i])
		binary.BigEndian.PutUint32(b[4*r.Intn(16):], uint32(r.Intn(6)))
		c.Sectors[i] = b
	}
}

// P14.1 (V1), P14.3: on stacks of all kinds, nested at random, on devices that die, go bad and are tampered with, request by request.
func TestAsMeant(t *testing.T) {
	t.Parallel()
	r := rand.New(rand.NewSource(14))
	told := map[string]int{}
	for range 700 {
		s, w := grownStack(t, r)
		for _, p := range s.Parts {
			told[fmt.Sprint("kind ", p.Kind)]++
		}
		for range 60 {
			for range r.Intn(3) {
				drawnFault(r, w, true)
			}
			req := drawn(r, s.Parts[s.Export].Size)
			var e api.Errno
			w, e = asMeant(t, s, w, req)
			told[fmt.Sprint(req.Cmd, " ", e)]++
		}
	}
	for _, kind := range []api.Kind{api.Disk, api.Linear, api.Concat, api.Mirror, api.Snapshot, api.Crypt, api.Integrity, api.Verity} {
		if told[fmt.Sprint("kind ", kind)] < 100 {
			t.Errorf("of kind %v too few were tried: %v", kind, told)
		}
	}
	for _, cmd := range []api.Cmd{api.Store, api.Trim, api.Zeroes} {
		for _, e := range []api.Errno{api.OK, api.ErrArg, api.ErrPerm, api.ErrIO, api.ErrSpace} {
			if told[fmt.Sprint(cmd, " ", e)] < 20 {
				t.Errorf("%v of %v was told too seldom: %v", e, cmd, told)
			}
		}
	}
}

// P14.2 (last written): where devices die and sectors go bad, and nobody else writes, each sector that is read is what was written last, or
// what it was read as first.
func TestLastWritten(t *testing.T) {
	t.Parallel()
	r := rand.New(rand.NewSource(142))
	again := 0
	for range 600 {
		s, w := grownStack(t, r)
		last := map[int][]byte{}
		for range 80 {
			for range r.Intn(2) {
				drawnFault(r, w, false)
			}
			req := drawn(r, s.Parts[s.Export].Size)
			behind, b, e := Do(s, w, req)
			if e != api.OK {
				continue
			}
			w = behind
			switch req.Cmd {
			case api.Flush:
				continue
			case api.Store:
				b = req.Data
			case api.Trim, api.Zeroes:
				b = make([]byte, 64*req.N)
			}
			for i := range req.N {
				sector := b[64*i : 64*i+64]
				known, is := last[req.At+i]
				if req.Cmd == api.Read && is && !bytes.Equal(sector, known) {
					t.Fatalf("sector %d is read as %x; it was %x last\nstack %v", req.At+i, sector, known, s)
				}
				if req.Cmd == api.Read && is {
					again++
				}
				last[req.At+i] = sector
			}
		}
	}
	if again < 10000 {
		t.Errorf("only %d sectors were read again", again)
	}
}

// differ is where two worlds differ; nothing, if they do not.
func differ(a, b []api.Content) string {
	if len(a) != len(b) {
		return fmt.Sprintf("%d devices, %d", len(a), len(b))
	}
	for dev := range a {
		if a[dev].Dead != b[dev].Dead || !slices.Equal(a[dev].Bad, b[dev].Bad) || len(a[dev].Sectors) != len(b[dev].Sectors) {
			return fmt.Sprintf("device %d: dead, bad, or how many", dev)
		}
		for i := range a[dev].Sectors {
			if !bytes.Equal(a[dev].Sectors[i], b[dev].Sectors[i]) {
				return fmt.Sprintf("device %d, sector %d: %x, %x", dev, i, a[dev].Sectors[i], b[dev].Sectors[i])
			}
		}
	}
	return ""
}
