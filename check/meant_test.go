package check

import (
	"encoding/hex"
	"fmt"
	"math/rand"
	"slices"
	"strings"
	"testing"

	"cofferdam/api"
	"cofferdam/area"
	"cofferdam/parse"
)

// verdict is a fault and its place.
type verdict struct {
	e  api.Errno
	at int
}

var fine = verdict{api.OK, -1}

// reader follows T1 to T3 a second time, with neither a panic nor one table of all names.
type reader struct {
	stack     api.Stack
	disks     []string // names, in order
	journals  []string
	keys      []string
	roots     []string
	volumes   []string
	exports   []int // places
	nodes     map[string]int
	secrets   map[string][]byte
	unwritten map[int]int // nodes that are read only, as keys
}

// meant is a tree's stack, or its fault.
func meant(n api.Node) (api.Stack, verdict) {
	if !parse.Right(n) {
		return api.Stack{}, verdict{api.ErrParse, 0}
	}
	m := &reader{nodes: map[string]int{}, secrets: map[string][]byte{}, unwritten: map[int]int{}}
	number := 0
	for _, statement := range n.L {
		if statement.Op == "device" {
			m.stack.Parts = append(m.stack.Parts, disk(number, statement.N))
		}
		if statement.Op == "device" || statement.Op == "journal" {
			number++
		}
	}
	for _, statement := range n.L {
		if v := m.statement(statement); v != fine {
			return api.Stack{}, v
		}
	}
	if len(m.journals) == 0 || len(m.exports) == 0 {
		return api.Stack{}, verdict{api.ErrExport, 0}
	}
	var regions [][3]int
	for r := range regionsOf(m.stack, m.stack.Export, 0, m.stack.Parts[m.stack.Export].Size) {
		if regions = append(regions, r); len(regions) > 256 {
			return api.Stack{}, verdict{api.ErrMany, m.exports[0]}
		}
	}
	taken := map[[2]int]int{}
	for _, r := range regions {
		for i := range r[2] {
			if taken[[2]int{r[0], r[1] + i}]++; taken[[2]int{r[0], r[1] + i}] > 1 {
				return api.Stack{}, verdict{api.ErrOverlap, m.exports[0]}
			}
		}
	}
	return m.stack, fine
}

// statement is a statement's fault.
func (m *reader) statement(n api.Node) verdict {
	if n.Op == "export" {
		return m.export(n)
	}
	for _, names := range [][]string{m.disks, m.journals, m.keys, m.roots, m.volumes} {
		if slices.Contains(names, n.S) {
			return verdict{api.ErrTwice, n.At}
		}
	}
	switch n.Op {
	case "device", "journal":
		if len(m.disks)+len(m.journals) >= 8 {
			return verdict{api.ErrMany, n.At}
		}
		if n.N < 1 || n.N > 2048 || n.Op == "journal" && n.N < 256 {
			return verdict{api.ErrSize, n.At}
		}
		if n.Op == "journal" && len(m.journals) > 0 {
			return verdict{api.ErrExport, n.At}
		}
		if n.Op == "journal" {
			m.stack.Journal = len(m.stack.Devices)
			m.journals = append(m.journals, n.S)
		} else {
			m.nodes[n.S] = len(m.disks)
			m.disks = append(m.disks, n.S)
		}
		m.stack.Devices = append(m.stack.Devices, n.N)
	case "key", "root":
		if len(m.keys)+len(m.roots) >= 8 {
			return verdict{api.ErrMany, n.At}
		}
		if len(n.L[0].S) != 64 {
			return verdict{api.ErrShape, n.At}
		}
		m.secrets[n.S], _ = hex.DecodeString(n.L[0].S)
		if n.Op == "key" {
			m.keys = append(m.keys, n.S)
		} else {
			m.roots = append(m.roots, n.S)
		}
	case "volume":
		if len(m.volumes) >= 16 {
			return verdict{api.ErrMany, n.At}
		}
		node, v := m.expr(n.L[0])
		if v != fine {
			return v
		}
		m.nodes[n.S] = node
		m.volumes = append(m.volumes, n.S)
	}
	return fine
}

// export is an export's fault.
func (m *reader) export(n api.Node) verdict {
	if len(m.exports) > 0 {
		return verdict{api.ErrExport, n.At}
	}
	node, v := m.used(n)
	if v != fine {
		return v
	}
	m.exports = append(m.exports, n.At)
	_, fixed := m.unwritten[node]
	m.stack.Export, m.stack.ReadOnly = node, n.N == 1 || fixed
	return fine
}

// used is the node of a name, or its fault.
func (m *reader) used(n api.Node) (int, verdict) {
	if slices.Contains(m.disks, n.S) || slices.Contains(m.volumes, n.S) {
		return m.nodes[n.S], fine
	}
	if slices.Contains(m.journals, n.S) || slices.Contains(m.keys, n.S) || slices.Contains(m.roots, n.S) {
		return 0, verdict{api.ErrKind, n.At}
	}
	return 0, verdict{api.ErrName, n.At}
}

// expr is an expr's node, or its fault.
func (m *reader) expr(n api.Node) (int, verdict) {
	if n.Op == "use" {
		return m.used(n)
	}
	exprs := n.L
	switch n.Op {
	case "linear":
		exprs = n.L[:1]
	case "snapshot":
		exprs = n.L[:2]
	case "crypt", "integrity", "verity":
		exprs = n.L[:1]
	}
	var kids []int
	for _, inner := range exprs {
		kid, v := m.expr(inner)
		if v != fine {
			return 0, v
		}
		kids = append(kids, kid)
	}
	if len(m.stack.Parts) >= 64 {
		return 0, verdict{api.ErrMany, n.At}
	}
	p, v := m.part(n, kids)
	if v != fine {
		return 0, v
	}
	for i, kid := range kids {
		if _, fixed := m.unwritten[kid]; fixed && (p.Kind != api.Snapshot || i == 1) || p.Kind == api.Verity {
			m.unwritten[len(m.stack.Parts)] = 1
		}
	}
	m.stack.Parts = append(m.stack.Parts, p)
	return len(m.stack.Parts) - 1, fine
}

// part is an expr's own Part, or its fault.
func (m *reader) part(n api.Node, kids []int) (api.Part, verdict) {
	size := func(i int) int { return m.stack.Parts[kids[i]].Size }
	wrong := func(e api.Errno) (api.Part, verdict) { return api.Part{}, verdict{e, n.At} }
	switch n.Op {
	case "linear":
		if n.L[2].N == 0 || n.L[1].N+n.L[2].N > size(0) {
			return wrong(api.ErrSize)
		}
		return linear(n.L[1].N, n.L[2].N, kids[0]), fine
	case "concat", "mirror":
		if len(kids) < 2 || len(kids) > 4 {
			return wrong(api.ErrShape)
		}
		all := 0
		for i := range kids {
			if all += size(i); n.Op == "mirror" && size(i) != size(0) {
				return wrong(api.ErrSize)
			}
		}
		if n.Op == "mirror" {
			return mirror(size(0), kids...), fine
		}
		if all > 8192 {
			return wrong(api.ErrSize)
		}
		return concat(all, kids...), fine
	case "snapshot":
		if _, slots := area.Store(size(1), size(0), n.L[2].N); slots == 0 {
			return wrong(api.ErrSize)
		}
		if _, fixed := m.unwritten[kids[1]]; fixed {
			return wrong(api.ErrReadOnly)
		}
		return snapshot(n.L[2].N, size(0), kids[0], kids[1]), fine
	}
	return m.secured(n, kids[0], size(0))
}

// secured is the Part of an expr with a key or a root, or its fault.
func (m *reader) secured(n api.Node, kid, size int) (api.Part, verdict) {
	name := n.L[1]
	wanted, other := m.keys, m.roots
	if n.Op == "verity" {
		wanted, other = m.roots, m.keys
	}
	if !slices.Contains(wanted, name.S) {
		if slices.Contains(other, name.S) || slices.Contains(m.disks, name.S) || slices.Contains(m.volumes, name.S) || slices.Contains(m.journals, name.S) {
			return api.Part{}, verdict{api.ErrKind, name.At}
		}
		return api.Part{}, verdict{api.ErrName, name.At}
	}
	b := m.secrets[name.S]
	if n.Op == "crypt" {
		if string(b[:16]) == string(b[16:]) {
			return api.Part{}, verdict{api.ErrShape, n.At}
		}
		return crypt(b, size, kid), fine
	}
	p := verity(b, 0, kid)
	p.Size, _ = area.Verity(size)
	if n.Op == "integrity" {
		p = integrity(b, 0, kid)
		p.Size, _ = area.Integrity(size)
	}
	if p.Size == 0 {
		return api.Part{}, verdict{api.ErrSize, n.At}
	}
	return p, fine
}

// held asks that Check tells of a tree what is meant, and of a stack all of P13.2; it tells the error.
func held(t *testing.T, n api.Node) api.Errno {
	t.Helper()
	want, v := meant(n)
	stack, e, at := Check(n)
	if (verdict{e, at}) != v || !sameStacks(stack, want) {
		s, _ := parse.Print(n)
		t.Errorf("Check of %q: %v, %v at %d; want %v, %v at %d", s, stack, e, at, want, v.e, v.at)
	} else if e == api.OK {
		s, _ := parse.Print(n)
		wholeAsked(t, s, stack)
	}
	return e
}

// sized is a text that stands for so many sectors.
type sized struct {
	text string
	size int
}

// writer writes texts by chance; one choice in so many is wrong.
type writer struct {
	r     *rand.Rand
	odds  int
	sizes []int // of which most devices are
	large bool  // whether there are so many statements that limits are met
	texts []string
	names int
	nodes []sized // names that may be used
	keys  []string
	roots []string
}

func (w *writer) slips() bool { return w.r.Intn(w.odds) == 0 }

// name is a new name, or one that may have been given.
func (w *writer) name() string {
	if w.slips() {
		return fmt.Sprintf("n%d", w.r.Intn(w.names+1))
	}
	w.names++
	return fmt.Sprintf("n%d", w.names)
}

// use is one of the nodes, which is mostly not taken again.
func (w *writer) use() sized {
	if len(w.nodes) == 0 || w.slips() {
		return sized{fmt.Sprintf("n%d", w.r.Intn(w.names+2)), 1 + w.r.Intn(20)}
	}
	i := w.r.Intn(len(w.nodes))
	node := w.nodes[i]
	if w.r.Intn(4) > 0 {
		w.nodes = slices.Delete(w.nodes, i, i+1)
	}
	return node
}

// secret is the name of a key or a root.
func (w *writer) secret(names []string) string {
	if len(names) == 0 || w.slips() {
		return fmt.Sprintf("n%d", w.r.Intn(w.names+2))
	}
	return names[w.r.Intn(len(names))]
}

// expr is an expr, and how many sectors it stands for, if it is right.
func (w *writer) expr(nest int) sized {
	if nest == 12 || w.r.Intn(5) < 2 {
		return w.use()
	}
	kid := w.expr(nest + 1)
	switch w.r.Intn(7) {
	case 0:
		from := w.r.Intn(kid.size)
		return w.cut(kid, from, 1+w.r.Intn(kid.size-from))
	case 1:
		kids := w.kids(kid, nest)
		all := 0
		for _, k := range kids {
			all += k.size
		}
		return sized{"concat(" + joined(kids) + ")", all}
	case 2:
		return w.mirror(w.kids(kid, nest))
	case 3:
		store := w.expr(nest + 1)
		chunk := 1 + w.r.Intn(16)
		if _, slots := area.Store(store.size, kid.size, chunk); slots == 0 {
			chunk = 1
		}
		return sized{fmt.Sprintf("snapshot(%s, %s, %d)", kid.text, store.text, chunk), kid.size}
	case 4:
		return sized{"crypt(" + kid.text + ", " + w.secret(w.keys) + ")", kid.size}
	case 5:
		data, _ := area.Integrity(kid.size)
		return sized{"integrity(" + kid.text + ", " + w.secret(w.keys) + ")", max(data, 1)}
	}
	data, _ := area.Verity(kid.size)
	return sized{"verity(" + kid.text + ", " + w.secret(w.roots) + ")", max(data, 1)}
}

// cut is a linear.
func (w *writer) cut(kid sized, from, count int) sized {
	if w.slips() {
		count = []int{0, kid.size - from + 1, kid.size - from}[w.r.Intn(3)]
	}
	return sized{fmt.Sprintf("linear(%s, %d, %d)", kid.text, from, count), max(count, 1)}
}

// kids is one and more of them: two to four in all, but for slips.
func (w *writer) kids(kid sized, nest int) []sized {
	kids := []sized{kid}
	more := 1 + w.r.Intn(2)*w.r.Intn(3)
	if w.slips() {
		more = w.r.Intn(6)
	}
	for range more {
		kids = append(kids, w.expr(nest+1))
	}
	return kids
}

func joined(kids []sized) string {
	var l []string
	for _, kid := range kids {
		l = append(l, kid.text)
	}
	return strings.Join(l, ", ")
}

// mirror is a mirror of as much of each kid as all have.
func (w *writer) mirror(kids []sized) sized {
	size := kids[0].size
	for _, kid := range kids {
		size = min(size, kid.size)
	}
	for i, kid := range kids {
		if kid.size > size && !w.slips() {
			kids[i] = w.cut(kid, w.r.Intn(kid.size-size+1), size)
		}
	}
	return sized{"mirror(" + joined(kids) + ")", size}
}

// figures are those of a key or a root.
func (w *writer) figures() string {
	b := make([]byte, 32)
	w.r.Read(b)
	s := hex.EncodeToString(b)
	if w.slips() {
		return s[:32] + s[:32]
	}
	if w.slips() {
		return s[:1+w.r.Intn(63)]
	}
	return s
}

func (w *writer) device() {
	size := w.sizes[w.r.Intn(len(w.sizes))]
	if w.slips() {
		size = []int{0, 1, 2047, 2048, 2049}[w.r.Intn(5)]
	}
	name := w.name()
	w.say("device %s %d;", name, size)
	w.nodes = append(w.nodes, sized{name, max(size, 1)})
}

func (w *writer) journal() {
	size := 256 + w.r.Intn(1793)
	if w.slips() {
		size = []int{0, 255, 256, 2048, 2049}[w.r.Intn(5)]
	}
	w.say("journal %s %d;", w.name(), size)
}

func (w *writer) volume() {
	e := w.expr(1)
	name := w.name()
	w.say("volume %s = %s;", name, e.text)
	w.nodes = append(w.nodes, sized{name, e.size}, sized{name, e.size})
}

func (w *writer) key() {
	name := w.name()
	w.say("key %s $%s;", name, w.figures())
	w.keys = append(w.keys, name)
}

func (w *writer) root() {
	name := w.name()
	w.say("root %s $%s;", name, w.figures())
	w.roots = append(w.roots, name)
}

func (w *writer) export() {
	node := w.use()
	if len(w.nodes) > 0 && !w.slips() {
		node = w.nodes[len(w.nodes)-1]
	}
	w.say("export %s%s;", node.text, []string{"", "", " readonly"}[w.r.Intn(3)])
}

// say writes a statement.
func (w *writer) say(form string, args ...any) { w.texts = append(w.texts, fmt.Sprintf(form, args...)) }

// write writes statements.
func (w *writer) write() {
	few := func(n int) int { return w.r.Intn(n + 1) }
	devices, keys, volumes, others := 2+few(4), 1, few(4), few(2)
	if w.large {
		devices, keys, volumes, others = 5+few(2), few(4), 8+few(8), few(4)
	}
	for range devices {
		w.device()
	}
	for range keys {
		w.key()
		w.root()
	}
	steps := []func(){w.journal, w.export}
	for range volumes {
		steps = append(steps, w.volume)
	}
	for range others {
		steps = append(steps, []func(){w.device, w.key, w.root, w.volume, w.volume}[w.r.Intn(5)])
	}
	if w.slips() {
		steps = append(steps, []func(){w.journal, w.export}[w.r.Intn(2)])
	}
	w.r.Shuffle(len(steps), func(i, k int) { steps[i], steps[k] = steps[k], steps[i] })
	for _, step := range steps {
		if !w.slips() {
			step()
		}
	}
}

// tree is the tree of what was written, which may be longer than a text; false, if it is nested too deep.
func (w *writer) tree() (api.Node, bool) {
	w.write()
	n := api.Node{Op: "file"}
	behind := 0
	for _, text := range w.texts {
		one, e, _ := parse.Parse(text)
		if e != api.OK {
			return n, false
		}
		shift(&one.L[0], behind)
		behind += len(text)
		n.L = append(n.L, one.L[0])
	}
	return n, true
}

// shift makes all places of a tree greater.
func shift(n *api.Node, by int) {
	n.At += by
	for i := range n.L {
		shift(&n.L[i], by)
	}
}

// P13.1, P13.2: trees by chance, right ones and wrong ones, held against what is meant; then with statements in other places, gone, or there twice.
func TestByChance(t *testing.T) {
	r := rand.New(rand.NewSource(13))
	seen := map[api.Errno]int{}
	for range 6000 {
		w := &writer{r: r, odds: []int{20, 100, 1000}[r.Intn(3)], sizes: []int{1, 2, 3, 5, 8, 10, 16, 17, 40, 100, 500, 2048}, large: r.Intn(3) == 0}
		n, ok := w.tree()
		if !ok || len(n.L) == 0 {
			continue
		}
		seen[held(t, n)]++
		for range 2 {
			i, k := r.Intn(len(n.L)), r.Intn(len(n.L))
			swapped := slices.Clone(n.L)
			swapped[i], swapped[k] = swapped[k], swapped[i]
			for _, l := range [][]api.Node{swapped, slices.Delete(slices.Clone(n.L), i, i+1), slices.Insert(slices.Clone(n.L), i, n.L[k])} {
				seen[held(t, api.Node{Op: "file", L: l})]++
			}
		}
		if t.Failed() {
			return
		}
	}
	for _, e := range []api.Errno{api.OK, api.ErrName, api.ErrTwice, api.ErrKind, api.ErrSize, api.ErrShape, api.ErrOverlap, api.ErrMany, api.ErrExport, api.ErrReadOnly} {
		if seen[e] < 20 {
			t.Errorf("%v was seen %d times", e, seen[e])
		}
	}
	if seen[api.OK] < 1000 {
		t.Errorf("%d right texts were seen", seen[api.OK])
	}
}

// sectorsOf are the sectors of devices on which one sector of a node lies.
func sectorsOf(s api.Stack, part, i int, into map[[2]int]int) {
	p := s.Parts[part]
	whole := func(kid int) {
		for i := range s.Parts[kid].Size {
			sectorsOf(s, kid, i, into)
		}
	}
	switch p.Kind {
	case api.Disk:
		into[[2]int{p.Dev, i}] = 1
	case api.Snapshot:
		sectorsOf(s, p.Kids[0], i, into)
		whole(p.Kids[1])
	case api.Integrity, api.Verity:
		whole(p.Kids[0])
	case api.Concat:
		k := 0
		for ; i >= s.Parts[p.Kids[k]].Size; k++ {
			i -= s.Parts[p.Kids[k]].Size
		}
		sectorsOf(s, p.Kids[k], i, into)
	default:
		for _, kid := range p.Kids {
			sectorsOf(s, kid, p.First+i, into)
		}
	}
}

// P13.1 (T4): Regions of stacks by chance: all nodes, some of their sectors, held against T4 and against single sectors.
func TestRegionsByChance(t *testing.T) {
	r := rand.New(rand.NewSource(14))
	seen := 0
	for range 1500 {
		w := &writer{r: r, odds: 100000, sizes: []int{2, 3, 5, 8, 10, 16, 17, 25}}
		n, _ := w.tree()
		stack, e, _ := Check(n)
		if e != api.OK {
			continue
		}
		for part, p := range stack.Parts {
			first := r.Intn(p.Size)
			count := 1 + r.Intn(p.Size-first)
			regionsAsked(t, stack, part, 0, p.Size)
			regionsAsked(t, stack, part, first, count)
			if p.Kind == api.Disk {
				continue
			}
			seen++
			single := map[[2]int]int{}
			for i := range count {
				sectorsOf(stack, part, first+i, single)
			}
			for _, region := range Regions(stack, part, first, count) {
				for i := range region[2] {
					sector := [2]int{region[0], region[1] + i}
					if single[sector] == 0 {
						t.Errorf("Regions of %v, %d, %d, %d: %v is none of its sectors", stack, part, first, count, sector)
					}
					single[sector]++
				}
			}
			for sector, times := range single {
				if times == 1 {
					t.Errorf("Regions of %v, %d, %d, %d: without %v", stack, part, first, count, sector)
				}
			}
		}
		if t.Failed() {
			return
		}
	}
	if seen < 300 {
		t.Errorf("%d nodes were seen", seen)
	}
}

// P2, rule 4: the same again, whatever was asked between; a tree is not written into; no answer shares memory with another.
func TestSameAgain(t *testing.T) {
	s := ground + "volume v = crypt(integrity(a, k), k); volume w = crypt(b, k); export v;"
	n := tree(t, s)
	printed, _ := parse.Print(n)
	want := groundStack(false, integrity(kBytes, 8, 0), crypt(kBytes, 8, 3), crypt(kBytes, 20, 1))
	want.Export = 4
	for range 3 {
		stack, _, _ := Check(n)
		if !sameStacks(stack, want) {
			t.Errorf("%v; want %v", stack, want)
		}
		stack.Parts[4].Key[0] ^= 1 // the keys of two Parts are not one list either
		if stack.Parts[3].Key[0] != 0 || stack.Parts[5].Key[0] != 0 {
			t.Errorf("%v", stack)
		}
		stack.Parts[4].Key[0] ^= 1
		regions := Regions(stack, 4, 0, 1)
		regions[0] = [3]int{9, 9, 9}
		if r := Regions(stack, 4, 0, 1); !slices.Equal(r, [][3]int{{0, 0, 10}}) || !sameStacks(stack, want) {
			t.Errorf("%v of %v", r, stack)
		}
		clear(stack.Parts[:cap(stack.Parts)])
		clear(stack.Devices)
		faultAsked(t, ground+"volume v = mirror(a, @x);", api.ErrName)
		if now, e := parse.Print(n); e != api.OK || now != printed {
			t.Errorf("the tree is now %q", now)
		}
	}
	spare := append(slices.Clone(n.L), api.Node{Op: "wrong"})
	if stack, e, _ := Check(api.Node{Op: "file", L: spare[:len(n.L)]}); e != api.OK || !sameStacks(stack, want) || spare[len(n.L)].Op != "wrong" {
		t.Errorf("%v, %v", stack, e)
	}
}

// A fault of the program does not pass for one of its input.
func TestOtherPanics(t *testing.T) {
	defer func() {
		if recover() == nil {
			t.Error("a panic that is no fault of a tree was kept back")
		}
	}()
	checked(nil, tree(t, ground+"export a;"))
}
