package opt

import (
	"bytes"
	"math/rand"
	"slices"
	"testing"

	"cofferdam/api"
	"cofferdam/area"
	"cofferdam/check"
	"cofferdam/codec"
	"cofferdam/hmac"
	"cofferdam/merkle"
	"cofferdam/parse"
	"cofferdam/plan"
	"cofferdam/xts"
)

// lies is where a sector lies: in which step, and which one it is there.
type lies struct{ step, sector int }

// meant follows Z1 a second time, sector by sector: of each Concat it is reckoned where each of its sectors lies, in a step that is none, and
// what goes on there makes one extent. What lies below the Root is told from the last step to the first one.
func meant(p api.Plan) api.Plan {
	p = owned(p)
	sectors := make([][]lies, len(p.Steps)) // of Concats
	places := make([]int, len(p.Steps))
	for i := range p.Steps {
		st := &p.Steps[i]
		places[i] = i
		for k, kid := range st.Kids {
			st.Kids[k] = places[kid]
		}
		if st.Kind != api.Concat {
			continue
		}
		for _, x := range st.Extents {
			for sector := x.First; sector < x.First+x.Count; sector++ {
				if at := sectors[x.Kid]; at != nil {
					sectors[i] = append(sectors[i], at[sector])
				} else {
					sectors[i] = append(sectors[i], lies{x.Kid, sector})
				}
			}
		}
		st.Extents = runs(sectors[i])
		if x := st.Extents[0]; len(st.Extents) == 1 && x.First == 0 && x.Count == p.Steps[x.Kid].Size {
			places[i] = x.Kid
		}
	}
	p.Root = places[p.Root]
	return without(p, belowRoot(p))
}

// runs are the extents that sectors make.
func runs(l []lies) []api.Extent {
	var out []api.Extent
	for i, at := range l {
		if i == 0 || at.step != l[i-1].step || at.sector != l[i-1].sector+1 {
			out = append(out, api.Extent{From: i, Kid: at.step, First: at.sector})
		}
		out[len(out)-1].Count++
	}
	return out
}

// belowRoot tells of each step whether it lies below the Root, or is it.
func belowRoot(p api.Plan) []bool {
	below := make([]bool, len(p.Steps))
	below[p.Root] = true
	for i := len(p.Steps) - 1; i >= 0; i-- {
		if below[i] {
			for _, kid := range p.Steps[i].Kids {
				below[kid] = true
			}
			for _, x := range p.Steps[i].Extents {
				below[x.Kid] = true
			}
		}
	}
	return below
}

// without is a plan of just the steps that stay. The plan's lists are its own.
func without(p api.Plan, stay []bool) api.Plan {
	for i := len(p.Steps) - 1; i >= 0; i-- {
		if stay[i] {
			continue
		}
		p.Steps = slices.Delete(p.Steps, i, i+1)
		down := func(number *int) {
			if *number > i {
				*number--
			}
		}
		down(&p.Root)
		for s := range p.Steps {
			for k := range p.Steps[s].Kids {
				down(&p.Steps[s].Kids[k])
			}
			for k := range p.Steps[s].Extents {
				down(&p.Steps[s].Extents[k].Kid)
			}
		}
	}
	return p
}

// owned is a plan in memory of its own.
func owned(p api.Plan) api.Plan {
	p.Steps = slices.Clone(p.Steps)
	for i := range p.Steps {
		st := &p.Steps[i]
		st.Extents, st.Kids = slices.Clone(st.Extents), slices.Clone(st.Kids)
		st.Key, st.Root = bytes.Clone(st.Key), bytes.Clone(st.Root)
	}
	return p
}

func sameSteps(a, b api.Step) bool {
	return a.Kind == b.Kind && a.Size == b.Size && a.Dev == b.Dev && slices.Equal(a.Extents, b.Extents) && slices.Equal(a.Kids, b.Kids) &&
		a.Chunk == b.Chunk && a.Table == b.Table && a.Slots == b.Slots && bytes.Equal(a.Key, b.Key) && bytes.Equal(a.Root, b.Root)
}

func samePlans(a, b api.Plan) bool {
	return slices.EqualFunc(a.Steps, b.Steps, sameSteps) && a.Root == b.Root && a.ReadOnly == b.ReadOnly
}

// rightButLong tells whether a plan is right, but for how many extents its Concats have: in the place of one with more than 1000, whose extents
// are looked at here, stands a disk.
func rightButLong(p api.Plan, devices []int) bool {
	p, devices = owned(p), slices.Clone(devices)
	sizes := slices.Clone(p.Steps)
	for i, st := range p.Steps {
		if st.Kind != api.Concat || len(st.Extents) <= 1000 {
			continue
		}
		end := 0
		for _, x := range st.Extents {
			if x.Kid < 0 || x.Kid >= i || x.From != end || x.Count < 1 || x.First < 0 || x.First+x.Count > sizes[x.Kid].Size {
				return false
			}
			end += x.Count
		}
		st.Extents = nil
		if end != st.Size || !sameSteps(st, api.Step{Kind: api.Concat, Size: end}) {
			return false
		}
		p.Steps[i] = disk(len(devices), end)
		devices = append(devices, end)
	}
	return plan.Right(p, devices)
}

// leftToDo is what of P16.3 does not hold of a plan; nothing, if all does.
func leftToDo(p api.Plan) string {
	if slices.Contains(belowRoot(p), false) {
		return "a step does not lie below the root"
	}
	for _, st := range p.Steps {
		for i, x := range st.Extents {
			kid := p.Steps[x.Kid]
			switch {
			case kid.Kind == api.Concat:
				return "an extent's kid is a Concat"
			case i > 0 && x.Kid == st.Extents[i-1].Kid && x.First == st.Extents[i-1].First+st.Extents[i-1].Count:
				return "two neighbours could be joined"
			case x.Count == st.Size && x.Count == kid.Size:
				return "a Concat is all of one kid"
			}
		}
	}
	return ""
}

// promisedAsked asks all that is promised of what is told of a plan that is right, and tells it.
func promisedAsked(t *testing.T, what string, p api.Plan, devices []int) api.Plan {
	t.Helper()
	held := owned(p)
	q := Optimize(p)
	if !samePlans(p, held) {
		t.Fatalf("%s: what was handed in was %v, and is %v", what, held, p)
	}
	if want := meant(p); !samePlans(q, want) {
		t.Fatalf("%s: %v\nwant %v\nof %v", what, q, want, p)
	}
	if !rightButLong(q, devices) || len(q.Steps) > len(p.Steps) {
		t.Fatalf("%s: not right, or of more steps: %v\nof %v", what, q, p)
	}
	if left := leftToDo(q); left != "" {
		t.Fatalf("%s: %s: %v\nof %v", what, left, q, p)
	}
	if again := Optimize(q); !samePlans(again, q) {
		t.Fatalf("%s: done again %v is %v", what, q, again)
	}
	return q
}

// stacked is a plan as a stack that means just what its steps say: each step is a node, and each of its extents a Linear.
func stacked(p api.Plan, devices []int) api.Stack {
	s := api.Stack{Devices: devices, Journal: -1, ReadOnly: p.ReadOnly}
	var nodes []int // which one each step is
	put := func(part api.Part) int {
		s.Parts = append(s.Parts, part)
		return len(s.Parts) - 1
	}
	for _, st := range p.Steps {
		part := api.Part{Kind: st.Kind, Size: st.Size, Dev: st.Dev, Chunk: st.Chunk, Key: st.Key, Root: st.Root}
		for _, kid := range st.Kids {
			part.Kids = append(part.Kids, nodes[kid])
		}
		for _, x := range st.Extents {
			part.Kids = append(part.Kids, put(api.Part{Kind: api.Linear, Size: x.Count, Kids: []int{nodes[x.Kid]}, First: x.First}))
		}
		nodes = append(nodes, put(part))
	}
	s.Export = nodes[p.Root]
	return s
}

// sectors is so many sectors, none like another one; another seed makes others.
func sectors(n, seed int) []byte {
	b := make([]byte, 64*n)
	rand.New(rand.NewSource(int64(seed))).Read(b)
	return b
}

// noughts is a world of noughts.
func noughts(devices []int) []api.Content {
	var w []api.Content
	for _, size := range devices {
		c := api.Content{Bad: make([]bool, size)}
		for range size {
			c.Sectors = append(c.Sectors, make([]byte, 64))
		}
		w = append(w, c)
	}
	return w
}

// lay lays content from a step's sector on into a world, by hand: if nothing else lies there, whatever is below the step tells just that. Roots
// become those of what is laid. Where a step's sectors hang together the others are noughts.
func lay(p api.Plan, w []api.Content, step, first int, content []byte) {
	st := &p.Steps[step]
	whole := make([]byte, 64*st.Size)
	copy(whole[64*first:], content)
	switch st.Kind {
	case api.Disk:
		for i := range len(content) / 64 {
			w[st.Dev].Sectors[first+i] = bytes.Clone(content[64*i : 64*i+64])
		}
	case api.Concat:
		for _, x := range st.Extents {
			from, to := max(x.From, first), min(x.From+x.Count, first+len(content)/64)
			if from < to {
				lay(p, w, x.Kid, x.First+from-x.From, content[64*(from-first):64*(to-first)])
			}
		}
	case api.Mirror:
		for _, kid := range st.Kids {
			lay(p, w, kid, first, content)
		}
	case api.Snapshot:
		lay(p, w, st.Kids[0], first, content)
		lay(p, w, st.Kids[1], 0, make([]byte, 64*p.Steps[st.Kids[1]].Size))
	case api.Crypt:
		c, _ := xts.New(st.Key)
		var sealed []byte
		for i := range len(content) / 64 {
			b, _ := c.Seal(uint64(first+i), content[64*i:64*i+64])
			sealed = append(sealed, b...)
		}
		lay(p, w, st.Kids[0], first, sealed)
	case api.Integrity:
		var tags []byte
		for i := range st.Size {
			tag := hmac.Tag(st.Key, i, whole[64*i:64*i+64])
			tags = append(tags, tag[:]...)
		}
		lay(p, w, st.Kids[0], 0, slices.Concat(whole, tags, make([]byte, -len(tags)&63)))
	case api.Verity:
		tree, root, _ := merkle.Build(whole)
		st.Root = root[:]
		lay(p, w, st.Kids[0], 0, append(whole, tree...))
	}
}

// lowered is the plan of a text that has a stack, and how many sectors its devices have.
func lowered(t *testing.T, text string) (api.Plan, []int) {
	t.Helper()
	n, e, _ := parse.Parse(text)
	s, e2, _ := check.Check(n)
	if e != api.OK || e2 != api.OK {
		t.Fatalf("%q: %v, %v", text, e, e2)
	}
	return plan.Lower(s), s.Devices
}

// grower makes plans by chance. Of each step it knows how many sectors of devices one of it may cost at most, and makes none beyond a limit.
type grower struct {
	*rand.Rand
	api.Plan
	devices []int
	costs   []int
	limit   int
}

// grown is a plan of a few disks and so many steps, most of them Concats, with a Root by chance.
func grown(r *rand.Rand, steps, limit int) (api.Plan, []int) {
	g := &grower{Rand: r, limit: limit}
	for i := range 1 + r.Intn(4) {
		size := 1 + r.Intn(30)
		g.devices = append(g.devices, size)
		g.put(disk(i, size), 1)
	}
	for range steps {
		g.grow()
	}
	g.Root = len(g.Steps) - 1
	if r.Intn(4) == 0 {
		g.Root = r.Intn(len(g.Steps))
	}
	g.ReadOnly = r.Intn(8) == 0
	return g.Plan, g.devices
}

func (g *grower) put(st api.Step, cost int) {
	if cost <= g.limit {
		g.Steps, g.costs = append(g.Steps, st), append(g.costs, cost)
	}
}

// kid is the number of a step, one of the last ones more often than others.
func (g *grower) kid() int {
	if g.Intn(2) == 0 {
		return max(0, len(g.Steps)-1-g.Intn(4))
	}
	return g.Intn(len(g.Steps))
}

func (g *grower) grow() {
	kid := g.kid()
	size, cost := g.Steps[kid].Size, g.costs[kid]
	switch g.Intn(20) {
	case 0, 1:
		g.growMirror(kid)
	case 2, 3:
		store, chunk := g.kid(), 1+g.Intn(4)
		if table, slots := area.Store(g.Steps[store].Size, size, chunk); slots > 0 {
			g.put(snapshot(chunk, size, table, slots, kid, store), chunk*cost+(table+chunk+1)*g.costs[store])
		}
	case 4:
		g.put(crypt(kBytes, size, kid), cost)
	case 5:
		if data, _ := area.Integrity(size); data > 0 {
			g.put(integrity(kBytes, data, kid), 3*cost)
		}
	case 6:
		if data, _ := area.Verity(size); data > 0 {
			g.put(verity(rBytes, data, kid), (1+len(merkle.Levels(data)))*cost)
		}
	default:
		g.growConcat()
	}
}

// growMirror puts a Mirror of a step, and of others of its Size, if there are.
func (g *grower) growMirror(kid int) {
	kids, cost := []int{kid}, g.costs[kid]
	for _, other := range g.Perm(len(g.Steps)) {
		if g.Steps[other].Size == g.Steps[kid].Size && len(kids) < 4 && g.Intn(3) > 0 {
			kids, cost = append(kids, other), cost+g.costs[other]
		}
	}
	g.put(mirror(g.Steps[kid].Size, kids...), cost)
}

// growConcat puts a Concat: of all of a kid, in one piece or in some; or of pieces of kids, which often go on where the one ahead of them ends.
func (g *grower) growConcat() {
	var parts [][3]int
	kid := g.kid()
	size := g.Steps[kid].Size
	pieces := 1 + g.Intn(5)
	if g.Intn(4) == 0 {
		for at := 0; at < size; {
			count := 1 + g.Intn(size-at)
			parts = append(parts, [3]int{kid, at, count})
			at += count
		}
		pieces = g.Intn(2)
	}
	cost := g.costs[kid]
	for range pieces {
		first := 0
		if n := len(parts); n > 0 && g.Intn(2) == 0 {
			kid, first = parts[n-1][0], parts[n-1][1]+parts[n-1][2]
		} else if kid = g.kid(); g.Intn(2) == 0 {
			first = g.Intn(g.Steps[kid].Size)
		}
		left := g.Steps[kid].Size - first
		if left == 0 {
			continue
		}
		count := left
		if g.Intn(3) > 0 {
			count = 1 + g.Intn(left)
		}
		parts = append(parts, [3]int{kid, first, count})
		cost = max(cost, g.costs[kid])
	}
	if st := concat(parts...); st.Size > 0 && st.Size <= 400 {
		g.put(st, cost)
	}
}

// drawn is a request within a volume, or now and then one a little wrong.
func drawn(r *rand.Rand, size int) api.Request {
	at := r.Intn(size)
	n := 1 + r.Intn(min(16, size-at))
	if r.Intn(3) == 0 {
		n = 1
	}
	req := api.Request{Cmd: []api.Cmd{api.Read, api.Read, api.Store, api.Store, api.Trim, api.Zeroes, api.Flush}[r.Intn(7)], At: at, N: n}
	if r.Intn(40) == 0 {
		req.N = r.Intn(20) - 2
	}
	if req.Cmd == api.Store {
		req.Data = sectors(max(0, req.N), r.Int())
	}
	return req
}

// hurt is a world in which now and then a device has died, a sector has gone bad, or somebody else has written one.
func hurt(r *rand.Rand, w []api.Content) []api.Content {
	w = slices.Clone(w)
	c := &w[r.Intn(len(w))]
	c.Sectors, c.Bad = slices.Clone(c.Sectors), slices.Clone(c.Bad)
	i := r.Intn(len(c.Sectors))
	switch n := r.Intn(100); {
	case n < 1:
		c.Dead = true
	case n < 10:
		c.Bad[i] = true
	case n < 13:
		c.Sectors[i], _ = codec.SetNumber(c.Sectors[i], r.Intn(16), r.Intn(6))
	}
	return w
}

// differ tells whether two worlds differ.
func differ(a, b []api.Content) bool {
	return !slices.EqualFunc(a, b, func(a, b api.Content) bool {
		return a.Dead == b.Dead && slices.Equal(a.Bad, b.Bad) && slices.EqualFunc(a.Sectors, b.Sectors, bytes.Equal)
	})
}
