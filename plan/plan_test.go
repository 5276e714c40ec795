package plan

import (
	"bytes"
	"fmt"
	"math"
	"slices"
	"strings"
	"testing"

	"cofferdam/api"
)

// Figures of keys, and of a root.
const (
	kHex = "000102030405060708090a0b0c0d0e0f101112131415161718191a1b1c1d1e1f"
	lHex = "fedcba98765432100123456789abcdefffffffffffffffffffffffffffffffff"
	rHex = "a0a1a2a3a4a5a6a7a8a9aaabacadaeafb0b1b2b3b4b5b6b7b8b9babbbcbdbebf"
)

// What these figures stand for.
var (
	kBytes = []byte{0, 1, 2, 3, 4, 5, 6, 7, 8, 9, 10, 11, 12, 13, 14, 15, 16, 17, 18, 19, 20, 21, 22, 23, 24, 25, 26, 27, 28, 29, 30, 31}
	lBytes = []byte{0xfe, 0xdc, 0xba, 0x98, 0x76, 0x54, 0x32, 0x10, 1, 0x23, 0x45, 0x67, 0x89, 0xab, 0xcd, 0xef,
		255, 255, 255, 255, 255, 255, 255, 255, 255, 255, 255, 255, 255, 255, 255, 255}
	rBytes = []byte{160, 161, 162, 163, 164, 165, 166, 167, 168, 169, 170, 171, 172, 173, 174, 175,
		176, 177, 178, 179, 180, 181, 182, 183, 184, 185, 186, 187, 188, 189, 190, 191}
)

// ground is what most texts here stand on: the steps 0 to 3 are a, b, c and d, of 10, 20, 40 and 20 sectors, on the devices 0, 2, 3 and 4.
const ground = "device a 10; journal j 256; device b 20; device c 40; device d 20; key k $" + kHex + "; key l $" + lHex + "; root r $" + rHex + "; "

// groundSizes are the devices of ground.
var groundSizes = []int{10, 256, 20, 40, 20}

// groundPlan is the plan of ground, with more steps, of which the last one is the root.
func groundPlan(more ...api.Step) api.Plan {
	steps := append([]api.Step{disk(0, 10), disk(2, 20), disk(3, 40), disk(4, 20)}, more...)
	return api.Plan{Steps: steps, Root: len(steps) - 1}
}

// kinds are exprs over ground, of each kind, alone and within others.
var kinds = []string{
	"a",
	"linear(c, 3, 30)",
	"linear(b, 0, 20)",
	"concat(a, b)",
	"concat(linear(a, 0, 5), b, linear(c, 7, 6))",
	"concat(a, b, c, d)",
	"mirror(b, d)",
	"snapshot(a, b, 1)",
	"snapshot(c, b, 3)",
	"snapshot(linear(c, 1, 37), b, 16)",
	"crypt(b, k)",
	"integrity(b, k)",
	"verity(c, r)",
	"linear(linear(c, 3, 30), 5, 20)",
	"linear(concat(a, linear(b, 2, 3), c), 8, 20)",
	"linear(crypt(b, k), 7, 13)",
	"linear(integrity(c, k), 2, 25)",
	"linear(snapshot(c, b, 2), 1, 38)",
	"concat(mirror(linear(a, 0, 7), linear(b, 0, 7)), crypt(c, l))",
	"concat(concat(a, b), concat(linear(c, 0, 9), d))",
	"concat(snapshot(a, b, 4), integrity(c, k))",
	"mirror(concat(linear(a, 0, 8), linear(b, 0, 12)), crypt(d, k))",
	"mirror(snapshot(d, c, 2), b)",
	"mirror(mirror(b, d), mirror(linear(c, 0, 20), linear(c, 20, 20)))",
	"snapshot(mirror(b, d), c, 5)",
	"snapshot(concat(linear(a, 0, 9), linear(b, 0, 9)), concat(linear(c, 0, 11), linear(d, 0, 11)), 4)",
	"snapshot(snapshot(a, b, 3), snapshot(d, c, 1), 2)",
	"snapshot(crypt(b, k), integrity(c, l), 3)",
	"snapshot(verity(c, r), b, 2)",
	"crypt(crypt(concat(b, d), k), l)",
	"crypt(snapshot(d, c, 4), k)",
	"integrity(crypt(d, k), l)",
	"integrity(mirror(b, d), k)",
	"integrity(integrity(c, k), l)",
	"integrity(concat(linear(a, 0, 7), linear(b, 0, 17)), k)",
	"verity(crypt(concat(a, b), k), r)",
	"verity(snapshot(c, d, 4), r)",
	"verity(verity(concat(b, c), r), r)",
	"mirror(verity(d, r), linear(c, 4, 9))",
}

func disk(dev, size int) api.Step { return api.Step{Kind: api.Disk, Size: size, Dev: dev} }

// concat has extents that follow one another, each so many sectors of a kid from one on: (kid, first, count).
func concat(parts ...[3]int) api.Step {
	st := api.Step{Kind: api.Concat}
	for _, p := range parts {
		st.Extents = append(st.Extents, api.Extent{From: st.Size, Count: p[2], Kid: p[0], First: p[1]})
		st.Size += p[2]
	}
	return st
}

func mirror(size int, kids ...int) api.Step {
	return api.Step{Kind: api.Mirror, Size: size, Kids: kids}
}

func snapshot(chunk, size, table, slots, origin, store int) api.Step {
	return api.Step{Kind: api.Snapshot, Size: size, Kids: []int{origin, store}, Chunk: chunk, Table: table, Slots: slots}
}

func crypt(key []byte, size, kid int) api.Step {
	return api.Step{Kind: api.Crypt, Size: size, Kids: []int{kid}, Key: key}
}

func integrity(key []byte, size, kid int) api.Step {
	return api.Step{Kind: api.Integrity, Size: size, Kids: []int{kid}, Key: key}
}

func verity(root []byte, size, kid int) api.Step {
	return api.Step{Kind: api.Verity, Size: size, Kids: []int{kid}, Root: root}
}

func sameSteps(a, b api.Step) bool {
	return a.Kind == b.Kind && a.Size == b.Size && a.Dev == b.Dev && slices.Equal(a.Extents, b.Extents) && slices.Equal(a.Kids, b.Kids) &&
		a.Chunk == b.Chunk && a.Table == b.Table && a.Slots == b.Slots && bytes.Equal(a.Key, b.Key) && bytes.Equal(a.Root, b.Root)
}

func samePlans(a, b api.Plan) bool {
	return slices.EqualFunc(a.Steps, b.Steps, sameSteps) && a.Root == b.Root && a.ReadOnly == b.ReadOnly
}

// planAsked asks that a text's stack has this plan, and that it is right.
func planAsked(t *testing.T, text string, want api.Plan) {
	t.Helper()
	s := stackOf(t, text)
	p := Lower(s)
	if !samePlans(p, want) {
		t.Errorf("Lower of %q:\n%v; want\n%v", text, p, want)
	}
	if !Right(p, s.Devices) {
		t.Errorf("Lower of %q is not right: %v", text, p)
	}
}

// rightAsked asks whether a plan is right.
func rightAsked(t *testing.T, what string, p api.Plan, devices []int, want bool) {
	t.Helper()
	if Right(p, devices) != want {
		t.Errorf("%s: Right is %v: %v over %v", what, !want, p, devices)
	}
	if meantRight(p, devices) != want {
		t.Errorf("%s: it is not meant to be %v: %v over %v", what, want, p, devices)
	}
}

// P15.1 (P1): a node of each kind, with all fields of its step.
func TestKinds(t *testing.T) {
	for expr, want := range map[string]api.Plan{
		"linear(b, 5, 10)":   groundPlan(concat([3]int{1, 5, 10})),
		"linear(a, 0, 10)":   groundPlan(concat([3]int{0, 0, 10})),
		"linear(c, 39, 1)":   groundPlan(concat([3]int{2, 39, 1})),
		"concat(a, c)":       groundPlan(concat([3]int{0, 0, 10}, [3]int{2, 0, 40})),
		"concat(d, a, b, c)": groundPlan(concat([3]int{3, 0, 20}, [3]int{0, 0, 10}, [3]int{1, 0, 20}, [3]int{2, 0, 40})),
		"mirror(b, d)":       groundPlan(mirror(20, 1, 3)),
		"mirror(d, b)":       groundPlan(mirror(20, 3, 1)),
		"snapshot(a, b, 4)":  groundPlan(snapshot(4, 10, 1, 3, 0, 1)),
		"snapshot(c, a, 3)":  groundPlan(snapshot(3, 40, 1, 3, 2, 0)),
		"snapshot(c, b, 1)":  groundPlan(snapshot(1, 40, 3, 17, 2, 1)),
		"crypt(b, k)":        groundPlan(crypt(kBytes, 20, 1)),
		"crypt(c, l)":        groundPlan(crypt(lBytes, 40, 2)),
		"integrity(a, k)":    groundPlan(integrity(kBytes, 8, 0)),
		"integrity(c, l)":    groundPlan(integrity(lBytes, 32, 2)),
	} {
		planAsked(t, ground+"volume v = "+expr+"; export v;", want)
		want.ReadOnly = true
		planAsked(t, ground+"volume v = "+expr+"; export v readonly;", want)
	}
	for expr, want := range map[string]api.Plan{
		"verity(a, r)":            groundPlan(verity(rBytes, 4, 0)),
		"verity(b, r)":            groundPlan(verity(rBytes, 9, 1)),
		"crypt(verity(a, r), k)":  groundPlan(verity(rBytes, 4, 0), crypt(kBytes, 4, 4)),
		"concat(verity(b, r), a)": groundPlan(verity(rBytes, 9, 1), concat([3]int{4, 0, 9}, [3]int{0, 0, 10})),
	} {
		want.ReadOnly = true // its node is, whatever its export says
		planAsked(t, ground+"volume v = "+expr+"; export v;", want)
	}
}

// P15.1 (P1): nodes within others, in order: each step stands behind its kids, under its node's number.
func TestNested(t *testing.T) {
	planAsked(t, ground+"volume v = integrity(crypt(mirror(linear(b, 3, 8), linear(c, 0, 8)), l), k); export v;", groundPlan(
		concat([3]int{1, 3, 8}), concat([3]int{2, 0, 8}), mirror(8, 4, 5), crypt(lBytes, 8, 6), integrity(kBytes, 6, 7)))
	planAsked(t, ground+"volume v = snapshot(verity(concat(a, linear(b, 0, 9)), r), integrity(c, k), 16); export v;", groundPlan(
		concat([3]int{1, 0, 9}), concat([3]int{0, 0, 10}, [3]int{4, 0, 9}), verity(rBytes, 8, 5), integrity(kBytes, 32, 2), snapshot(16, 8, 1, 1, 6, 7)))
	planAsked(t, ground+"volume v = linear(linear(concat(linear(a, 2, 3), b), 1, 20), 4, 5); export v;", groundPlan(
		concat([3]int{0, 2, 3}), concat([3]int{4, 0, 3}, [3]int{1, 0, 20}), concat([3]int{5, 1, 20}), concat([3]int{6, 4, 5})))
}

// P15.1 (P1): Root is the exported node, wherever it stands; steps of what is not below it are there too.
func TestRoots(t *testing.T) {
	for i, name := range []string{"a", "b", "c", "d"} {
		want := groundPlan()
		want.Root = i
		planAsked(t, ground+"export "+name+";", want)
		planAsked(t, ground+"volume v = "+name+"; export v;", want)
		want.ReadOnly = true
		planAsked(t, ground+"export "+name+" readonly;", want)
	}
	// volumes used by others, and twice
	want := groundPlan(crypt(kBytes, 10, 0), mirror(10, 4, 4), concat([3]int{4, 2, 3}), concat([3]int{6, 0, 3}, [3]int{4, 0, 10}, [3]int{4, 0, 10}))
	for root, name := range map[int]string{2: "c", 4: "v", 6: "x"} {
		want.Root = root
		planAsked(t, ground+"volume v = crypt(a, k); volume w = mirror(v, v); volume x = linear(v, 2, 3); volume y = concat(x, v, v); export "+name+";", want)
	}
	planAsked(t, "journal j 256; device a 7; export a;", api.Plan{Steps: []api.Step{disk(1, 7)}})
	planAsked(t, "device a 4; volume v = linear(a, 0, 4); export v; device b 5; journal j 256; volume w = concat(b, v); device c 6;", api.Plan{
		Steps: []api.Step{disk(0, 4), disk(1, 5), disk(3, 6), concat([3]int{0, 0, 4}), concat([3]int{1, 0, 5}, [3]int{3, 0, 4})}, Root: 3})
}

// P15.2: plans of stacks of each kind are right, and those that are as great or as small as may be.
func TestLowerIsRight(t *testing.T) {
	var texts []string
	for _, expr := range kinds {
		texts = append(texts, ground+"volume v = "+expr+"; export v;", ground+"volume v = "+expr+"; export v readonly;", ground+"volume v = "+expr+"; export a;")
	}
	large := "device a 2048; device b 2048; device c 2048; device d 2048; device e 2048; device f 1; journal j 2048; key k $" + kHex + "; root r $" + rHex + "; "
	for _, expr := range []string{
		"a", "f", "concat(a, b, c, d)", "crypt(concat(a, b, c, d), k)", "integrity(concat(a, b, c, d), k)", "verity(concat(a, b, c, d), r)",
		"snapshot(concat(a, b, c, d), e, 1)", "snapshot(concat(a, b, c, d), e, 16)", "snapshot(f, concat(a, b, c, d), 16)", "snapshot(a, b, 1)",
		"snapshot(f, linear(a, 0, 2), 1)", "snapshot(f, linear(a, 2031, 17), 16)", "integrity(linear(a, 3, 2), k)", "verity(linear(a, 3, 2), r)",
		"mirror(a, b, c, d)", "mirror(f, linear(a, 2047, 1), linear(b, 0, 1))", "linear(concat(a, b, c, d), 8191, 1)", "linear(concat(a, b, c, d), 0, 8192)",
		"linear(f, 0, 1)", "concat(f, linear(a, 0, 1))", strings.Repeat("crypt(", 11) + "a" + strings.Repeat(", k)", 11),
	} {
		texts = append(texts, large+"volume v = "+expr+"; export v;")
	}
	nodes := large
	for i := range 5 { // as many nodes as may be, with the devices' six
		nodes += fmt.Sprintf("volume v%d = %sa%s; ", i, strings.Repeat("crypt(", 11), strings.Repeat(", k)", 11))
	}
	texts = append(texts, nodes+"volume w = crypt(crypt(linear(v4, 1, 2), k), k); export w;")
	for _, text := range texts {
		s := stackOf(t, text)
		p := Lower(s)
		rightAsked(t, text, p, s.Devices, true)
		if len(p.Steps) != len(s.Parts) || p.Root != s.Export || p.ReadOnly != s.ReadOnly {
			t.Errorf("%q: %d steps of %d nodes, %d of %d, %v of %v", text, len(p.Steps), len(s.Parts), p.Root, s.Export, p.ReadOnly, s.ReadOnly)
		}
		for dev := range s.Devices {
			for _, by := range []int{-1, 1} {
				other := slices.Clone(s.Devices)
				other[dev] += by
				rightAsked(t, text, p, other, dev == s.Journal)
			}
		}
	}
	if n := len(stackOf(t, texts[len(texts)-1]).Parts); n != 64 {
		t.Errorf("%d nodes", n)
	}
}

// P15.1 (P2): how many steps there are.
func TestHowManySteps(t *testing.T) {
	devices := []int{8}
	for n, want := range map[int]bool{0: false, 1: true, 2: true, 999: true, 1000: true, 1001: false, 1002: false, 5000: false} {
		p := api.Plan{Steps: slices.Repeat([]api.Step{disk(0, 8)}, n)}
		rightAsked(t, fmt.Sprint(n, " steps"), p, devices, want)
		p.Root = n - 1
		rightAsked(t, fmt.Sprint(n, " steps, the last one"), p, devices, want)
		p.ReadOnly = true
		rightAsked(t, fmt.Sprint(n, " steps, read only"), p, devices, want)
	}
	rightAsked(t, "nothing", api.Plan{}, nil, false)
	rightAsked(t, "nothing over devices", api.Plan{}, []int{8, 8}, false)
	rightAsked(t, "no steps", api.Plan{Steps: []api.Step{}}, []int{8}, false)
	// each kid is the step right ahead
	p := api.Plan{Steps: []api.Step{disk(0, 8)}, Root: 999}
	for i := range 999 {
		p.Steps = append(p.Steps, concat([3]int{i, 0, 8}))
	}
	rightAsked(t, "a tower", p, devices, true)
	p.Steps[998].Kind = api.None
	rightAsked(t, "a tower with a hole", p, devices, false)
}

// P15.1 (P2): Root is one of the steps.
func TestRoot(t *testing.T) {
	p := groundPlan(mirror(20, 1, 3), crypt(kBytes, 20, 4))
	for _, root := range []int{math.MinInt, -1 << 32, -6, -2, -1, 0, 1, 4, 5, 6, 7, 1000, 1 << 32, 1<<32 + 1, math.MaxInt} {
		p.Root = root
		rightAsked(t, fmt.Sprint("Root ", root), p, groundSizes, root >= 0 && root <= 5)
	}
}

// ofSize are plans whose last step has so many sectors, all of which would be right, if there were no limit.
func ofSize(size int) (map[string]api.Plan, []int) {
	one := func(steps ...api.Step) api.Plan { return api.Plan{Steps: steps, Root: len(steps) - 1} }
	half := size / 2
	return map[string]api.Plan{
		"disk":   one(disk(0, size)),
		"concat": one(disk(1, half), disk(2, size-half), concat([3]int{0, 0, half}, [3]int{1, 0, size - half})),
		"linear": one(disk(0, size), concat([3]int{0, 0, size})),
		"mirror": one(disk(0, size), mirror(size, 0)),
		"crypt":  one(disk(0, size), crypt(kBytes, size, 0)),
	}, []int{size, half, size - half}
}

// P15.1 (P2): Size is 1 to 8192.
func TestSizes(t *testing.T) {
	for _, size := range []int{math.MinInt, -8192, -2, -1, 0, 1, 2, 3, 100, 2048, 2049, 8191, 8192, 8193, 8194, 1 << 31, 1<<32 + 1, math.MaxInt} {
		plans, devices := ofSize(size)
		for name, p := range plans {
			want := size >= 1 && size <= 8192
			if name == "concat" && size == 1 {
				want = false // one of its halves has no sector
			}
			rightAsked(t, fmt.Sprint(name, " of ", size), p, devices, want)
		}
		// a Size that is none, of each kind, or just another one than what lies below it has
		for i, st := range oneOfEach().Steps {
			p := oneOfEach()
			p.Steps[i].Size = size
			rightAsked(t, fmt.Sprint("kind ", st.Kind, " of ", size), p, groundSizes, size == st.Size)
		}
	}
	p := api.Plan{Steps: []api.Step{disk(0, 4096), disk(1, 4096), disk(2, 1), concat([3]int{0, 0, 4096}, [3]int{1, 0, 4096})}, Root: 3}
	rightAsked(t, "a concat of 8192", p, []int{4096, 4096, 1}, true)
	p.Steps[3] = concat([3]int{0, 0, 4096}, [3]int{1, 0, 4096}, [3]int{2, 0, 1})
	rightAsked(t, "a concat of 8193", p, []int{4096, 4096, 1}, false)
	for origin, table := range map[int]int{1: 1, 8191: 32, 8192: 32} {
		p := api.Plan{Steps: []api.Step{disk(0, origin), disk(1, 100), snapshot(16, origin, table, min((100-table)/16, (origin+15)/16), 0, 1)}, Root: 2}
		rightAsked(t, fmt.Sprint("a snapshot of ", origin), p, []int{origin, 100}, true)
	}
}

// oneOfEach is a plan over ground with a step of each kind: the steps 4 to 9 are a Concat, a Mirror, a Snapshot, a Crypt, an Integrity and
// a Verity; 10 is a Crypt of the Verity.
func oneOfEach() api.Plan {
	return groundPlan(
		concat([3]int{0, 3, 7}, [3]int{1, 0, 4}, [3]int{1, 16, 4}),
		mirror(20, 1, 3),
		snapshot(4, 20, 1, 5, 1, 2),
		crypt(bytes.Clone(lBytes), 20, 3),
		integrity(bytes.Clone(kBytes), 32, 2),
		verity(bytes.Clone(rBytes), 9, 1),
		crypt(bytes.Clone(kBytes), 9, 9))
}

// P15.1 (P2): the plan of one step of each kind is right, and is not any more with a kind that is none, or another one.
func TestOneOfEach(t *testing.T) {
	rightAsked(t, "one of each", oneOfEach(), groundSizes, true)
	for i, st := range oneOfEach().Steps {
		for _, kind := range []api.Kind{api.None, api.Disk, api.Linear, api.Concat, api.Mirror, api.Snapshot, api.Crypt, api.Integrity, api.Verity, 9, 10, 100, -1, -2, 1 << 32, 1<<32 + 1, math.MinInt, math.MaxInt} {
			p := oneOfEach()
			p.Steps[i].Kind = kind
			rightAsked(t, fmt.Sprint("step ", i, " as kind ", kind), p, groundSizes, kind == st.Kind)
		}
		p := oneOfEach()
		p.Steps[i] = api.Step{}
		rightAsked(t, fmt.Sprint("without step ", i), p, groundSizes, false)
		for kind := range api.Verity + 2 {
			p.Steps[i] = api.Step{Kind: kind, Size: st.Size}
			rightAsked(t, fmt.Sprint("bare step ", i, " of kind ", kind), p, groundSizes, kind == api.Disk && st.Size == groundSizes[0])
		}
	}
}

// fields are what a step may have beside its kind and its Size, set to what some step might have.
var fields = []struct {
	name  string
	kinds []api.Kind
	set   func(st *api.Step)
}{
	{"Dev", []api.Kind{api.Disk}, func(st *api.Step) { st.Dev = 1 }},
	{"Dev below 0", []api.Kind{api.Disk}, func(st *api.Step) { st.Dev = -1 }},
	{"Extents", []api.Kind{api.Concat}, func(st *api.Step) { st.Extents = []api.Extent{{Count: st.Size}} }},
	{"an extent of nothing", []api.Kind{api.Concat}, func(st *api.Step) { st.Extents = []api.Extent{{}} }},
	{"Kids", []api.Kind{api.Mirror, api.Snapshot, api.Crypt, api.Integrity, api.Verity}, func(st *api.Step) { st.Kids = []int{0} }},
	{"Chunk", []api.Kind{api.Snapshot}, func(st *api.Step) { st.Chunk = 1 }},
	{"Table", []api.Kind{api.Snapshot}, func(st *api.Step) { st.Table = 1 }},
	{"Slots", []api.Kind{api.Snapshot}, func(st *api.Step) { st.Slots = 1 }},
	{"Chunk below 0", []api.Kind{api.Snapshot}, func(st *api.Step) { st.Chunk = math.MinInt }},
	{"Table below 0", []api.Kind{api.Snapshot}, func(st *api.Step) { st.Table = -1 }},
	{"Slots below 0", []api.Kind{api.Snapshot}, func(st *api.Step) { st.Slots = -1 }},
	{"Key", []api.Kind{api.Crypt, api.Integrity}, func(st *api.Step) { st.Key = kBytes }},
	{"a Key of a byte", []api.Kind{api.Crypt, api.Integrity}, func(st *api.Step) { st.Key = []byte{0} }},
	{"Root", []api.Kind{api.Verity}, func(st *api.Step) { st.Root = rBytes }},
	{"a Root of a byte", []api.Kind{api.Verity}, func(st *api.Step) { st.Root = []byte{0} }},
}

// P15.1 (P2): a step has no field that its kind has not; one that is empty may be nil or not.
func TestJustFields(t *testing.T) {
	set := 0
	for i := range oneOfEach().Steps {
		for _, f := range fields {
			p := oneOfEach()
			if st := &p.Steps[i]; !slices.Contains(f.kinds, st.Kind) {
				f.set(st)
				set++
				rightAsked(t, fmt.Sprint("kind ", st.Kind, " with ", f.name), p, groundSizes, false)
			}
		}
		p := oneOfEach()
		st := &p.Steps[i]
		for _, list := range []func(){
			func() {
				if st.Extents == nil {
					st.Extents = []api.Extent{}
				}
			},
			func() {
				if st.Kids == nil {
					st.Kids = []int{}
				}
			},
			func() {
				if st.Key == nil {
					st.Key = []byte{}
				}
			},
			func() {
				if st.Root == nil {
					st.Root = []byte{}
				}
			},
		} {
			list()
			rightAsked(t, fmt.Sprint("kind ", st.Kind, " with lists without elements"), p, groundSizes, true)
		}
	}
	if set < 80 {
		t.Errorf("%d fields were set", set)
	}
}

// P15.1 (P2): each field that a kind has is needed.
func TestAllFields(t *testing.T) {
	for i := 4; i < len(oneOfEach().Steps); i++ {
		for _, empty := range []func(st *api.Step){
			func(st *api.Step) { st.Extents = nil }, func(st *api.Step) { st.Kids = nil }, func(st *api.Step) { st.Chunk = 0 }, func(st *api.Step) { st.Table = 0 },
			func(st *api.Step) { st.Slots = 0 }, func(st *api.Step) { st.Key = nil }, func(st *api.Step) { st.Root = nil },
			func(st *api.Step) { st.Extents = []api.Extent{} }, func(st *api.Step) { st.Kids = []int{} }, func(st *api.Step) { st.Key = []byte{} }, func(st *api.Step) { st.Root = []byte{} },
		} {
			p := oneOfEach()
			empty(&p.Steps[i])
			rightAsked(t, fmt.Sprint("step ", i, " with less"), p, groundSizes, sameSteps(p.Steps[i], oneOfEach().Steps[i]))
		}
	}
}

// P15.1 (P2): a Disk's Dev is a device, and its Size is that one's.
func TestDisks(t *testing.T) {
	for _, dev := range []int{math.MinInt, -1 << 32, -5, -1, 0, 1, 2, 3, 4, 5, 6, 1 << 32, 1<<32 + 2, math.MaxInt} {
		p := api.Plan{Steps: []api.Step{disk(dev, 20)}}
		rightAsked(t, fmt.Sprint("device ", dev), p, groundSizes, dev == 2 || dev == 4)
		rightAsked(t, fmt.Sprint("device ", dev, " of none"), p, nil, false)
		rightAsked(t, fmt.Sprint("device ", dev, " of one"), p, []int{20}, dev == 0)
		rightAsked(t, fmt.Sprint("device ", dev, " of others"), p, []int{19, 21, 0, -20, 40, 20}, dev == 5)
	}
	for _, size := range []int{math.MinInt, -20, 0, 1, 19, 21, 8192, 8193, math.MaxInt} {
		p := api.Plan{Steps: []api.Step{disk(0, size)}}
		rightAsked(t, fmt.Sprint(size, " of 20 sectors"), p, []int{20}, false)
		rightAsked(t, fmt.Sprint(size, " sectors"), p, []int{size}, size >= 1 && size <= 8192)
	}
	rightAsked(t, "one device twice", api.Plan{Steps: []api.Step{disk(1, 9), disk(1, 9), mirror(9, 0, 1)}, Root: 2}, []int{0, 9}, true)
}

// notAhead are numbers that are none of a step ahead of the step of this number.
func notAhead(step int) []int {
	return []int{step, step + 1, step + 2, step + 100, 1 << 32, math.MaxInt, -1, -2, -step, -1 << 32, math.MinInt}
}

// P15.1 (P2): each kid is a step ahead.
func TestKids(t *testing.T) {
	for i, st := range oneOfEach().Steps {
		for k := range st.Kids {
			for _, kid := range notAhead(i) {
				p := oneOfEach()
				p.Steps[i].Kids[k] = kid
				rightAsked(t, fmt.Sprint("kid ", k, " of step ", i, " is ", kid), p, groundSizes, false)
			}
		}
		for k := range st.Extents {
			for _, kid := range notAhead(i) {
				p := oneOfEach()
				p.Steps[i].Extents[k].Kid = kid
				rightAsked(t, fmt.Sprint("the kid of extent ", k, " of step ", i, " is ", kid), p, groundSizes, false)
			}
		}
	}
	// the step behind has the right Size
	for _, st := range []api.Step{mirror(20, 1), crypt(kBytes, 20, 1), concat([3]int{1, 0, 20}), snapshot(4, 20, 1, 4, 1, 1), integrity(kBytes, 16, 1), verity(rBytes, 9, 1)} {
		rightAsked(t, fmt.Sprint("kind ", st.Kind, " ahead of its kid"), api.Plan{Steps: []api.Step{st, disk(0, 20)}, Root: 0}, []int{20}, false)
		rightAsked(t, fmt.Sprint("kind ", st.Kind, " that is its own kid"), api.Plan{Steps: []api.Step{disk(0, 20), st}, Root: 1}, []int{20}, false)
		rightAsked(t, fmt.Sprint("kind ", st.Kind, " behind its kid"), api.Plan{Steps: []api.Step{disk(0, 20), disk(0, 20), st}, Root: 2}, []int{20}, true)
	}
}

// extentsPlan is a plan of a disk of 10 sectors, one of 20, and a Concat of a Size and extents.
func extentsPlan(size int, l ...api.Extent) api.Plan {
	return api.Plan{Steps: []api.Step{disk(0, 10), disk(1, 20), {Kind: api.Concat, Size: size, Extents: l}}, Root: 2}
}

// P15.1 (P2): extents follow one another from 0 to Size, of a sector or more each.
func TestExtentsFollow(t *testing.T) {
	for _, c := range []struct {
		what string
		size int
		want bool
		l    [][4]int // from, count, kid, first
	}{
		{"one", 5, true, [][4]int{{0, 5, 0, 0}}},
		{"one of one", 1, true, [][4]int{{0, 1, 0, 9}}},
		{"three", 12, true, [][4]int{{0, 5, 0, 5}, {5, 3, 1, 0}, {8, 4, 0, 0}}},
		{"one sector in two", 6, true, [][4]int{{0, 3, 0, 0}, {3, 3, 0, 0}}},
		{"none", 5, false, nil},
		{"a sector is left out at first", 5, false, [][4]int{{1, 4, 0, 0}}},
		{"a sector ahead of the first", 5, false, [][4]int{{-1, 6, 0, 0}}},
		{"a sector is left out between", 6, false, [][4]int{{0, 2, 0, 0}, {3, 3, 0, 0}}},
		{"a sector is gone over twice", 6, false, [][4]int{{0, 4, 0, 0}, {3, 3, 0, 0}}},
		{"one is there twice", 6, false, [][4]int{{0, 6, 0, 0}, {0, 6, 0, 0}}},
		{"in another order", 6, false, [][4]int{{3, 3, 0, 0}, {0, 3, 0, 0}}},
		{"a sector short of Size", 6, false, [][4]int{{0, 3, 0, 0}, {3, 2, 0, 0}}},
		{"a sector beyond Size", 6, false, [][4]int{{0, 3, 0, 0}, {3, 4, 0, 0}}},
		{"one more", 6, false, [][4]int{{0, 6, 0, 0}, {6, 1, 0, 0}}},
		{"of no sector at first", 5, false, [][4]int{{0, 0, 0, 0}, {0, 5, 0, 0}}},
		{"of no sector between", 5, false, [][4]int{{0, 2, 0, 0}, {2, 0, 0, 0}, {2, 3, 0, 0}}},
		{"of no sector at last", 5, false, [][4]int{{0, 5, 0, 0}, {5, 0, 0, 0}}},
		{"of no sector alone", 0, false, [][4]int{{0, 0, 0, 0}}},
		{"of less than none", 5, false, [][4]int{{0, 6, 0, 0}, {6, -1, 0, 0}}},
		{"of less than none at first", 5, false, [][4]int{{0, -1, 0, 0}, {-1, 6, 0, 0}}},
	} {
		var l []api.Extent
		for _, x := range c.l {
			l = append(l, api.Extent{From: x[0], Count: x[1], Kid: x[2], First: x[3]})
		}
		rightAsked(t, c.what, extentsPlan(c.size, l...), []int{10, 20}, c.want)
	}
}

// P15.1 (P2): extents lie within their kids.
func TestExtentsWithin(t *testing.T) {
	for kid, size := range []int{10, 20} {
		for first := range size + 2 {
			for count := 1; count <= size+2; count++ {
				want := first+count <= size
				rightAsked(t, fmt.Sprint(count, " from ", first, " on of ", size), extentsPlan(count, api.Extent{Count: count, Kid: kid, First: first}), []int{10, 20}, want)
				rightAsked(t, fmt.Sprint("behind another, ", count, " from ", first, " on of ", size), extentsPlan(3+count, api.Extent{Count: 3}, api.Extent{From: 3, Count: count, Kid: kid, First: first}), []int{10, 20}, want)
			}
		}
		for _, first := range []int{-1, -2, -size, math.MinInt} {
			rightAsked(t, fmt.Sprint("from ", first, " on"), extentsPlan(2, api.Extent{Count: 2, Kid: kid, First: first}), []int{10, 20}, false)
		}
	}
}

// P15.1 (P2): numbers at the ends of int, where a sum runs over.
func TestExtentsRunOver(t *testing.T) {
	ends := []int{math.MinInt, math.MinInt + 1, math.MinInt + 5, math.MinInt + 10, math.MinInt / 2, -10, -5, -1, 0, 1, 5, 9, 10, 1 << 32, math.MaxInt / 2, math.MaxInt - 9, math.MaxInt - 5, math.MaxInt - 4, math.MaxInt - 1, math.MaxInt}
	devices := []int{10, 20}
	for _, a := range ends {
		for _, b := range ends {
			for _, size := range []int{1, 5, 8192} {
				p := extentsPlan(size, api.Extent{Count: a, First: b})
				rightAsked(t, "one", p, devices, meantRight(p, devices))
				p = extentsPlan(size, api.Extent{From: a, Count: b})
				rightAsked(t, "from elsewhere", p, devices, meantRight(p, devices))
				p = extentsPlan(size, api.Extent{Count: a}, api.Extent{From: a, Count: b})
				rightAsked(t, "two", p, devices, meantRight(p, devices))
				p = extentsPlan(size, api.Extent{Count: a}, api.Extent{From: a, Count: b}, api.Extent{From: a + b, Count: size - a - b})
				rightAsked(t, "three", p, devices, meantRight(p, devices))
			}
			rightAsked(t, "of a disk that is as long", api.Plan{Steps: []api.Step{disk(0, a), {Kind: api.Concat, Size: 5, Extents: []api.Extent{{Count: 5, First: b}}}}, Root: 1},
				[]int{a}, (a == 5 || a == 9 || a == 10) && b >= 0 && b <= a-5)
		}
	}
}

// P15.1 (P2): how many extents a Concat has.
func TestHowManyExtents(t *testing.T) {
	for n, want := range map[int]bool{0: false, 1: true, 2: true, 5: true, 999: true, 1000: true, 1001: false, 1002: false, 4000: false} {
		var parts [][3]int
		for i := range n {
			parts = append(parts, [3]int{i % 2, i % 7, 1})
		}
		rightAsked(t, fmt.Sprint(n, " extents"), groundPlan(concat(parts...)), groundSizes, want)
		p := groundPlan(concat(parts...))
		p.Steps[4].Size = max(1, n-1)
		rightAsked(t, fmt.Sprint(n, " extents of a sector less"), p, groundSizes, n == 1)
		p.Steps[4].Size = n + 1
		rightAsked(t, fmt.Sprint(n, " extents of a sector more"), p, groundSizes, false)
	}
}

// P15.1 (P2): a Mirror has 1 to 4 kids, each of its Size.
func TestMirrors(t *testing.T) {
	for n, want := range []bool{false, true, true, true, true, false, false, false, false} {
		rightAsked(t, fmt.Sprint(n, " kids"), groundPlan(mirror(20, []int{1, 3, 3, 1, 1, 3, 1, 3}[:n]...)), groundSizes, want)
		rightAsked(t, fmt.Sprint(n, " kids that are one"), groundPlan(mirror(20, slices.Repeat([]int{1}, n)...)), groundSizes, want)
		for k := range n {
			for _, other := range []int{0, 2} {
				kids := slices.Repeat([]int{1}, n)
				kids[k] = other
				rightAsked(t, fmt.Sprint("kid ", k, " of ", n, " of another size"), groundPlan(mirror(20, kids...)), groundSizes, false)
			}
		}
	}
	for _, size := range []int{0, 1, 19, 21, 40, -20} {
		rightAsked(t, fmt.Sprint("of ", size), groundPlan(mirror(size, 1, 3)), groundSizes, false)
	}
	rightAsked(t, "of the first kid's size", groundPlan(mirror(10, 0, 1)), groundSizes, false)
	rightAsked(t, "of the last kid's size", groundPlan(mirror(20, 0, 1)), groundSizes, false)
	rightAsked(t, "many kids", groundPlan(mirror(20, slices.Repeat([]int{1}, 100000)...)), groundSizes, false)
}

// P15.1 (P2): a Snapshot has two kids, the first one of its Size, a chunk of 1 to 16, and what area.Store tells.
func TestSnapshots(t *testing.T) {
	devices := []int{64, 100}
	with := func(st api.Step) api.Plan {
		return api.Plan{Steps: []api.Step{disk(0, 64), disk(1, 100), st}, Root: 2}
	}
	for chunk := -2; chunk <= 20; chunk++ {
		table, slots := 0, 0
		if chunk > 0 {
			table, slots = meantStore(100, 64, chunk)
		}
		rightAsked(t, fmt.Sprint("chunks of ", chunk), with(snapshot(chunk, 64, table, slots, 0, 1)), devices, chunk >= 1 && chunk <= 16)
		rightAsked(t, fmt.Sprint("chunks of ", chunk, ", nothing in them"), with(snapshot(chunk, 64, 0, 0, 0, 1)), devices, false)
		for _, by := range []int{-2, -1, 1, 2, 16, math.MaxInt, math.MinInt, -table, -slots, -2 * slots} {
			rightAsked(t, fmt.Sprint("a table that is ", by, " off"), with(snapshot(chunk, 64, table+by, slots, 0, 1)), devices, false)
			rightAsked(t, fmt.Sprint("slots that are ", by, " off"), with(snapshot(chunk, 64, table, slots+by, 0, 1)), devices, false)
			rightAsked(t, "both", with(snapshot(chunk, 64, table+by, slots-by, 0, 1)), devices, false)
		}
	}
	for _, chunk := range []int{math.MinInt, math.MinInt + 1, -1 << 32, 1 << 32, 1<<32 + 4, math.MaxInt} {
		rightAsked(t, fmt.Sprint("chunks of ", chunk), with(snapshot(chunk, 64, 1, 16, 0, 1)), devices, false)
	}
	table, slots := meantStore(100, 64, 4)
	rightAsked(t, "two kids", with(snapshot(4, 64, table, slots, 0, 1)), devices, true)
	rightAsked(t, "the other way round", with(snapshot(4, 64, table, slots, 1, 0)), devices, false)
	for _, kids := range [][]int{{}, {0}, {1}, {0, 1, 1}, {0, 1, 0, 1}, {0, 1, 0, 1, 0}} {
		st := snapshot(4, 64, table, slots, 0, 1)
		st.Kids = kids
		rightAsked(t, fmt.Sprint("kids ", kids), with(st), devices, false)
	}
	for _, size := range []int{63, 65, 100, 1} {
		table, slots := meantStore(100, size, 4)
		rightAsked(t, fmt.Sprint("of ", size), with(snapshot(4, size, table, slots, 0, 1)), devices, false)
	}
	table, slots = meantStore(64, 64, 4)
	rightAsked(t, "a store that is the origin", with(snapshot(4, 64, table, slots, 0, 0)), devices, true)
	// a store in which just one slot fits, and one in which none does
	for store, want := range map[int]bool{1: false, 4: false, 5: true} {
		p := api.Plan{Steps: []api.Step{disk(0, 64), disk(1, store), snapshot(4, 64, 1, max(0, store-4), 0, 1)}, Root: 2}
		rightAsked(t, fmt.Sprint("a store of ", store), p, []int{64, store}, want)
		p.Steps[2].Table, p.Steps[2].Slots = 0, 0
		rightAsked(t, fmt.Sprint("a store of ", store, " that has nothing"), p, []int{64, store}, false)
	}
}

// P15.1 (P2): a Crypt, an Integrity and a Verity have one kid, and fit it.
func TestOneKid(t *testing.T) {
	for n := range 6 {
		for _, st := range []api.Step{crypt(kBytes, 20, 1), integrity(kBytes, 16, 1), verity(rBytes, 9, 1)} {
			st.Kids = slices.Repeat([]int{1}, n)
			rightAsked(t, fmt.Sprint("kind ", st.Kind, " of ", n, " kids"), groundPlan(st), groundSizes, n == 1)
		}
	}
	for n := 1; n <= 300; n++ {
		tags := most(8192, n, func(d int) int { return d + (d+3)/4 })
		hashes := most(2048, n, withHashes)
		for _, by := range []int{-1, 0, 1} {
			with := func(st api.Step) api.Plan {
				return api.Plan{Steps: []api.Step{disk(0, n), st}, Root: 1}
			}
			rightAsked(t, fmt.Sprint("a crypt of ", n), with(crypt(kBytes, n+by, 0)), []int{n}, by == 0)
			rightAsked(t, fmt.Sprint("an integrity of ", n), with(integrity(kBytes, tags+by, 0)), []int{n}, by == 0 && tags > 0)
			rightAsked(t, fmt.Sprint("a verity of ", n), with(verity(rBytes, hashes+by, 0)), []int{n}, by == 0 && hashes > 0)
		}
	}
	for _, n := range []int{4200, 8191, 8192} { // where a verity has as many data sectors as it may have
		rightAsked(t, fmt.Sprint("a verity of ", n), api.Plan{Steps: []api.Step{disk(0, n), verity(rBytes, 2048, 0)}, Root: 1}, []int{n}, true)
		rightAsked(t, fmt.Sprint("a verity of ", n, ", beyond what it may have"), api.Plan{Steps: []api.Step{disk(0, n), verity(rBytes, 2049, 0)}, Root: 1}, []int{n}, false)
	}
}

// P15.1 (P2): keys and roots have 32 bytes; a Crypt's Key has not two halves that are one.
func TestKeysAndRoots(t *testing.T) {
	for n := range 70 {
		secret := sectors(2, 7)[:n]
		rightAsked(t, fmt.Sprint("a crypt's key of ", n), groundPlan(crypt(secret, 20, 1)), groundSizes, n == 32)
		rightAsked(t, fmt.Sprint("an integrity's key of ", n), groundPlan(integrity(secret, 16, 1)), groundSizes, n == 32)
		rightAsked(t, fmt.Sprint("a root of ", n), groundPlan(verity(secret, 9, 1)), groundSizes, n == 32)
	}
	for _, half := range [][]byte{make([]byte, 16), bytes.Repeat([]byte{255}, 16), kBytes[:16]} {
		twice := slices.Concat(half, half)
		rightAsked(t, "a crypt's key of two halves that are one", groundPlan(crypt(twice, 20, 1)), groundSizes, false)
		rightAsked(t, "an integrity's", groundPlan(integrity(twice, 16, 1)), groundSizes, true)
		rightAsked(t, "a verity's root", groundPlan(verity(twice, 9, 1)), groundSizes, true)
		for i := range 32 {
			other := bytes.Clone(twice)
			other[i] ^= 1
			rightAsked(t, fmt.Sprint("but for the byte ", i), groundPlan(crypt(other, 20, 1)), groundSizes, true)
		}
	}
	for _, st := range []api.Step{crypt(nil, 20, 1), integrity(nil, 16, 1), verity(nil, 9, 1)} {
		st.Key, st.Root = kBytes, rBytes
		rightAsked(t, fmt.Sprint("kind ", st.Kind, " with both"), groundPlan(st), groundSizes, false)
		if st.Kind == api.Verity {
			st.Root = nil
		} else {
			st.Key = nil
		}
		rightAsked(t, fmt.Sprint("kind ", st.Kind, " with the other one"), groundPlan(st), groundSizes, false)
	}
}

// P15.1 (P2): a step that is wrong makes the plan wrong, wherever it stands and whether or not it lies below the Root.
func TestWrongAnywhere(t *testing.T) {
	for i := range oneOfEach().Steps {
		for root := range oneOfEach().Steps {
			p := oneOfEach()
			p.Root = root
			rightAsked(t, "as it was", p, groundSizes, true)
			p.Steps[i].Chunk++
			rightAsked(t, fmt.Sprint("Root ", root, ", step ", i), p, groundSizes, false)
		}
	}
	p := oneOfEach()
	p.ReadOnly = true
	rightAsked(t, "read only", p, groundSizes, true)
}

// wildNumbers are numbers that may be none of anything.
var wildNumbers = []int{math.MinInt, -1 << 32, -8192, -1, 0, 1, 2, 3, 17, 8192, 8193, 1 << 32, math.MaxInt}

// P1: stacks that nobody checked, and what Right says of their plans: no call panics.
func TestWildStacks(t *testing.T) {
	Lower(api.Stack{})
	kids := [][]int{nil, {}, {0}, {1}, {-1}, {0, 0}, {0, 1}, {1, 0}, {2, 3}, {math.MinInt, math.MaxInt}, {0, -1}, {-1, 0}, {0, 1, 2}, {0, 0, 0, 0, 0}, slices.Repeat([]int{0}, 5000)}
	secrets := [][]byte{nil, {}, {1}, kBytes, slices.Concat(kBytes, rBytes)}
	for kind := api.Kind(-1); kind <= 10; kind++ {
		for i, l := range kids {
			for _, n := range wildNumbers {
				for _, m := range wildNumbers {
					p := api.Part{Kind: kind, Size: n, Kids: l, Dev: m, First: m, Chunk: m, Key: secrets[i%5], Root: secrets[(i+2)%5]}
					for _, s := range []api.Stack{
						{Parts: []api.Part{p}, Export: n, Journal: m},
						{Devices: []int{n, m}, Parts: []api.Part{{Kind: api.Disk, Size: n}, p, p}, Export: m},
						{Devices: []int{3, m}, Parts: []api.Part{{Kind: api.Disk, Size: 3}, {Kind: api.Disk, Size: m, Dev: 1}, p, p}, Export: 3, ReadOnly: true},
						{Devices: nil, Parts: nil, Export: n, Journal: m},
					} {
						if plan := Lower(s); Right(plan, s.Devices) != meantRight(plan, s.Devices) {
							t.Fatalf("Right of %v over %v: %v", plan, s.Devices, Right(plan, s.Devices))
						}
					}
				}
			}
		}
	}
	Lower(api.Stack{Parts: slices.Repeat([]api.Part{{Kind: api.Concat, Kids: []int{0, 1, 2, 3}}}, 100000)})
}

// P1: plans and devices of all sorts: no call panics.
func TestWildPlans(t *testing.T) {
	for _, n := range wildNumbers {
		for _, m := range wildNumbers {
			for kind := api.Kind(-1); kind <= 10; kind++ {
				st := api.Step{Kind: kind, Size: n, Kids: []int{m, n}, Chunk: m, Table: n, Slots: m}
				one := api.Step{Kind: kind, Size: m, Kids: []int{n}, Key: kBytes}
				two := api.Step{Kind: kind, Size: n, Dev: m}
				three := api.Step{Kind: kind, Size: n, Extents: []api.Extent{{From: n, Count: m, Kid: n, First: m}, {From: m, Count: n, Kid: m, First: n}}}
				for _, p := range []api.Plan{
					{Steps: []api.Step{st}, Root: n}, {Steps: []api.Step{disk(0, 3), st, one, two, three}, Root: m},
					{Steps: []api.Step{disk(0, 3), three}, Root: 1}, {Steps: []api.Step{disk(0, 3), one}, Root: 1}, {Steps: []api.Step{two}}, {Root: m},
				} {
					for _, devices := range [][]int{nil, {}, {3}, {n, m}, {m}, {3, 3, 3}} {
						if want := meantRight(p, devices); Right(p, devices) != want {
							t.Fatalf("Right of %v over %v: %v", p, devices, !want)
						}
					}
				}
			}
		}
	}
}

// scribble makes all that a plan holds another thing.
func scribble(p api.Plan) {
	for i := range p.Steps {
		st := p.Steps[i]
		for k := range st.Extents {
			st.Extents[k] = api.Extent{From: 9, Count: 9, Kid: 9, First: 9}
		}
		for k := range st.Kids {
			st.Kids[k] = -9
		}
		clear(st.Key)
		clear(st.Root)
		_, _ = append(st.Kids, -7), append(st.Extents, api.Extent{From: 7})
		_, _ = append(st.Key, 77), append(st.Root, 77)
		p.Steps[i] = api.Step{}
	}
}

// P2, rule 4: what is handed in stays as it is; what is told is the same again, and shares no memory with it, nor do two answers.
func TestMemory(t *testing.T) {
	for _, expr := range kinds {
		s := stackOf(t, ground+"volume v = "+expr+"; volume w = crypt(crypt(a, k), k); volume x = verity(verity(c, r), r); export v;")
		held := fmt.Sprint(s)
		p := Lower(s)
		told := owned(p)
		again := Lower(s)
		if fmt.Sprint(s) != held || !samePlans(again, told) {
			t.Errorf("%s: Lower changes what is handed in, or tells another plan", expr)
		}
		if !Right(p, s.Devices) || !Right(p, s.Devices) || !samePlans(p, told) || fmt.Sprint(s) != held {
			t.Errorf("%s: Right changes what is handed in", expr)
		}
		scribble(p)
		if fmt.Sprint(s) != held || !samePlans(again, told) || !samePlans(Lower(s), told) {
			t.Errorf("%s: what was told is kept, or shares memory with what was handed in", expr)
		}
		// no two lists of an answer are one
		for i := range again.Steps {
			st := owned(again).Steps[i]
			clear(again.Steps[i].Kids)
			clear(again.Steps[i].Key)
			clear(again.Steps[i].Root)
			clear(again.Steps[i].Extents)
			for k := range again.Steps {
				if k != i && !sameSteps(again.Steps[k], told.Steps[k]) {
					t.Errorf("%s: the steps %d and %d share memory", expr, i, k)
				}
			}
			again.Steps[i] = st
		}
	}
}

// Rule 4: what lies behind a list's length is not looked at, and not written into.
func TestBehindLists(t *testing.T) {
	s := stackOf(t, ground+"volume v = concat(mirror(b, d), crypt(snapshot(a, c, 2), k)); export v;")
	want := Lower(s)
	spareKids := [][]int{}
	for i := range s.Parts {
		p := &s.Parts[i]
		kids := append(slices.Clone(p.Kids), -5, 77)
		spareKids = append(spareKids, kids)
		p.Kids = kids[:len(p.Kids)]
		p.Key = append(bytes.Clone(p.Key), 1, 2, 3)[:len(p.Key)]
	}
	parts := append(slices.Clone(s.Parts), api.Part{Kind: api.None})
	s.Parts = parts[:len(s.Parts)]
	devices := append(slices.Clone(s.Devices), 5)
	s.Devices = devices[:len(s.Devices)]
	p := Lower(s)
	if !samePlans(p, want) || !Right(p, s.Devices) {
		t.Errorf("%v; want %v", p, want)
	}
	for _, kids := range spareKids {
		if l := kids[len(kids)-2:]; l[0] != -5 || l[1] != 77 {
			t.Errorf("behind a list of kids stands %v", l)
		}
	}
	steps := append(slices.Clone(p.Steps), api.Step{})
	p.Steps = steps[:len(p.Steps)]
	for i := range p.Steps {
		st := &p.Steps[i]
		st.Extents = append(slices.Clone(st.Extents), api.Extent{From: -1})[:len(st.Extents)]
		st.Kids = append(slices.Clone(st.Kids), -1)[:len(st.Kids)]
		st.Key = append(bytes.Clone(st.Key), 1)[:len(st.Key)]
		st.Root = append(bytes.Clone(st.Root), 1)[:len(st.Root)]
	}
	rightAsked(t, "with more behind", p, s.Devices, true)
	p.Root = len(p.Steps)
	rightAsked(t, "a root behind the steps", p, s.Devices, false)
	rightAsked(t, "a device behind the devices", api.Plan{Steps: []api.Step{disk(5, 5)}}, s.Devices, false)
}
