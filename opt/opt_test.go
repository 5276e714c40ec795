package opt

import (
	"bytes"
	"fmt"
	"math"
	"math/rand"
	"slices"
	"strings"
	"testing"

	"cofferdam/api"
	"cofferdam/plan"
	"cofferdam/target"
)

// Figures of keys, and of a root.
const (
	kHex = "000102030405060708090a0b0c0d0e0f101112131415161718191a1b1c1d1e1f"
	lHex = "fedcba98765432100123456789abcdefffffffffffffffffffffffffffffffff"
	rHex = "a0a1a2a3a4a5a6a7a8a9aaabacadaeafb0b1b2b3b4b5b6b7b8b9babbbcbdbebf"
)

// What the first and the last of them stand for.
var (
	kBytes = []byte{0, 1, 2, 3, 4, 5, 6, 7, 8, 9, 10, 11, 12, 13, 14, 15, 16, 17, 18, 19, 20, 21, 22, 23, 24, 25, 26, 27, 28, 29, 30, 31}
	rBytes = []byte{160, 161, 162, 163, 164, 165, 166, 167, 168, 169, 170, 171, 172, 173, 174, 175,
		176, 177, 178, 179, 180, 181, 182, 183, 184, 185, 186, 187, 188, 189, 190, 191}
)

// ground is what texts here stand on: the steps 0 to 3 are a, b, c and d, of 10, 20, 40 and 20 sectors, on the devices 0, 2, 3 and 4.
const ground = "device a 10; journal j 256; device b 20; device c 40; device d 20; key k $" + kHex + "; key l $" + lHex + "; root r $" + rHex + "; "

// groundSizes are the devices of ground.
var groundSizes = []int{10, 256, 20, 40, 20}

// The disks of ground.
var a, b, c, d = disk(0, 10), disk(2, 20), disk(3, 40), disk(4, 20)

func disk(dev, size int) api.Step { return api.Step{Kind: api.Disk, Size: size, Dev: dev} }

// concat has extents that follow one another, each so many sectors of a kid from one on: (kid, first, count).
func concat(parts ...[3]int) api.Step {
	st := api.Step{Kind: api.Concat}
	for _, p := range parts {
		st.Extents = append(st.Extents, api.Extent{From: st.Size, Count: p[2], Kid: p[0], First: p[1]})
		st.Size += p[2]
	}
	return st
}

func mirror(size int, kids ...int) api.Step {
	return api.Step{Kind: api.Mirror, Size: size, Kids: kids}
}

func snapshot(chunk, size, table, slots, origin, store int) api.Step {
	return api.Step{Kind: api.Snapshot, Size: size, Kids: []int{origin, store}, Chunk: chunk, Table: table, Slots: slots}
}

func crypt(key []byte, size, kid int) api.Step {
	return api.Step{Kind: api.Crypt, Size: size, Kids: []int{kid}, Key: key}
}

func integrity(key []byte, size, kid int) api.Step {
	return api.Step{Kind: api.Integrity, Size: size, Kids: []int{kid}, Key: key}
}

func verity(root []byte, size, kid int) api.Step {
	return api.Step{Kind: api.Verity, Size: size, Kids: []int{kid}, Root: root}
}

// steps is a plan, of which the last step is the root.
func steps(l ...api.Step) api.Plan {
	return api.Plan{Steps: l, Root: len(l) - 1}
}

// onGround is a plan of ground's disks and more steps, the first of which is the step 4.
func onGround(more ...api.Step) api.Plan {
	return steps(slices.Concat([]api.Step{a, b, c, d}, more)...)
}

// planAsked asks what is told of a plan over ground's devices, and all that is promised of it.
func planAsked(t *testing.T, what string, p, want api.Plan) {
	t.Helper()
	if !plan.Right(p, groundSizes) {
		t.Fatalf("%s: this is no plan: %v", what, p)
	}
	if q := Optimize(p); !samePlans(q, want) {
		t.Errorf("%s:\n%v; want\n%v", what, q, want)
	}
	promisedAsked(t, what, p, groundSizes)
}

// exprAsked asks what is told of the plan of an expr over ground.
func exprAsked(t *testing.T, expr string, want api.Plan) {
	t.Helper()
	for _, end := range []string{"", " readonly"} {
		p, devices := lowered(t, ground+"volume v = "+expr+"; export v"+end+";")
		if !slices.Equal(devices, groundSizes) {
			t.Fatalf("%s: %v", expr, devices)
		}
		want.ReadOnly = p.ReadOnly
		planAsked(t, expr+end, p, want)
	}
}

// kinds are exprs over ground, of each kind, alone and within others.
var kinds = []string{
	"a",
	"linear(c, 3, 30)",
	"linear(b, 0, 20)",
	"concat(a, b)",
	"concat(linear(a, 0, 5), b, linear(c, 7, 6))",
	"concat(linear(a, 0, 5), linear(a, 5, 5))",
	"concat(linear(a, 5, 5), linear(a, 0, 5))",
	"mirror(b, d)",
	"mirror(concat(linear(b, 0, 7), linear(b, 7, 13)), linear(d, 0, 20))",
	"snapshot(a, b, 1)",
	"snapshot(linear(c, 1, 37), b, 16)",
	"snapshot(linear(linear(c, 1, 37), 2, 30), concat(linear(b, 0, 9), linear(b, 9, 11)), 3)",
	"crypt(b, k)",
	"crypt(linear(concat(a, b), 4, 20), l)",
	"integrity(b, k)",
	"integrity(concat(linear(concat(a, b), 2, 20), linear(c, 0, 9)), k)",
	"verity(c, r)",
	"verity(concat(linear(c, 0, 11), linear(c, 11, 12), linear(c, 30, 10)), r)",
	"linear(linear(c, 3, 30), 5, 20)",
	"linear(linear(linear(linear(c, 1, 38), 1, 36), 1, 34), 1, 32)",
	"linear(concat(a, linear(b, 2, 3), c), 8, 20)",
	"linear(crypt(b, k), 7, 13)",
	"linear(integrity(c, k), 2, 25)",
	"linear(snapshot(c, b, 2), 1, 38)",
	"linear(verity(c, r), 1, 9)",
	"concat(mirror(linear(a, 0, 7), linear(b, 0, 7)), crypt(c, l))",
	"concat(concat(a, b), concat(linear(c, 0, 9), d))",
	"concat(concat(concat(a, linear(c, 0, 3)), linear(c, 3, 3)), concat(linear(c, 6, 3), concat(linear(c, 9, 3), b)))",
	"concat(snapshot(a, b, 4), integrity(c, k))",
	"mirror(snapshot(d, c, 2), b)",
	"mirror(mirror(b, d), mirror(linear(c, 0, 20), linear(c, 20, 20)))",
	"snapshot(mirror(b, d), c, 5)",
	"snapshot(concat(linear(a, 0, 9), linear(b, 0, 9)), concat(linear(c, 0, 11), linear(d, 0, 11)), 4)",
	"snapshot(snapshot(a, b, 3), snapshot(d, c, 1), 2)",
	"snapshot(crypt(b, k), integrity(c, l), 3)",
	"crypt(crypt(concat(b, d), k), l)",
	"integrity(crypt(linear(d, 0, 20), k), l)",
	"verity(crypt(concat(a, b), k), r)",
	"mirror(verity(d, r), linear(c, 4, 9))",
}

// P16.1: the chapter's examples.
func TestExamples(t *testing.T) {
	exprAsked(t, "linear(concat(a, b), 7, 5)", steps(a, b, concat([3]int{0, 7, 3}, [3]int{1, 0, 2})))
	exprAsked(t, "concat(linear(c, 0, 4), linear(c, 4, 4))", steps(c, concat([3]int{0, 0, 8})))
	exprAsked(t, "concat(linear(a, 0, 4), linear(a, 4, 6))", steps(a))
	p := steps(disk(0, 8), concat([3]int{0, 0, 4}), concat([3]int{0, 4, 4}), concat([3]int{1, 0, 4}, [3]int{2, 0, 4}))
	if q := promisedAsked(t, "all of a", p, []int{8}); !samePlans(q, steps(disk(0, 8))) {
		t.Errorf("%v", q)
	}
}

// P16.1: of each kind what lies below it is made smaller, and what it has stays.
func TestKinds(t *testing.T) {
	e := concat([3]int{0, 5, 7}, [3]int{1, 0, 9}) // of c and d, as they stand where no other disk is left
	for expr, want := range map[string]api.Plan{
		"a":                                steps(a),
		"linear(b, 0, 20)":                 steps(b),
		"linear(b, 0, 19)":                 steps(b, concat([3]int{0, 0, 19})),
		"linear(b, 1, 19)":                 steps(b, concat([3]int{0, 1, 19})),
		"linear(c, 39, 1)":                 steps(c, concat([3]int{0, 39, 1})),
		"concat(b, a)":                     steps(a, b, concat([3]int{1, 0, 20}, [3]int{0, 0, 10})),
		"concat(d, linear(c, 3, 4), a)":    steps(a, c, d, concat([3]int{2, 0, 20}, [3]int{1, 3, 4}, [3]int{0, 0, 10})),
		"mirror(b, d)":                     steps(b, d, mirror(20, 0, 1)),
		"mirror(d, b)":                     steps(b, d, mirror(20, 1, 0)),
		"mirror(d, linear(b, 0, 20))":      steps(b, d, mirror(20, 1, 0)),
		"snapshot(linear(a, 0, 10), b, 4)": steps(a, b, snapshot(4, 10, 1, 3, 0, 1)),
		"snapshot(c, linear(a, 0, 10), 3)": steps(a, c, snapshot(3, 40, 1, 3, 1, 0)),
		"snapshot(concat(linear(c, 5, 7), linear(d, 0, 9)), b, 1)": steps(b, c, d, concat([3]int{1, 5, 7}, [3]int{2, 0, 9}), snapshot(1, 16, 1, 16, 3, 0)),
		"crypt(linear(b, 0, 20), k)":                               steps(b, crypt(kBytes, 20, 0)),
		"crypt(concat(linear(c, 5, 7), linear(d, 0, 9)), k)":       steps(c, d, e, crypt(kBytes, 16, 2)),
		"integrity(linear(a, 0, 10), k)":                           steps(a, integrity(kBytes, 8, 0)),
		"integrity(concat(linear(c, 5, 7), linear(d, 0, 9)), k)":   steps(c, d, e, integrity(kBytes, 12, 2)),
		"verity(linear(a, 0, 10), r)":                              steps(a, verity(rBytes, 4, 0)),
		"verity(concat(linear(c, 5, 7), linear(d, 0, 9)), r)":      steps(c, d, e, verity(rBytes, 8, 2)),
		"linear(crypt(linear(b, 0, 20), k), 3, 17)":                steps(b, crypt(kBytes, 20, 0), concat([3]int{1, 3, 17})),
		"linear(crypt(linear(b, 0, 20), k), 0, 20)":                steps(b, crypt(kBytes, 20, 0)),
		"concat(linear(mirror(b, d), 0, 9), linear(mirror(a, linear(c, 0, 10)), 9, 1))": steps(a, b, c, d, mirror(20, 1, 3), concat([3]int{2, 0, 10}), mirror(10, 0, 5),
			concat([3]int{4, 0, 9}, [3]int{6, 9, 1})),
	} {
		exprAsked(t, expr, want)
	}
}

// P16.1 (fused): Concats over Concats over Concats.
func TestFused(t *testing.T) {
	for expr, want := range map[string]api.Plan{
		"linear(linear(c, 3, 30), 5, 20)":                                    steps(c, concat([3]int{0, 8, 20})),
		"linear(linear(linear(c, 3, 30), 5, 20), 7, 6)":                      steps(c, concat([3]int{0, 15, 6})),
		"linear(linear(linear(linear(c, 1, 39), 1, 38), 1, 37), 1, 36)":      steps(c, concat([3]int{0, 4, 36})),
		"concat(concat(a, b), concat(c, d))":                                 steps(a, b, c, d, concat([3]int{0, 0, 10}, [3]int{1, 0, 20}, [3]int{2, 0, 40}, [3]int{3, 0, 20})),
		"concat(d, concat(c, concat(b, a)))":                                 steps(a, b, c, d, concat([3]int{3, 0, 20}, [3]int{2, 0, 40}, [3]int{1, 0, 20}, [3]int{0, 0, 10})),
		"concat(concat(concat(d, c), b), a)":                                 steps(a, b, c, d, concat([3]int{3, 0, 20}, [3]int{2, 0, 40}, [3]int{1, 0, 20}, [3]int{0, 0, 10})),
		"linear(concat(concat(a, b), concat(c, d)), 29, 42)":                 steps(b, c, d, concat([3]int{0, 19, 1}, [3]int{1, 0, 40}, [3]int{2, 0, 1})),
		"linear(concat(concat(a, b), concat(c, d)), 30, 40)":                 steps(c),
		"linear(concat(concat(a, b), concat(c, d)), 30, 39)":                 steps(c, concat([3]int{0, 0, 39})),
		"linear(concat(linear(a, 2, 3), linear(b, 4, 5)), 2, 4)":             steps(a, b, concat([3]int{0, 4, 1}, [3]int{1, 4, 3})),
		"linear(concat(linear(concat(a, b), 8, 9), linear(c, 2, 9)), 1, 10)": steps(a, b, c, concat([3]int{0, 9, 1}, [3]int{1, 0, 7}, [3]int{2, 2, 2})),
	} {
		exprAsked(t, expr, want)
	}
	// one kid in one step more than once, beside others
	kid := concat([3]int{0, 3, 2}, [3]int{1, 7, 3})
	planAsked(t, "twice", onGround(kid, concat([3]int{4, 1, 3}, [3]int{2, 0, 1}, [3]int{4, 0, 5}, [3]int{4, 0, 5})), steps(a, b, c, concat(
		[3]int{0, 4, 1}, [3]int{1, 7, 2}, [3]int{2, 0, 1}, [3]int{0, 3, 2}, [3]int{1, 7, 3}, [3]int{0, 3, 2}, [3]int{1, 7, 3})))
}

// P16.1 (fused): extents of each length at each place of a Concat that has extents of one sector, of two and of more.
func TestCutAnywhere(t *testing.T) {
	kid := concat([3]int{0, 3, 1}, [3]int{1, 7, 2}, [3]int{0, 0, 4}, [3]int{2, 39, 1}, [3]int{1, 0, 5})
	between := mirror(kid.Size, 4)
	for first := range kid.Size {
		for count := 1; first+count <= kid.Size; count++ {
			what := fmt.Sprint(count, " from ", first, " on")
			q := promisedAsked(t, what, onGround(kid, concat([3]int{4, first, count})), groundSizes)
			var leaves []lies
			for sector := first; sector < first+count; sector++ {
				leaves = append(leaves, [...]lies{{10, 3}, {20, 7}, {20, 8}, {10, 0}, {10, 1}, {10, 2}, {10, 3}, {40, 39}, {20, 0}, {20, 1}, {20, 2}, {20, 3}, {20, 4}}[sector])
			}
			root := q.Steps[q.Root]
			for _, x := range root.Extents {
				for sector := range x.Count {
					if at := (lies{q.Steps[x.Kid].Size, x.First + sector}); leaves[x.From+sector] != at {
						t.Errorf("%s: sector %d lies at %v, not at %v", what, x.From+sector, at, leaves[x.From+sector])
					}
				}
			}
			if root.Size != count {
				t.Errorf("%s: %d sectors", what, root.Size)
			}
			// behind another extent, ahead of one, and over what is no Concat
			promisedAsked(t, what+", between others", onGround(kid, concat([3]int{2, 5, 7}, [3]int{4, first, count}, [3]int{3, 1, 2})), groundSizes)
			promisedAsked(t, what+", of a mirror", onGround(kid, between, concat([3]int{5, first, count})), groundSizes)
			for deep := range count {
				promisedAsked(t, what+", three deep", onGround(kid, concat([3]int{4, first, count}), concat([3]int{5, deep, count - deep}, [3]int{5, 0, deep + 1})), groundSizes)
			}
		}
	}
}

// P16.1 (joined): neighbours that go on, and neighbours that do not.
func TestJoined(t *testing.T) {
	for what, l := range map[string][2][][3]int{
		"two":                     {{{2, 3, 4}, {2, 7, 5}}, {{0, 3, 9}}},
		"three":                   {{{2, 3, 4}, {2, 7, 5}, {2, 12, 1}}, {{0, 3, 10}}},
		"five of a sector":        {{{2, 3, 1}, {2, 4, 1}, {2, 5, 1}, {2, 6, 1}, {2, 7, 1}}, {{0, 3, 5}}},
		"two and two":             {{{2, 3, 4}, {2, 7, 5}, {2, 0, 4}, {2, 4, 5}}, {{0, 3, 9}, {0, 0, 9}}},
		"two, one, two":           {{{2, 3, 4}, {2, 7, 5}, {2, 3, 2}, {2, 0, 4}, {2, 4, 5}}, {{0, 3, 9}, {0, 3, 2}, {0, 0, 9}}},
		"a sector between":        {{{2, 3, 4}, {2, 8, 5}}, {{0, 3, 4}, {0, 8, 5}}},
		"a sector twice":          {{{2, 3, 4}, {2, 6, 5}}, {{0, 3, 4}, {0, 6, 5}}},
		"the same ones":           {{{2, 3, 4}, {2, 3, 4}}, {{0, 3, 4}, {0, 3, 4}}},
		"the other way round":     {{{2, 7, 5}, {2, 3, 4}}, {{0, 7, 5}, {0, 3, 4}}},
		"both ways":               {{{2, 7, 5}, {2, 3, 4}, {2, 7, 5}}, {{0, 7, 5}, {0, 3, 9}}},
		"from the end on":         {{{2, 30, 10}, {2, 0, 10}}, {{0, 30, 10}, {0, 0, 10}}},
		"up to the end":           {{{2, 30, 5}, {2, 35, 5}}, {{0, 30, 10}}},
		"from the first one on":   {{{2, 0, 5}, {2, 5, 5}}, {{0, 0, 10}}},
		"where the step would be": {{{2, 3, 4}, {2, 4, 4}}, {{0, 3, 4}, {0, 4, 4}}},
	} {
		planAsked(t, what, onGround(concat(l[0]...)), steps(c, concat(l[1]...)))
	}
	planAsked(t, "of two kids", onGround(concat([3]int{1, 3, 4}, [3]int{3, 7, 5})), steps(b, d, concat([3]int{0, 3, 4}, [3]int{1, 7, 5})))
	planAsked(t, "another between", onGround(concat([3]int{1, 3, 4}, [3]int{3, 7, 5}, [3]int{1, 7, 5})), steps(b, d, concat([3]int{0, 3, 4}, [3]int{1, 7, 5}, [3]int{0, 7, 5})))
	planAsked(t, "two disks on one device", steps(b, b, concat([3]int{0, 3, 4}, [3]int{1, 7, 5})), steps(b, b, concat([3]int{0, 3, 4}, [3]int{1, 7, 5})))
	planAsked(t, "two mirrors of one disk", steps(b, mirror(20, 0), mirror(20, 0), concat([3]int{1, 3, 4}, [3]int{2, 7, 5})),
		steps(b, mirror(20, 0), mirror(20, 0), concat([3]int{1, 3, 4}, [3]int{2, 7, 5})))
	planAsked(t, "of a mirror", steps(b, mirror(20, 0), concat([3]int{1, 3, 4}, [3]int{1, 7, 5})), steps(b, mirror(20, 0), concat([3]int{1, 3, 9})))
}

// P16.1 (joined): neighbours that go on only once they were fused, or where both of their kids have one place.
func TestJoinedOnceFused(t *testing.T) {
	one, two, three := concat([3]int{2, 3, 4}), concat([3]int{2, 7, 5}), concat([3]int{0, 0, 2}, [3]int{2, 12, 6})
	planAsked(t, "two", onGround(one, two, concat([3]int{4, 0, 4}, [3]int{5, 0, 5})), steps(c, concat([3]int{0, 3, 9})))
	planAsked(t, "the end of one, the beginning of the other", onGround(one, two, concat([3]int{4, 1, 3}, [3]int{5, 0, 2})), steps(c, concat([3]int{0, 4, 5})))
	planAsked(t, "not the end of one", onGround(one, two, concat([3]int{4, 0, 3}, [3]int{5, 0, 5})), steps(c, concat([3]int{0, 3, 3}, [3]int{0, 7, 5})))
	planAsked(t, "not the beginning of the other", onGround(one, two, concat([3]int{4, 0, 4}, [3]int{5, 1, 4})), steps(c, concat([3]int{0, 3, 4}, [3]int{0, 8, 4})))
	planAsked(t, "one and what lies ahead of it", onGround(one, concat([3]int{2, 1, 2}, [3]int{4, 0, 4})), steps(c, concat([3]int{0, 1, 6})))
	planAsked(t, "one and what lies behind it", onGround(one, concat([3]int{4, 0, 4}, [3]int{2, 7, 2})), steps(c, concat([3]int{0, 3, 6})))
	planAsked(t, "both", onGround(one, concat([3]int{2, 1, 2}, [3]int{4, 0, 4}, [3]int{2, 7, 2})), steps(c, concat([3]int{0, 1, 8})))
	planAsked(t, "what goes on in the kid, not here", onGround(two, concat([3]int{4, 0, 2}, [3]int{0, 0, 1}, [3]int{4, 2, 3})),
		steps(a, c, concat([3]int{1, 7, 2}, [3]int{0, 0, 1}, [3]int{1, 9, 3})))
	planAsked(t, "the kid in pieces", onGround(three, concat([3]int{4, 0, 1}, [3]int{4, 1, 3}, [3]int{4, 4, 4})), steps(a, c, concat([3]int{0, 0, 2}, [3]int{1, 12, 6})))
	planAsked(t, "the last of one, the first of the other", onGround(concat([3]int{0, 0, 3}, [3]int{2, 3, 4}), concat([3]int{2, 7, 5}, [3]int{1, 4, 4}), concat([3]int{4, 0, 7}, [3]int{5, 0, 9})),
		steps(a, b, c, concat([3]int{0, 0, 3}, [3]int{2, 3, 9}, [3]int{1, 4, 4})))
	planAsked(t, "three of three", onGround(one, two, three, concat([3]int{4, 0, 4}, [3]int{5, 0, 5}, [3]int{6, 2, 6})), steps(c, concat([3]int{0, 3, 15})))
	planAsked(t, "three deep", onGround(one, two, concat([3]int{4, 2, 2}, [3]int{5, 0, 5}), concat([3]int{6, 0, 7}, [3]int{2, 12, 3})), steps(c, concat([3]int{0, 5, 10})))
	planAsked(t, "one place", onGround(mirror(20, 1, 3), concat([3]int{4, 0, 20}), concat([3]int{4, 2, 3}, [3]int{5, 5, 4})), steps(b, d, mirror(20, 0, 1), concat([3]int{2, 2, 7})))
	planAsked(t, "one of itself, twice", onGround(one, concat([3]int{4, 0, 4}, [3]int{4, 0, 4})), steps(c, concat([3]int{0, 3, 4}, [3]int{0, 3, 4})))
	exprAsked(t, "concat(linear(concat(a, b), 0, 15), linear(b, 5, 15))", steps(a, b, concat([3]int{0, 0, 10}, [3]int{1, 0, 20})))
}

// P16.1 (skipped): a Concat that is all of one kid.
func TestSkipped(t *testing.T) {
	all := concat([3]int{1, 0, 20})
	planAsked(t, "of a disk", onGround(all), steps(b))
	planAsked(t, "of one that is so itself", onGround(all, concat([3]int{4, 0, 20})), steps(b))
	planAsked(t, "of one of one of one", onGround(all, concat([3]int{4, 0, 20}), concat([3]int{5, 0, 20}), concat([3]int{6, 0, 20})), steps(b))
	planAsked(t, "once joined", onGround(concat([3]int{1, 0, 4}, [3]int{1, 4, 16})), steps(b))
	planAsked(t, "once joined, sector by sector", steps(disk(0, 10), concat([3]int{0, 0, 1}, [3]int{0, 1, 1}, [3]int{0, 2, 1}, [3]int{0, 3, 1}, [3]int{0, 4, 1},
		[3]int{0, 5, 1}, [3]int{0, 6, 1}, [3]int{0, 7, 1}, [3]int{0, 8, 1}, [3]int{0, 9, 1})), steps(a))
	planAsked(t, "once fused", onGround(concat([3]int{0, 0, 10}, [3]int{1, 0, 20}), concat([3]int{4, 10, 20})), steps(b))
	planAsked(t, "once fused, the first one", onGround(concat([3]int{1, 0, 20}, [3]int{0, 0, 10}), concat([3]int{4, 0, 20})), steps(b))
	planAsked(t, "once fused and joined", onGround(concat([3]int{1, 0, 8}), concat([3]int{1, 8, 12}), concat([3]int{4, 0, 8}, [3]int{5, 0, 12})), steps(b))
	planAsked(t, "once fused and joined, three deep", onGround(concat([3]int{1, 0, 8}, [3]int{0, 0, 10}), concat([3]int{1, 12, 8}), concat([3]int{1, 8, 4}, [3]int{5, 0, 8}),
		concat([3]int{4, 0, 8}, [3]int{6, 0, 12})), steps(b))
	planAsked(t, "of a mirror", onGround(mirror(20, 1, 3), concat([3]int{4, 0, 20})), steps(b, d, mirror(20, 0, 1)))
	planAsked(t, "below others", onGround(all, mirror(20, 4, 3, 4), crypt(kBytes, 20, 5), concat([3]int{6, 0, 20}), integrity(kBytes, 16, 7)),
		steps(b, d, mirror(20, 0, 1, 0), crypt(kBytes, 20, 2), integrity(kBytes, 16, 3)))
	planAsked(t, "a snapshot's both", onGround(concat([3]int{0, 0, 10}), all, snapshot(4, 10, 1, 3, 4, 5)), steps(a, b, snapshot(4, 10, 1, 3, 0, 1)))
	planAsked(t, "of a disk of a sector", steps(disk(0, 10), concat([3]int{0, 4, 1}), mirror(1, 1), concat([3]int{2, 0, 1})), steps(a, concat([3]int{0, 4, 1}), mirror(1, 1)))
	// not all of one kid
	planAsked(t, "short by a sector", onGround(concat([3]int{1, 0, 19})), steps(b, concat([3]int{0, 0, 19})))
	planAsked(t, "short by the first sector", onGround(concat([3]int{1, 1, 19})), steps(b, concat([3]int{0, 1, 19})))
	planAsked(t, "one sector of many", onGround(concat([3]int{1, 0, 1})), steps(b, concat([3]int{0, 0, 1})))
	planAsked(t, "twice all", onGround(concat([3]int{1, 0, 20}, [3]int{1, 0, 20})), steps(b, concat([3]int{0, 0, 20}, [3]int{0, 0, 20})))
	planAsked(t, "all and another one", onGround(concat([3]int{1, 0, 20}, [3]int{0, 3, 1})), steps(a, b, concat([3]int{1, 0, 20}, [3]int{0, 3, 1})))
	planAsked(t, "all of it, in another order", onGround(concat([3]int{1, 10, 10}, [3]int{1, 0, 10})), steps(b, concat([3]int{0, 10, 10}, [3]int{0, 0, 10})))
	planAsked(t, "all of a kid that is not all of its own", onGround(concat([3]int{1, 0, 19}), concat([3]int{4, 0, 19})), steps(b, concat([3]int{0, 0, 19})))
	planAsked(t, "a mirror of one kid is none", onGround(all, mirror(20, 4)), steps(b, mirror(20, 0)))
	planAsked(t, "its first sector is not the kid's", onGround(concat([3]int{1, 0, 19}), concat([3]int{4, 1, 18})), steps(b, concat([3]int{0, 1, 18})))
}

// P16.1, P16.3: what does not lie below the Root is left out, and what does keeps its order.
func TestLeftOut(t *testing.T) {
	unused := []api.Step{disk(1, 256), crypt(kBytes, 256, 0), concat([3]int{0, 3, 4}, [3]int{1, 7, 5})}
	core := []api.Step{disk(2, 20), disk(4, 20), mirror(20, 1, 0), crypt(kBytes, 20, 2)}
	for at := range len(core) + 1 {
		for _, both := range []bool{false, true} { // ahead of the Root, behind it and between; and twice
			p := api.Plan{Steps: slices.Clone(core), Root: len(core) - 1}
			p = planted(p, at, unused)
			if both {
				p = planted(p, len(p.Steps), unused)
				p = planted(p, 0, unused)
			}
			planAsked(t, fmt.Sprint("at ", at, ", ", both), p, steps(core...))
		}
	}
	for root, want := range []api.Plan{steps(a), steps(b), steps(c), steps(d), steps(c, concat([3]int{0, 3, 30})), steps(b, d, mirror(20, 1, 0)), steps(c, concat([3]int{0, 3, 30}), crypt(kBytes, 30, 1)), steps(d)} {
		p := onGround(concat([3]int{2, 3, 30}), mirror(20, 3, 1), crypt(kBytes, 30, 4), concat([3]int{3, 0, 20}))
		p.Root = root
		planAsked(t, fmt.Sprint("Root ", root), p, want)
		p.ReadOnly, want.ReadOnly = true, true
		planAsked(t, fmt.Sprint("Root ", root, ", read only"), p, want)
	}
	// steps that were used until those over them were fused, and one that is used still by another step
	kid := concat([3]int{0, 3, 2}, [3]int{1, 7, 3})
	planAsked(t, "fused away", onGround(kid, concat([3]int{4, 0, 2})), steps(a, concat([3]int{0, 3, 2})))
	planAsked(t, "used by a crypt too", onGround(kid, crypt(kBytes, 5, 4), concat([3]int{4, 3, 2}, [3]int{5, 0, 3})),
		steps(a, b, kid, crypt(kBytes, 5, 2), concat([3]int{1, 8, 2}, [3]int{3, 0, 3})))
	planAsked(t, "used by many", onGround(kid, crypt(kBytes, 5, 4), mirror(5, 4, 5, 4), snapshot(1, 5, 1, 4, 4, 6), integrity(kBytes, 4, 4), concat([3]int{7, 0, 2}, [3]int{8, 3, 1}, [3]int{4, 2, 3})),
		steps(a, b, kid, crypt(kBytes, 5, 2), mirror(5, 2, 3, 2), snapshot(1, 5, 1, 4, 2, 4), integrity(kBytes, 4, 2), concat([3]int{5, 0, 2}, [3]int{6, 3, 1}, [3]int{1, 7, 3})))
	planAsked(t, "two Concats that are alike", onGround(concat([3]int{2, 0, 5}), concat([3]int{2, 0, 5}), mirror(5, 4, 5)), steps(c, concat([3]int{0, 0, 5}), concat([3]int{0, 0, 5}), mirror(5, 1, 2)))
	// of two kids the greater number stands first
	planAsked(t, "crossed", onGround(mirror(20, 3, 1), mirror(10, 0), concat([3]int{5, 0, 3}, [3]int{4, 0, 3}, [3]int{0, 0, 3})),
		steps(a, b, d, mirror(20, 2, 1), mirror(10, 0), concat([3]int{4, 0, 3}, [3]int{3, 0, 3}, [3]int{0, 0, 3})))
}

// planted is a plan with steps that it does not use in it, from the number at on.
func planted(p api.Plan, at int, more []api.Step) api.Plan {
	up := func(kid, by int) int {
		if kid >= at {
			return kid + by
		}
		return kid
	}
	p, add := owned(p), owned(api.Plan{Steps: more}).Steps
	for i := range p.Steps {
		for k, kid := range p.Steps[i].Kids {
			p.Steps[i].Kids[k] = up(kid, len(add))
		}
		for k, x := range p.Steps[i].Extents {
			p.Steps[i].Extents[k].Kid = up(x.Kid, len(add))
		}
	}
	for i := range add {
		for k := range add[i].Kids {
			add[i].Kids[k] += at
		}
		for k := range add[i].Extents {
			add[i].Extents[k].Kid += at
		}
	}
	p.Root = up(p.Root, len(add))
	p.Steps = slices.Insert(p.Steps, at, add...)
	return p
}

// P16.1: a plan of one step, read only or not.
func TestOneStep(t *testing.T) {
	for i, st := range []api.Step{a, b, c, d} {
		for _, readOnly := range []bool{false, true} {
			p := api.Plan{Steps: []api.Step{st}, ReadOnly: readOnly}
			planAsked(t, fmt.Sprint("disk ", i), p, p)
		}
	}
}

// manyPlan is a plan of a disk of so many sectors, and Concats over each other, each of as many sectors in pieces of some of them, the last one first.
func manyPlan(size, concats, piece int) (api.Plan, []int) {
	p := steps(disk(0, size))
	for kid := range concats {
		var parts [][3]int
		for end := size; end > 0; end -= piece {
			parts = append(parts, [3]int{kid, max(0, end-piece), min(piece, end)})
		}
		p.Steps = append(p.Steps, concat(parts...))
		piece++
	}
	p.Root = concats
	return p, []int{size}
}

// P16.1, P16.2: as many steps, and as many extents, as may be.
func TestMany(t *testing.T) {
	tower := steps(disk(0, 8))
	for kid := range 999 {
		tower.Steps = append(tower.Steps, concat([3]int{kid, 0, 8}))
	}
	tower.Root = 999
	if q := promisedAsked(t, "a tower of 1000", tower, []int{8}); len(q.Steps) != 1 || q.Root != 0 {
		t.Errorf("%d steps", len(q.Steps))
	}
	crypts := steps(disk(0, 8))
	for kid := range 999 {
		crypts.Steps = append(crypts.Steps, crypt(kBytes, 8, kid))
	}
	crypts.Root = 999
	if q := promisedAsked(t, "1000, and nothing to do", crypts, []int{8}); !samePlans(q, crypts) {
		t.Errorf("%d steps", len(q.Steps))
	}
	mirrors := steps(disk(0, 8))
	for kid := range 999 {
		mirrors.Steps = append(mirrors.Steps, mirror(8, slices.Repeat([]int{kid}, 4)...))
	}
	mirrors.Root = 999
	if q := promisedAsked(t, "1000, each four times the one ahead", mirrors, []int{8}); !samePlans(q, mirrors) {
		t.Errorf("%d steps", len(q.Steps))
	}
	other, _ := manyPlan(8, 998, 1)
	other.Steps, other.Root = append(other.Steps, mirror(8, slices.Repeat([]int{998}, 4)...)), 999
	promisedAsked(t, "a mirror over 998", other, []int{8})

	p, devices := manyPlan(8192, 1, 9)
	p.Steps[1] = concat()
	for i := range 1000 {
		x := api.Extent{From: 8 * i, Count: 8, First: 8 * (999 - i)}
		p.Steps[1].Extents, p.Steps[1].Size = append(p.Steps[1].Extents, x), x.From+x.Count
	}
	if q := promisedAsked(t, "1000 extents", p, devices); !samePlans(q, p) {
		t.Errorf("%d extents", len(q.Steps[q.Root].Extents))
	}
	for i := range p.Steps[1].Extents {
		p.Steps[1].Extents[i].First = 8 * i
	}
	if q := promisedAsked(t, "1000 extents that go on", p, devices); len(q.Steps) != 2 || !slices.Equal(q.Steps[1].Extents, []api.Extent{{Count: 8000}}) {
		t.Errorf("%v", q)
	}
}

// P16.2: more than 1000 extents, once they are fused; up to one for each sector.
func TestManyOnceFused(t *testing.T) {
	for _, concats := range []int{2, 3, 5, 9, 30} {
		p, devices := manyPlan(8192, concats, 9)
		if !plan.Right(p, devices) {
			t.Fatalf("%d Concats: no plan", concats)
		}
		q := promisedAsked(t, fmt.Sprint(concats, " Concats"), p, devices)
		if n := len(q.Steps[q.Root].Extents); len(q.Steps) != 2 || n <= 1000 || n > 8192 {
			t.Errorf("%d Concats: %d steps, %d extents", concats, len(q.Steps), n)
		}
	}
	// a kid of 1000 extents of a sector, eight times
	kid, over := concat(), concat()
	for i := range 1000 {
		kid.Extents = append(kid.Extents, api.Extent{From: i, Count: 1, First: 999 - i})
	}
	kid.Size = 1000
	for i := range 8 {
		over.Extents = append(over.Extents, api.Extent{From: 1000 * i, Count: 1000, Kid: 1})
	}
	over.Size = 8000
	q := promisedAsked(t, "eight thousand", steps(disk(0, 1000), kid, over), []int{1000})
	if n := len(q.Steps[q.Root].Extents); n != 8000 || q.Steps[q.Root].Extents[7999] != (api.Extent{From: 7999, Count: 1}) {
		t.Errorf("%d extents", n)
	}
	// as much work as a plan may ask for
	p, _ := manyPlan(8192, 998, 9)
	p.Steps, p.Root = append(p.Steps, mirror(8192, 998, 900, 800, 700)), 999
	if q := Optimize(p); len(q.Steps) != 6 || leftToDo(q) != "" {
		t.Errorf("%d steps: %s", len(q.Steps), leftToDo(q))
	}
}

// P16.1 to P16.3: plans of stacks with nodes of each kind, each step of which may be the Root.
func TestStacks(t *testing.T) {
	for _, expr := range kinds {
		for _, end := range []string{"v", "v readonly", "a", "d"} {
			p, devices := lowered(t, ground+"volume v = "+expr+"; export "+end+";")
			promisedAsked(t, expr, p, devices)
			for root := range p.Steps {
				p.Root = root
				promisedAsked(t, fmt.Sprint(expr, ", Root ", root), p, devices)
			}
		}
	}
	nodes := ground // as many nodes as may be
	for i := range 5 {
		nodes += fmt.Sprintf("volume v%d = %sb%s; ", i, strings.Repeat("linear(", 11), strings.Repeat(", 0, 20)", 11))
	}
	p, devices := lowered(t, nodes+"volume w = mirror(v0, crypt(v1, k), concat(linear(v4, 0, 7), linear(v4, 7, 13))); export v4;")
	if q := promisedAsked(t, "64 nodes", p, devices); !samePlans(q, steps(b)) {
		t.Errorf("%v", q)
	}
	p.Root = len(p.Steps) - 1
	if q := promisedAsked(t, "64 nodes, the last one", p, devices); !samePlans(q, steps(b, crypt(kBytes, 20, 0), mirror(20, 0, 1, 0))) || len(p.Steps) != 64 {
		t.Errorf("%v", q)
	}
}

// P16.1 to P16.3: plans by chance.
func TestByChance(t *testing.T) {
	t.Parallel()
	r := rand.New(rand.NewSource(16))
	told := map[string]int{}
	for range 30000 {
		p, devices := grown(r, 1+r.Intn(14), math.MaxInt)
		if !plan.Right(p, devices) {
			t.Fatalf("no plan: %v over %v", p, devices)
		}
		q := promisedAsked(t, "by chance", p, devices)
		told[fmt.Sprint("kind ", q.Steps[q.Root].Kind)]++
		switch {
		case len(q.Steps) == len(p.Steps):
			told["nothing left out"]++
		case len(q.Steps) == 1 && p.Steps[p.Root].Kind == api.Concat:
			told["the Root a disk"]++
		}
		for _, st := range q.Steps {
			told[fmt.Sprint("extents ", min(len(st.Extents), 12))]++
		}
	}
	for _, seldom := range []string{"kind 1", "kind 3", "kind 4", "kind 5", "kind 6", "kind 7", "kind 8", "nothing left out", "the Root a disk", "extents 1", "extents 2", "extents 6", "extents 9", "extents 12"} {
		if told[seldom] < 100 {
			t.Errorf("%q was told too seldom: %v", seldom, told)
		}
	}
}

// meansAsked asks that a request, done by the steps of what is told, tells what it tells done by the steps of what was handed in. It tells the
// world behind it.
func meansAsked(t *testing.T, p, q api.Stack, w []api.Content, r api.Request) ([]api.Content, api.Errno) {
	t.Helper()
	want, wantData, wantErr := target.Do(p, w, r)
	got, data, e := target.Do(q, w, r)
	if e != wantErr || !bytes.Equal(data, wantData) || differ(got, want) {
		t.Fatalf("%v of %d from %d on: %d bytes, %v; as it was handed in %d bytes, %v\n%v\n%v", r.Cmd, r.N, r.At, len(data), e, len(wantData), wantErr, q, p)
	}
	return want, e
}

// laid is a plan as a stack and what is told of it as one, and a world in which its content lies.
func laid(p api.Plan, devices []int, seed int) (api.Stack, api.Stack, []api.Content) {
	w := noughts(devices)
	p = owned(p)
	lay(p, w, p.Root, 0, sectors(p.Steps[p.Root].Size, seed))
	return stacked(p, devices), stacked(Optimize(p), devices), w
}

// P16.2: requests on stacks of each kind, and of each within others: every sector is read and written by itself, and many by one request.
func TestMeansTheSame(t *testing.T) {
	t.Parallel()
	for _, expr := range kinds {
		for _, end := range []string{"", " readonly"} {
			plan, devices := lowered(t, ground+"volume v = "+expr+"; export v"+end+";")
			p, q, w := laid(plan, devices, 1)
			size := plan.Steps[plan.Root].Size
			content := sectors(size, 1)
			for i := range size {
				if _, data, e := target.Do(q, w, api.Request{Cmd: api.Read, At: i, N: 1}); e != api.OK || !bytes.Equal(data, content[64*i:64*i+64]) {
					t.Fatalf("%s: sector %d is not what was laid there: %v", expr, i, e)
				}
			}
			for i := range size {
				w, _ = meansAsked(t, p, q, w, api.Request{Cmd: api.Read, At: i, N: 1})
				w, _ = meansAsked(t, p, q, w, api.Request{Cmd: api.Store, At: i, N: 1, Data: sectors(1, i)})
				w, _ = meansAsked(t, p, q, w, api.Request{Cmd: api.Read, At: i, N: 1})
			}
			w, _ = meansAsked(t, p, q, w, api.Request{Cmd: api.Flush})
			for at := range size + 2 {
				for _, n := range []int{0, 2, 16, 17} {
					w, _ = meansAsked(t, p, q, w, api.Request{Cmd: api.Read, At: at, N: n})
					w, _ = meansAsked(t, p, q, w, api.Request{Cmd: api.Store, At: at, N: n, Data: sectors(n, at)})
					w, _ = meansAsked(t, p, q, w, api.Request{Cmd: api.Trim, At: at, N: n})
				}
			}
		}
	}
}

// P16.2: plans by chance, on devices that die, go bad and are tampered with, request by request.
func TestMeansTheSameByChance(t *testing.T) {
	t.Parallel()
	r := rand.New(rand.NewSource(162))
	told := map[string]int{}
	for range 1500 {
		plan, devices := grown(r, 1+r.Intn(12), 400)
		p, q, w := laid(plan, devices, r.Int())
		for range 30 {
			var e api.Errno
			w, e = meansAsked(t, p, q, hurt(r, w), drawn(r, plan.Steps[plan.Root].Size))
			told[fmt.Sprint(e)]++
		}
	}
	for _, seldom := range []string{"error 0", "error 1", "error 141", "error 143", "error 144"} {
		if told[seldom] < 100 {
			t.Errorf("%q was told too seldom: %v", seldom, told)
		}
	}
}

// wildNumbers are numbers that may be none of anything.
var wildNumbers = []int{math.MinInt, math.MinInt + 1, -1 << 32, -8192, -1, 0, 1, 2, 3, 4, 17, 8192, 8193, 1 << 32, math.MaxInt - 1, math.MaxInt}

// untouched asks that Optimize ends and does not panic, and that what is handed in stays as it is.
func untouched(t *testing.T, p api.Plan) api.Plan {
	t.Helper()
	held := owned(p)
	q := Optimize(p)
	if !samePlans(p, held) {
		t.Fatalf("what was handed in was %v, and is %v", held, p)
	}
	return q
}

// P1: plans that are none.
func TestWild(t *testing.T) {
	for _, readOnly := range []bool{false, true} {
		for _, root := range wildNumbers {
			for _, l := range [][]api.Step{nil, {}} {
				if q := untouched(t, api.Plan{Steps: l, Root: root, ReadOnly: readOnly}); len(q.Steps) != 0 {
					t.Errorf("of no steps: %v", q)
				}
			}
			p := onGround(mirror(20, 1, 3), concat([3]int{4, 0, 20}))
			p.Root, p.ReadOnly = root, readOnly
			if q := untouched(t, p); (root < 0 || root > 5) != (len(q.Steps) == 0) {
				t.Errorf("Root %d: %v", root, q)
			}
		}
	}
	for _, n := range wildNumbers {
		for _, m := range wildNumbers {
			for kind := api.Kind(-1); kind <= 10; kind++ {
				st := api.Step{Kind: kind, Size: n, Kids: []int{m, n}, Chunk: m, Table: n, Slots: m}
				one := api.Step{Kind: kind, Size: m, Kids: []int{n}, Key: kBytes}
				two := api.Step{Kind: kind, Size: n, Dev: m}
				three := api.Step{Kind: kind, Size: n, Extents: []api.Extent{{From: n, Count: m, Kid: n, First: m}, {From: m, Count: n, Kid: m, First: n}}}
				four := api.Step{Kind: kind, Size: n, Kids: []int{0}, Extents: []api.Extent{{Count: m, First: n}, {From: m, Count: n, First: m}, {From: m + n, Count: -n, Kid: 1}}}
				for _, p := range []api.Plan{
					{Steps: []api.Step{st}, Root: n}, {Steps: []api.Step{disk(0, 3), st, one, two, three}, Root: m}, {Steps: []api.Step{disk(0, 3), three}, Root: 1},
					{Steps: []api.Step{disk(0, 3), one}, Root: 1}, {Steps: []api.Step{two}}, {Steps: []api.Step{disk(0, n), four, four}, Root: 2}, {Root: m},
				} {
					untouched(t, p)
				}
			}
		}
	}
}

// P1: plans that were right till something of them was made another thing. Those that are right still are told as they should be.
func TestWildByChance(t *testing.T) {
	t.Parallel()
	r := rand.New(rand.NewSource(161))
	seen := map[bool]int{}
	for range 60000 {
		p, devices := grown(r, 1+r.Intn(10), math.MaxInt)
		p = owned(p)
		for range 1 + r.Intn(3) {
			change(r, &p)
		}
		right := plan.Right(p, devices)
		if right {
			promisedAsked(t, "changed", p, devices)
		}
		untouched(t, p)
		seen[right]++
	}
	if seen[true] < 3000 || seen[false] < 30000 {
		t.Errorf("right and wrong ones: %v", seen)
	}
}

// change makes one number of a plan another one.
func change(r *rand.Rand, p *api.Plan) {
	st := &p.Steps[r.Intn(len(p.Steps))]
	numbers := []*int{&p.Root, &st.Size, &st.Dev, (*int)(&st.Kind)}
	for k := range st.Kids {
		numbers = append(numbers, &st.Kids[k])
	}
	for k := range st.Extents {
		x := &st.Extents[k]
		numbers = append(numbers, &x.From, &x.Count, &x.Kid, &x.First)
	}
	number := numbers[r.Intn(len(numbers))]
	if r.Intn(2) == 0 {
		*number += r.Intn(5) - 2
		return
	}
	*number = wildNumbers[r.Intn(len(wildNumbers))]
}

// P1: plans that are none in what Optimize looks at: nothing is told of them.
func TestUnsound(t *testing.T) {
	extents := func(size int, l ...api.Extent) api.Plan {
		return steps(disk(0, 10), api.Step{Kind: api.Concat, Size: size, Extents: l})
	}
	with := func(st api.Step, change func(st *api.Step)) api.Plan {
		change(&st)
		return steps(disk(0, 10), disk(0, 10), st)
	}
	for what, p := range map[string]api.Plan{
		"no step":                         {Root: 0, ReadOnly: true},
		"1001 steps":                      {Steps: slices.Repeat([]api.Step{a}, 1001)},
		"a Root below 0":                  {Steps: []api.Step{a}, Root: -1},
		"a Root behind all":               {Steps: []api.Step{a}, Root: 1},
		"a disk of no sector":             steps(disk(0, 0), a),
		"a disk of less than none":        steps(disk(0, -1), a),
		"a disk of 8193":                  steps(disk(0, 8193), a),
		"a Concat of 8193":                steps(disk(0, 8192), disk(1, 1), concat([3]int{0, 0, 8192}, [3]int{1, 0, 1})),
		"a Concat of nothing":             extents(0),
		"a Concat without extents":        extents(10),
		"a Concat short of its Size":      extents(10, api.Extent{Count: 4}, api.Extent{From: 4, Count: 5}),
		"a Concat beyond its Size":        extents(10, api.Extent{Count: 6}, api.Extent{From: 6, Count: 5}),
		"a sector between two extents":    extents(10, api.Extent{Count: 4}, api.Extent{From: 5, Count: 6}),
		"a sector of two extents":         extents(10, api.Extent{Count: 4}, api.Extent{From: 3, Count: 6}),
		"a sector ahead of all extents":   extents(10, api.Extent{From: 1, Count: 10}),
		"an extent of no sector":          extents(10, api.Extent{Count: 10}, api.Extent{From: 10}),
		"an extent of less than none":     extents(10, api.Extent{Count: 10}, api.Extent{From: 10, Count: 1}, api.Extent{From: 11, Count: -1}),
		"an extent from below 0":          extents(9, api.Extent{Count: 9, First: -1}),
		"an extent beyond its kid":        extents(9, api.Extent{Count: 9, First: 2}),
		"an extent far beyond its kid":    extents(9, api.Extent{Count: 9, First: math.MaxInt - 3}),
		"an extent of a later step":       extents(9, api.Extent{Count: 9, Kid: 2}),
		"an extent of itself":             extents(9, api.Extent{Count: 9, Kid: 1}),
		"an extent of no step":            extents(9, api.Extent{Count: 9, Kid: -1}),
		"a kid that is a later step":      steps(a, mirror(10, 2), mirror(10, 0)),
		"a kid that is itself":            steps(a, mirror(10, 1)),
		"a kid that is none":              steps(a, mirror(10, -1)),
		"a second kid that is none":       steps(a, mirror(10, 0, 5)),
		"a disk of extents":               with(disk(0, 10), func(st *api.Step) { st.Extents = []api.Extent{{Count: 10}} }),
		"a mirror of extents":             with(mirror(10, 0), func(st *api.Step) { st.Extents = []api.Extent{{Count: 10}} }),
		"a Concat with a kid that is not": with(concat([3]int{0, 0, 10}), func(st *api.Step) { st.Kids = []int{2} }),
	} {
		if q := untouched(t, p); len(q.Steps) != 0 || q.Root != 0 || q.ReadOnly {
			t.Errorf("%s: %v", what, q)
		}
		if plan.Right(p, []int{10, 1}) {
			t.Errorf("%s is right", what)
		}
	}
}

// P1: what would go on and on: steps that are each other's kids, extents that double with each step, more steps than a plan has.
func TestItEnds(t *testing.T) {
	untouched(t, steps(concat([3]int{0, 0, 3})))
	untouched(t, steps(mirror(3, 0)))
	untouched(t, steps(mirror(3, 1), mirror(3, 0)))
	untouched(t, steps(concat([3]int{1, 0, 3}), concat([3]int{0, 0, 3})))
	first := concat([3]int{0, 1, 1}, [3]int{0, 0, 1})
	double, wrapped, thousand := steps(disk(0, 2), first), steps(disk(0, 2), first), steps(disk(0, 2), first)
	for kid := 1; kid < 60; kid++ {
		size := double.Steps[kid].Size
		double.Steps = append(double.Steps, concat([3]int{kid, 0, size}, [3]int{kid, 0, size}))
		// each sector many times
		over := api.Step{Kind: api.Concat, Size: 2}
		// and in extents whose sum runs over again and again, and comes out right at last
		around := api.Step{Kind: api.Concat, Size: 2}
		end := 0
		for range 50 {
			over.Extents = append(over.Extents, api.Extent{Count: 2, Kid: kid})
			for _, count := range []int{math.MaxInt, math.MaxInt, 2} {
				around.Extents = append(around.Extents, api.Extent{From: end, Count: count, Kid: kid})
				end += count
			}
		}
		around.Extents = append(around.Extents, api.Extent{From: end, Count: 2 - end, Kid: kid})
		thousand.Steps, wrapped.Steps = append(thousand.Steps, over), append(wrapped.Steps, around)
	}
	for _, p := range []api.Plan{double, thousand, wrapped} {
		p.Root = len(p.Steps) - 1
		untouched(t, p)
	}
	long := steps(disk(0, 8))
	for kid := range 200000 {
		long.Steps = append(long.Steps, mirror(8, kid))
	}
	long.Root = 200000
	untouched(t, long)
}

// scribble makes all that a plan holds another thing, and what lies behind its lists.
func scribble(p api.Plan) {
	for i := range p.Steps {
		st := p.Steps[i]
		for k := range st.Extents {
			st.Extents[k] = api.Extent{From: 9, Count: 9, Kid: 9, First: 9}
		}
		for k := range st.Kids {
			st.Kids[k] = -9
		}
		clear(st.Key)
		clear(st.Root)
		_, _ = append(st.Kids, -7), append(st.Extents, api.Extent{From: 7})
		_, _ = append(st.Key, 77), append(st.Root, 77)
		p.Steps[i] = api.Step{}
	}
	_ = append(p.Steps, api.Step{Kind: 77})
}

// P2, rule 4: what is told is the same again, and shares no memory with what was handed in, nor do two answers, nor two lists of one.
func TestMemory(t *testing.T) {
	r := rand.New(rand.NewSource(164))
	for range 2000 {
		p, _ := grown(r, 1+r.Intn(12), math.MaxInt)
		p = owned(p)
		held := owned(p)
		q := Optimize(p)
		told := owned(q)
		again := Optimize(p)
		if !samePlans(again, told) {
			t.Fatalf("told %v, and then %v", told, again)
		}
		scribble(q)
		if !samePlans(p, held) || !samePlans(again, told) || !samePlans(Optimize(p), told) {
			t.Fatalf("what was told is kept, or shares memory with what was handed in: %v", held)
		}
		scribble(p)
		if !samePlans(again, told) {
			t.Fatalf("what was handed in is kept: %v", held)
		}
		for i := range again.Steps {
			alone := api.Plan{Steps: []api.Step{again.Steps[i]}}
			scribble(alone)
			for k := range again.Steps {
				if k != i && !sameSteps(again.Steps[k], told.Steps[k]) {
					t.Fatalf("the steps %d and %d of %v share memory", i, k, told)
				}
			}
			again.Steps[i] = owned(told).Steps[i]
		}
	}
}

// Rule 4: what lies behind a list's length is neither looked at nor written into.
func TestBehindLists(t *testing.T) {
	p := onGround(concat([3]int{0, 3, 7}, [3]int{1, 0, 4}), concat([3]int{4, 5, 6}, [3]int{1, 4, 6}), mirror(12, 5, 5), crypt(kBytes, 12, 6), verity(rBytes, 5, 7))
	want := Optimize(p)
	held := owned(p)
	more := owned(p)
	l := append(more.Steps, api.Step{Kind: 77})
	more.Steps = l[:len(more.Steps)]
	for i := range more.Steps {
		st := &more.Steps[i]
		st.Kids = append(st.Kids, -5, 77)[:len(st.Kids)]
		st.Extents = append(st.Extents, api.Extent{From: st.Size, Count: 3}, api.Extent{From: 77})[:len(st.Extents)]
		st.Key = append(st.Key, 77)[:len(st.Key)]
		st.Root = append(st.Root, 77)[:len(st.Root)]
	}
	q := Optimize(more)
	if !samePlans(q, want) || !samePlans(more, held) {
		t.Errorf("%v; want %v", q, want)
	}
	scribble(q)
	for i, st := range more.Steps {
		kids, extents := st.Kids[:len(st.Kids)+2], st.Extents[:len(st.Extents)+2]
		if kids[len(kids)-2] != -5 || kids[len(kids)-1] != 77 || extents[len(extents)-2].Count != 3 || extents[len(extents)-1].From != 77 {
			t.Errorf("behind the lists of step %d stand %v, %v", i, kids, extents)
		}
		if key, root := st.Key[:len(st.Key)+1], st.Root[:len(st.Root)+1]; key[len(key)-1] != 77 || root[len(root)-1] != 77 {
			t.Errorf("behind the secrets of step %d stand %v, %v", i, key, root)
		}
	}
	if l[len(l)-1].Kind != 77 {
		t.Errorf("behind the steps stands %v", l[len(l)-1])
	}
}

// Rule 6: lists without elements may be nil or not.
func TestEmptyLists(t *testing.T) {
	p := onGround(concat([3]int{0, 3, 7}, [3]int{1, 0, 4}), concat([3]int{4, 5, 6}, [3]int{1, 4, 6}), mirror(12, 5, 5), crypt(kBytes, 12, 6), verity(rBytes, 5, 7))
	want := Optimize(p)
	for i := range p.Steps {
		st := &p.Steps[i]
		st.Kids, st.Extents = append([]int{}, st.Kids...), append([]api.Extent{}, st.Extents...)
		st.Key, st.Root = append([]byte{}, st.Key...), append([]byte{}, st.Root...)
	}
	if q := Optimize(p); !samePlans(q, want) {
		t.Errorf("%v; want %v", q, want)
	}
}
