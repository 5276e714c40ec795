package check

import (
	"bytes"
	"fmt"
	"iter"
	"math"
	"slices"
	"strings"
	"testing"

	"cofferdam/api"
	"cofferdam/area"
	"cofferdam/parse"
)

// Figures of keys and roots, and the bytes that they stand for.
const (
	kHex = "000102030405060708090a0b0c0d0e0f101112131415161718191a1b1c1d1e1f"
	lHex = "fedcba98765432100123456789abcdefffffffffffffffffffffffffffffffff"
	rHex = "a0a1a2a3a4a5a6a7a8a9aaabacadaeafb0b1b2b3b4b5b6b7b8b9babbbcbdbebf"
)

var (
	kBytes = []byte{0, 1, 2, 3, 4, 5, 6, 7, 8, 9, 10, 11, 12, 13, 14, 15, 16, 17, 18, 19, 20, 21, 22, 23, 24, 25, 26, 27, 28, 29, 30, 31}
	lBytes = []byte{0xfe, 0xdc, 0xba, 0x98, 0x76, 0x54, 0x32, 0x10, 1, 0x23, 0x45, 0x67, 0x89, 0xab, 0xcd, 0xef,
		255, 255, 255, 255, 255, 255, 255, 255, 255, 255, 255, 255, 255, 255, 255, 255}
	rBytes = []byte{160, 161, 162, 163, 164, 165, 166, 167, 168, 169, 170, 171, 172, 173, 174, 175,
		176, 177, 178, 179, 180, 181, 182, 183, 184, 185, 186, 187, 188, 189, 190, 191}
)

// ground is what most texts here stand on: the nodes 0 to 2 are a, b and c, of 10, 20 and 40 sectors, on the devices 0, 2 and 3.
const ground = "device a 10; journal j 256; device b 20; device c 40; key k $" + kHex + "; key l $" + lHex + "; root r $" + rHex + "; "

// groundStack is the stack of ground, with more Parts, of which the last one is exported.
func groundStack(readOnly bool, more ...api.Part) api.Stack {
	parts := []api.Part{disk(0, 10), disk(2, 20), disk(3, 40)}
	parts = append(parts, more...)
	return api.Stack{Devices: []int{10, 256, 20, 40}, Journal: 1, Parts: parts, Export: len(parts) - 1, ReadOnly: readOnly}
}

func disk(dev, size int) api.Part { return api.Part{Kind: api.Disk, Size: size, Dev: dev} }

func linear(first, size int, kid int) api.Part {
	return api.Part{Kind: api.Linear, Size: size, Kids: []int{kid}, First: first}
}

func concat(size int, kids ...int) api.Part {
	return api.Part{Kind: api.Concat, Size: size, Kids: kids}
}

func mirror(size int, kids ...int) api.Part {
	return api.Part{Kind: api.Mirror, Size: size, Kids: kids}
}

func snapshot(chunk, size int, origin, store int) api.Part {
	return api.Part{Kind: api.Snapshot, Size: size, Kids: []int{origin, store}, Chunk: chunk}
}

func crypt(key []byte, size int, kid int) api.Part {
	return api.Part{Kind: api.Crypt, Size: size, Kids: []int{kid}, Key: key}
}

func integrity(key []byte, size int, kid int) api.Part {
	return api.Part{Kind: api.Integrity, Size: size, Kids: []int{kid}, Key: key}
}

func verity(root []byte, size int, kid int) api.Part {
	return api.Part{Kind: api.Verity, Size: size, Kids: []int{kid}, Root: root}
}

func sameParts(a, b api.Part) bool {
	return a.Kind == b.Kind && a.Size == b.Size && slices.Equal(a.Kids, b.Kids) && a.Dev == b.Dev && a.First == b.First &&
		a.Chunk == b.Chunk && bytes.Equal(a.Key, b.Key) && bytes.Equal(a.Root, b.Root)
}

func sameStacks(a, b api.Stack) bool {
	return slices.Equal(a.Devices, b.Devices) && a.Journal == b.Journal && slices.EqualFunc(a.Parts, b.Parts, sameParts) &&
		a.Export == b.Export && a.ReadOnly == b.ReadOnly
}

// tree is a text's tree.
func tree(t *testing.T, s string) api.Node {
	t.Helper()
	n, e, at := parse.Parse(s)
	if e != api.OK {
		t.Fatalf("Parse(%q): %v at %d", s, e, at)
	}
	return n
}

// right is the stack of a text that has one; all of P13.2 is asked of it.
func right(t *testing.T, s string) api.Stack {
	t.Helper()
	stack, e, at := Check(tree(t, s))
	if e != api.OK || at != -1 {
		t.Fatalf("Check of %q: %v at %d; want OK at -1", s, e, at)
	}
	wholeAsked(t, s, stack)
	return stack
}

// stackAsked asks that a text has this stack.
func stackAsked(t *testing.T, s string, want api.Stack) {
	t.Helper()
	if stack := right(t, s); !sameStacks(stack, want) {
		t.Errorf("Check of %q:\n%v; want\n%v", s, stack, want)
	}
}

// faultAsked asks that a text has this fault, and no stack. The place is where an @ stands that is no part of the text; 0, if there is none.
func faultAsked(t *testing.T, s string, want api.Errno) {
	t.Helper()
	ahead, behind, found := strings.Cut(s, "@")
	place := len(ahead)
	if !found {
		place = 0
	}
	treeFaultAsked(t, tree(t, ahead+behind), want, place)
}

// treeFaultAsked asks that a tree has this fault at this place, and no stack.
func treeFaultAsked(t *testing.T, n api.Node, want api.Errno, place int) {
	t.Helper()
	if stack, e, at := Check(n); e != want || at != place || !sameStacks(stack, api.Stack{}) {
		s, _ := parse.Print(n)
		t.Errorf("Check of %q: %v, %v at %d; want no stack, %v at %d", s, stack, e, at, want, place)
	}
}

// fits tells whether a Part's Size, and what else it has, fit the Parts ahead of it and the devices.
func fits(s api.Stack, p api.Part) bool {
	var sizes []int
	all := 0
	for _, kid := range p.Kids {
		sizes = append(sizes, s.Parts[kid].Size)
		all += s.Parts[kid].Size
	}
	several := len(sizes) >= 2 && len(sizes) <= 4
	switch p.Kind {
	case api.Disk:
		return len(sizes) == 0 && p.Dev >= 0 && p.Dev < len(s.Devices) && p.Dev != s.Journal && s.Devices[p.Dev] == p.Size
	case api.Linear:
		return len(sizes) == 1 && p.First >= 0 && p.First+p.Size <= sizes[0]
	case api.Concat:
		return several && p.Size == all
	case api.Mirror:
		return several && slices.Max(sizes) == p.Size && slices.Min(sizes) == p.Size
	case api.Snapshot:
		if len(sizes) != 2 || sizes[0] != p.Size {
			return false
		}
		_, slots := area.Store(sizes[1], p.Size, p.Chunk)
		return slots > 0
	case api.Crypt:
		return len(sizes) == 1 && sizes[0] == p.Size && len(p.Key) == 32
	case api.Integrity:
		data, _ := area.Integrity(all)
		return len(sizes) == 1 && data == p.Size && len(p.Key) == 32
	case api.Verity:
		data, _ := area.Verity(all)
		return len(sizes) == 1 && data == p.Size && len(p.Root) == 32
	}
	return false
}

// wholeAsked asks all of P13.2 of a stack.
func wholeAsked(t *testing.T, text string, s api.Stack) {
	t.Helper()
	for i, p := range s.Parts {
		for _, kid := range p.Kids {
			if kid < 0 || kid >= i {
				t.Fatalf("%q: the kid %d of node %d does not stand ahead of it", text, kid, i)
			}
		}
		if p.Size < 1 || p.Size > 8192 || !fits(s, p) {
			t.Errorf("%q: node %d does not fit: %v", text, i, p)
		}
	}
	if s.Journal < 0 || s.Journal >= len(s.Devices) || s.Export < 0 || s.Export >= len(s.Parts) || len(s.Parts) > 64 {
		t.Fatalf("%q: %v", text, s)
	}
	taken := map[[2]int]int{}
	regions := Regions(s, s.Export, 0, s.Parts[s.Export].Size)
	if len(regions) < 1 || len(regions) > 256 {
		t.Errorf("%q: the exported node has %d regions", text, len(regions))
	}
	for _, r := range regions {
		if r[0] < 0 || r[0] >= len(s.Devices) || r[0] == s.Journal || r[1] < 0 || r[2] < 1 || r[1]+r[2] > s.Devices[r[0]] {
			t.Fatalf("%q: the region %v is not one of a device, or it is one of the journal's", text, r)
		}
		for i := range r[2] {
			taken[[2]int{r[0], r[1] + i}]++
		}
	}
	for sector, times := range taken {
		if times > 1 {
			t.Errorf("%q: sector %v lies in %d regions", text, sector, times)
		}
	}
}

// P13.1 (T1): each kind of expr alone, with all fields.
func TestKinds(t *testing.T) {
	for expr, want := range map[string]api.Stack{
		"linear(b, 5, 10)":   groundStack(false, linear(5, 10, 1)),
		"linear(a, 0, 10)":   groundStack(false, linear(0, 10, 0)),
		"concat(a, c)":       groundStack(false, concat(50, 0, 2)),
		"concat(c, a, b)":    groundStack(false, concat(70, 2, 0, 1)),
		"snapshot(a, b, 4)":  groundStack(false, snapshot(4, 10, 0, 1)),
		"snapshot(c, a, 3)":  groundStack(false, snapshot(3, 40, 2, 0)),
		"crypt(b, k)":        groundStack(false, crypt(kBytes, 20, 1)),
		"crypt(b, l)":        groundStack(false, crypt(lBytes, 20, 1)),
		"integrity(a, k)":    groundStack(false, integrity(kBytes, 8, 0)),
		"integrity(c, l)":    groundStack(false, integrity(lBytes, 32, 2)),
		"verity(a, r)":       groundStack(true, verity(rBytes, 4, 0)),
		"verity(b, r)":       groundStack(true, verity(rBytes, 9, 1)),
		"linear(b, 019, 01)": groundStack(false, linear(19, 1, 1)),
	} {
		stackAsked(t, ground+"volume v = "+expr+"; export v;", want)
	}
	stackAsked(t, "journal j 300; device x 7; device y 7; device z 7; volume v = mirror(z, x, y); export v;", api.Stack{
		Devices: []int{300, 7, 7, 7}, Parts: []api.Part{disk(1, 7), disk(2, 7), disk(3, 7), mirror(7, 2, 0, 1)}, Export: 3})
}

// P13.1 (T1): a use has no node of its own, whether it is a volume's whole expr or stands within another.
func TestUses(t *testing.T) {
	want := groundStack(false)
	want.Export = 1
	stackAsked(t, ground+"export b;", want)
	stackAsked(t, ground+"volume v = b; export v;", want)
	stackAsked(t, ground+"volume v = b; volume w = v; volume x = w; export x;", want)
	stackAsked(t, ground+"volume v = b; export b; volume w = v;", want)
	stackAsked(t, ground+"volume v = b; volume w = crypt(v, k); export w;", groundStack(false, crypt(kBytes, 20, 1)))
	want = groundStack(false, linear(3, 4, 2), concat(24, 1, 3))
	stackAsked(t, ground+"volume v = linear(c, 3, 4); volume w = v; volume x = concat(b, w); volume y = x; export y;", want)
}

// P13.1 (T1): exprs within one another: each one's node is behind those within it, in the text's order.
func TestNested(t *testing.T) {
	stackAsked(t, ground+"volume v = integrity(crypt(mirror(linear(b, 3, 8), linear(c, 0, 8)), l), k); export v;", groundStack(false,
		linear(3, 8, 1), linear(0, 8, 2), mirror(8, 3, 4), crypt(lBytes, 8, 5), integrity(kBytes, 6, 6)))
	stackAsked(t, ground+"volume v = snapshot(verity(concat(a, linear(b, 0, 9)), r), integrity(c, k), 16); export v;", groundStack(false,
		linear(0, 9, 1), concat(19, 0, 3), verity(rBytes, 8, 4), integrity(kBytes, 32, 2), snapshot(16, 8, 5, 6)))
	stackAsked(t, ground+"volume v = verity(linear(snapshot(crypt(a, k), linear(c, 1, 9), 2), 1, 9), r); volume w = linear(v, 2, 1); export w;", groundStack(true,
		crypt(kBytes, 10, 0), linear(1, 9, 2), snapshot(2, 10, 3, 4), linear(1, 9, 5), verity(rBytes, 4, 6), linear(2, 1, 7)))
}

// P13.1 (T1): a device and a volume that are used more than once have one node each; what is not exported may overlap.
func TestUsedTwice(t *testing.T) {
	want := groundStack(false, mirror(10, 0, 0), concat(40, 3, 3, 0, 3), crypt(kBytes, 40, 4), crypt(kBytes, 40, 4))
	want.Export = 1
	stackAsked(t, ground+"volume v = mirror(a, a); volume w = concat(v, v, a, v); volume x = crypt(w, k); volume y = crypt(w, k); export b;", want)
	stackAsked(t, ground+"volume v = crypt(c, k); volume w = mirror(linear(v, 0, 20), linear(v, 20, 20)); export w;", groundStack(false,
		crypt(kBytes, 40, 2), linear(0, 20, 3), linear(20, 20, 3), mirror(20, 4, 5)))
}

// P13.1 (T1): devices' nodes come first, wherever their statements stand; statements are taken in any order otherwise.
func TestDevicesFirst(t *testing.T) {
	stackAsked(t, "device a 4; volume v = linear(a, 0, 4); export v; device b 5; journal j 256; volume w = concat(b, v); device c 6;", api.Stack{
		Devices: []int{4, 5, 256, 6}, Journal: 2, Export: 3,
		Parts: []api.Part{disk(0, 4), disk(1, 5), disk(3, 6), linear(0, 4, 0), concat(9, 1, 3)}})
	stackAsked(t, "journal j 2048; device a 2048; export a readonly;", api.Stack{
		Devices: []int{2048, 2048}, Parts: []api.Part{disk(1, 2048)}, ReadOnly: true})
	stackAsked(t, "device a 1; export a; journal j 256;", api.Stack{
		Devices: []int{1, 256}, Journal: 1, Parts: []api.Part{disk(0, 1)}})
}

// P13.1 (T1): each fault of a statement alone, at its place.
func TestFaultsOfStatements(t *testing.T) {
	for s, want := range map[string]api.Errno{
		"@device a 4;":                        api.ErrTwice,
		"@device d 0;":                        api.ErrSize,
		"@device d 2049;":                     api.ErrSize,
		"@device d 999999999;":                api.ErrSize,
		"@journal i 256;":                     api.ErrExport,
		"@journal i 255;":                     api.ErrSize,
		"@key m $00;":                         api.ErrShape,
		"@root s $00;":                        api.ErrShape,
		"volume v = @x;":                      api.ErrName,
		"@export x;":                          api.ErrName,
		"@export j;":                          api.ErrKind,
		"@export k;":                          api.ErrKind,
		"@export r;":                          api.ErrKind,
		"export a; @export b;":                api.ErrExport,
		"export a readonly; @export a;":       api.ErrExport,
		"@export v; volume v = a;":            api.ErrName,
		"volume w = mirror(a,a); @export w;":  api.ErrOverlap,
		"@export d; device d 4;":              api.ErrName,
		"device d 2048; export d; @key k $0;": api.ErrTwice,
	} {
		faultAsked(t, ground+s, want)
	}
	faultAsked(t, "@export a;", api.ErrName)
}

// P13.1 (T1): behind all statements a journal and an export are asked for, at the place 0.
func TestNoJournalOrExport(t *testing.T) {
	for _, s := range []string{"", "device a 4;", "  device a 4; export a;", "journal j 256;", " device a 4; journal j 256; volume v = mirror(a, a);", "device a 4; volume v = mirror(a, a); export v;"} {
		faultAsked(t, s, api.ErrExport)
	}
	faultAsked(t, "device a 4; export a; journal j 256; @export a;", api.ErrExport)
	faultAsked(t, "device a 4; journal j 256; @journal i 2048; export a;", api.ErrExport)
	treeFaultAsked(t, api.Node{Op: "file", At: 7}, api.ErrExport, 0)
}

// P13.1 (T2): each fault of an expr alone, at its place.
func TestFaultsOfExprs(t *testing.T) {
	for s, want := range map[string]api.Errno{
		"@x": api.ErrName, "@v": api.ErrName, "@later": api.ErrName,
		"@j": api.ErrKind, "@k": api.ErrKind, "@r": api.ErrKind,
		"@linear(a, 0, 0)": api.ErrSize, "@linear(a, 0, 11)": api.ErrSize, "@linear(a, 10, 1)": api.ErrSize, "@linear(a, 999999999, 999999999)": api.ErrSize,
		"@linear(a, 10, 0)": api.ErrSize, "linear(@x, 0, 1)": api.ErrName, "linear(@j, 0, 1)": api.ErrKind,
		"@concat(a)": api.ErrShape, "@concat(a,a,a,a,a)": api.ErrShape, "concat(a, @x)": api.ErrName, "concat(@k, a)": api.ErrKind,
		"@mirror(a)": api.ErrShape, "@mirror(a,a,a,a,a)": api.ErrShape, "@mirror(a, b)": api.ErrSize, "@mirror(a, a, a, b)": api.ErrSize, "@mirror(b, a, a)": api.ErrSize,
		"mirror(a, a, a, @x)": api.ErrName, "mirror(a, @r, a, a)": api.ErrKind,
		"@snapshot(b, a, 10)": api.ErrSize, "@snapshot(b, a, 0)": api.ErrSize, "@snapshot(b, c, 17)": api.ErrSize, "@snapshot(b, c, 999999999)": api.ErrSize,
		"snapshot(@x, a, 1)": api.ErrName, "snapshot(a, @x, 1)": api.ErrName, "snapshot(a, @j, 1)": api.ErrKind,
		"@snapshot(a, verity(c, r), 1)": api.ErrReadOnly,
		"crypt(@x, k)":                  api.ErrName, "crypt(a, @x)": api.ErrName, "crypt(a, @a)": api.ErrKind, "crypt(a, @r)": api.ErrKind, "crypt(a, @j)": api.ErrKind,
		"@crypt(a, twin)":  api.ErrShape,
		"integrity(@x, k)": api.ErrName, "integrity(a, @x)": api.ErrName, "integrity(a, @r)": api.ErrKind, "integrity(a, @b)": api.ErrKind,
		"@integrity(linear(a, 0, 1), k)": api.ErrSize,
		"verity(@x, r)":                  api.ErrName, "verity(a, @x)": api.ErrName, "verity(a, @k)": api.ErrKind, "verity(a, @b)": api.ErrKind, "verity(a, @v)": api.ErrName,
		"@verity(linear(a, 0, 1), r)": api.ErrSize,
	} {
		faultAsked(t, ground+"key twin $"+strings.Repeat("5a", 32)+"; volume v = "+s+"; device later 4; export a;", want)
		for _, around := range []string{"crypt(%s, k)", "linear(%s, 0, 1)", "mirror(%s, a)", "concat(a, b, %s)", "snapshot(%s, a, 1)", "snapshot(a, %s, 1)", "integrity(%s, k)", "verity(%s, r)", "concat(a, mirror(b, crypt(%s, l)))"} {
			faultAsked(t, ground+"key twin $"+strings.Repeat("5a", 32)+"; volume w = a; volume v = "+fmt.Sprintf(around, s)+"; device later 4; export a;", want)
		}
	}
}

// P13.1 (T1): of two statements with a fault the first one's is told, whatever it is.
func TestFirstStatement(t *testing.T) {
	faults := map[string]api.Errno{
		"@device a 4;": api.ErrTwice, "@device d 0;": api.ErrSize, "@journal i 256;": api.ErrExport, "@root s $a;": api.ErrShape, "volume v = mirror(a, @k);": api.ErrKind,
		"volume v = @linear(a, 9, 2);": api.ErrSize, "@export x;": api.ErrName, "@export j;": api.ErrKind, "volume v = crypt(a, @l2);": api.ErrName,
	}
	for first, want := range faults {
		for second := range faults {
			faultAsked(t, ground+first+strings.ReplaceAll(second, "@", ""), want)
		}
	}
	for s, want := range faults { // what is asked behind all statements comes last
		faultAsked(t, ground+"volume w = mirror(a, a); "+s+" export w;", want)
		if strings.HasPrefix(s, "@export") {
			want = api.ErrExport // it is the second one
		}
		faultAsked(t, ground+"volume w = mirror(a, a); export w; "+s, want)
	}
	for s, want := range map[string]api.Errno{"@device a 4;": api.ErrTwice, "@device d 0;": api.ErrSize, "@key s $a;": api.ErrShape, "volume v = @x;": api.ErrName, "@export x;": api.ErrName} {
		faultAsked(t, "device a 4; "+s, want) // there is neither a journal nor an export
	}
	faultAsked(t, ground+"volume w = mirror(a, a); @export w;", api.ErrOverlap)
	faultAsked(t, "device a 10; volume w = mirror(a, a); export w;", api.ErrExport)
}

// P13.1 (T1): of one statement the first fault that the chapter names is told.
func TestFirstOfOneStatement(t *testing.T) {
	full := ground + "device d 4; device e 4; device f 4; device g 4; "
	keys := ground + "key m $" + kHex + "; key n $" + kHex + "; key o $" + kHex + "; key p $" + kHex + "; key q $" + kHex + "; "
	volumes := ground
	for i := range 16 {
		volumes += fmt.Sprintf("volume v%d = a; ", i)
	}
	for s, want := range map[string]api.Errno{
		full + "@device a 0;":           api.ErrTwice,
		full + "@journal a 0;":          api.ErrTwice,
		full + "@device h 0;":           api.ErrMany,
		full + "@journal h 0;":          api.ErrMany,
		full + "@journal h 256;":        api.ErrMany,
		ground + "@journal a 0;":        api.ErrTwice,
		ground + "@journal h 255;":      api.ErrSize,
		ground + "@journal h 2049;":     api.ErrSize,
		keys + "@key a $0;":             api.ErrTwice,
		keys + "@root a $0;":            api.ErrTwice,
		keys + "@key z $0;":             api.ErrMany,
		keys + "@root z $0;":            api.ErrMany,
		volumes + "@volume a = x;":      api.ErrTwice,
		volumes + "@volume v0 = v0;":    api.ErrTwice,
		volumes + "@volume w = x;":      api.ErrMany,
		volumes + "@volume w = w;":      api.ErrMany,
		ground + "@volume a = x;":       api.ErrTwice,
		ground + "export a; @export x;": api.ErrExport,
		ground + "export a; @export j;": api.ErrExport,
	} {
		faultAsked(t, s, want)
	}
}

// P13.1 (T2): of one expr the first fault is told: of what stands within it, in the text's order, then of its own the one named first.
func TestFirstOfOneExpr(t *testing.T) {
	for s, want := range map[string]api.Errno{
		"concat(@x)":                                     api.ErrName, // ahead of its shape
		"concat(@x, j)":                                  api.ErrName,
		"concat(@j, x)":                                  api.ErrKind,
		"mirror(a, @j, x)":                               api.ErrKind,
		"mirror(a, b, @x)":                               api.ErrName, // ahead of its sizes
		"linear(@x, 0, 0)":                               api.ErrName,
		"linear(@linear(a, 0, 0), 0, 0)":                 api.ErrSize,
		"@mirror(a, b, a, b, a)":                         api.ErrShape, // ahead of its sizes
		"@concat(wide, wide, wide, wide, wide)":          api.ErrShape,
		"mirror(@linear(a, 9, 2), x)":                    api.ErrSize,
		"mirror(@concat(a), linear(x, 0, 0))":            api.ErrShape,
		"mirror(linear(@x, 0, 0), concat(a))":            api.ErrName,
		"crypt(@concat(a), x)":                           api.ErrShape, // the kid's ahead of the name's
		"crypt(@x, y)":                                   api.ErrName,
		"crypt(crypt(a, @x), y)":                         api.ErrName,
		"crypt(crypt(a, @r), y)":                         api.ErrKind,
		"integrity(linear(a, 0, 1), @x)":                 api.ErrName, // the name's ahead of the size's
		"integrity(linear(a, 0, 1), @r)":                 api.ErrKind,
		"verity(linear(a, 0, 1), @x)":                    api.ErrName,
		"verity(linear(a, 0, 1), @k)":                    api.ErrKind,
		"@snapshot(b, verity(a, r), 10)":                 api.ErrSize, // ahead of what is read only
		"@snapshot(b, verity(a, r), 0)":                  api.ErrSize,
		"snapshot(@concat(a), x, 0)":                     api.ErrShape,
		"snapshot(a, @concat(a), 0)":                     api.ErrShape,
		"concat(a, mirror(a, @mirror(a)), x, concat(a))": api.ErrShape,
	} {
		faultAsked(t, ground+"device wide 2048; volume v = "+s+"; export x;", want)
	}
}

// P13.1 (T1): sizes at their ends.
func TestSizes(t *testing.T) {
	for n, want := range map[int]api.Errno{
		0: api.ErrSize, 1: api.OK, 2: api.OK, 254: api.OK, 255: api.OK, 256: api.OK, 257: api.OK, 2047: api.OK, 2048: api.OK, 2049: api.ErrSize, 4096: api.ErrSize, 8192: api.ErrSize, 999999999: api.ErrSize,
	} {
		if s := fmt.Sprintf("journal j 256; @device a %d; export a;", n); want != api.OK {
			faultAsked(t, s, want)
		} else {
			stackAsked(t, strings.Replace(s, "@", "", 1), api.Stack{Devices: []int{256, n}, Parts: []api.Part{disk(1, n)}})
		}
	}
	for n, want := range map[int]api.Errno{
		0: api.ErrSize, 1: api.ErrSize, 2: api.ErrSize, 254: api.ErrSize, 255: api.ErrSize, 256: api.OK, 257: api.OK, 2047: api.OK, 2048: api.OK, 2049: api.ErrSize, 8192: api.ErrSize, 999999999: api.ErrSize,
	} {
		if s := fmt.Sprintf("device a 4; @journal j %d; export a;", n); want != api.OK {
			faultAsked(t, s, want)
		} else {
			stackAsked(t, strings.Replace(s, "@", "", 1), api.Stack{Devices: []int{4, n}, Journal: 1, Parts: []api.Part{disk(0, 4)}})
		}
	}
}

// many is so many statements, with a number each in the place of %d.
func many(count int, form string) string {
	s := ""
	for i := range count {
		s += fmt.Sprintf(form, i) + " "
	}
	return s
}

// P13.1 (T1): the eighth and the ninth device or journal.
func TestManyDevices(t *testing.T) {
	parts := []api.Part{disk(0, 4), disk(1, 4), disk(2, 4), disk(3, 4), disk(4, 4), disk(5, 4), disk(6, 4)}
	stackAsked(t, many(7, "device d%d 4;")+"journal j 256; export d6;", api.Stack{Devices: []int{4, 4, 4, 4, 4, 4, 4, 256}, Journal: 7, Parts: parts, Export: 6})
	for _, s := range []string{
		many(8, "device d%d 4;") + "@journal j 256; export d6;",
		many(8, "device d%d 4;") + "@device e 4; journal j 256; export d6;",
		"journal j 256; " + many(7, "device d%d 4;") + "@device e 4; export e;",
		"journal j 256; " + many(7, "device d%d 4;") + "export d0; @device e 4; device f 4;",
		many(4, "device d%d 4;") + "journal j 256; volume v = concat(d0, d1); " + many(3, "device e%d 4;") + "@device f 4;",
	} {
		faultAsked(t, s, api.ErrMany)
	}
	faultAsked(t, many(8, "device d%d 4;")+"export d7;", api.ErrExport) // eight are not too many, but none of them is a journal
}

// P13.1 (T1): the eighth and the ninth key or root.
func TestManyKeys(t *testing.T) {
	const stand = "device a 4; journal j 256; export a; "
	key, root := "key k%d $"+kHex+";", "root r%d $"+rHex+";"
	want := api.Stack{Devices: []int{4, 256}, Journal: 1, Parts: []api.Part{disk(0, 4)}}
	for keys := range 9 {
		s := stand + many(keys, key) + many(8-keys, root)
		stackAsked(t, s, want)
		faultAsked(t, s+"@key last $"+kHex+";", api.ErrMany)
		faultAsked(t, s+"@root last $"+rHex+";", api.ErrMany)
		faultAsked(t, s+"@root last $0; key another $0;", api.ErrMany)
	}
}

// P13.1 (T1): the sixteenth and the seventeenth volume.
func TestManyVolumes(t *testing.T) {
	const stand = "device a 4; journal j 256; "
	s := stand + many(16, "volume v%d = a;")
	stackAsked(t, s+"export v15;", api.Stack{Devices: []int{4, 256}, Journal: 1, Parts: []api.Part{disk(0, 4)}})
	faultAsked(t, s+"@volume w = a; export w;", api.ErrMany)
	faultAsked(t, s+"export v0; @volume w = mirror(x); export a;", api.ErrMany)
}

// chain is an expr of so many crypts within one another.
func chain(count int, inner string) string {
	return strings.Repeat("crypt(", count) + inner + strings.Repeat(",k)", count)
}

// P13.1 (T2): 64 Parts, and one more.
func TestManyParts(t *testing.T) {
	const stand = "device a 4; device b 4; journal j 256; key k $" + kHex + ";"
	s := stand
	for i := range 5 {
		s += fmt.Sprintf("volume v%d=%s;", i, chain(11, "a")) // 55 nodes, and the two of the devices
	}
	stack := right(t, s+"volume w="+chain(7, "b")+";export w;")
	if len(stack.Parts) != 64 || stack.Export != 63 {
		t.Errorf("%d Parts, of which %d is exported", len(stack.Parts), stack.Export)
	}
	faultAsked(t, s+"volume w=@"+chain(8, "b")+";export w;", api.ErrMany)
	faultAsked(t, s+"volume w=crypt(@"+chain(8, "b")+",k);export w;", api.ErrMany) // the inner one is the one too many
	s += "volume w=" + chain(7, "b") + ";"
	right(t, s+"volume x=w;volume y=b;export x;") // a use needs none
	for own, want := range map[string]api.Errno{
		"@concat(b)": api.ErrMany, "concat(@x)": api.ErrName, "@linear(b,0,0)": api.ErrMany, "@mirror(a,b,a,b,a)": api.ErrMany, "@crypt(b,x)": api.ErrMany, "crypt(@x,x)": api.ErrName,
		"@integrity(b,a)": api.ErrMany, "@verity(b,k)": api.ErrMany, "@snapshot(a,b,99)": api.ErrMany, "snapshot(a,@k,99)": api.ErrKind, "mirror(a,@crypt(a,k))": api.ErrMany,
	} { // ahead of all else that is wrong with the expr, behind what is wrong with its kids
		faultAsked(t, s+"volume x="+own+";export b;", want)
	}
}

// P13.1 (T2): devices' nodes stand first: those whose statements come behind the expr are among the 64, too.
func TestManyPartsAndLaterDevices(t *testing.T) {
	const stand = "device a 4; journal j 256; key k $" + kHex + ";"
	s := stand
	for i := range 5 {
		s += fmt.Sprintf("volume v%d=%s;", i, chain(11, "a")) // 55 nodes, and the device's
	}
	stack := right(t, s+"volume w="+chain(6, "a")+";export w; device b 4; device c 4;")
	if len(stack.Parts) != 64 || stack.Export != 63 {
		t.Errorf("%d Parts, of which %d is exported", len(stack.Parts), stack.Export)
	}
	faultAsked(t, s+"volume w=@"+chain(7, "a")+";export w; device b 4; device c 4;", api.ErrMany)
}

// P13.1 (T2): concats of 8192 sectors and of more; concats and mirrors of 1 to 5 kids and of many.
func TestSeveral(t *testing.T) {
	const stand = "device a 2048; device b 2048; device c 2048; device d 2048; journal j 256; device one 1; "
	disks := []api.Part{disk(0, 2048), disk(1, 2048), disk(2, 2048), disk(3, 2048), disk(5, 1)}
	want := func(more ...api.Part) api.Stack {
		parts := append(slices.Clone(disks), more...)
		return api.Stack{Devices: []int{2048, 2048, 2048, 2048, 256, 1}, Journal: 4, Parts: parts, Export: len(parts) - 1}
	}
	stackAsked(t, stand+"volume v = concat(a, b, c, d); export v;", want(concat(8192, 0, 1, 2, 3)))
	stackAsked(t, stand+"volume v = mirror(a, b, c, d); export v;", want(mirror(2048, 0, 1, 2, 3)))
	stackAsked(t, stand+"volume v = mirror(a, d); export v;", want(mirror(2048, 0, 3)))
	stackAsked(t, stand+"volume v = concat(one, concat(a, b, c, linear(d, 0, 2047))); export v;", want(linear(0, 2047, 3), concat(8191, 0, 1, 2, 5), concat(8192, 4, 6)))
	faultAsked(t, stand+"volume v = @concat(concat(a, b, c, d), one); export v;", api.ErrSize)
	faultAsked(t, stand+"volume v = concat(a, b, c, d); volume w = @concat(v, v, v, v); export a;", api.ErrSize)
	faultAsked(t, stand+"volume v = @concat(a, concat(b, c, d), one); export v;", api.ErrSize)
	for count, e := range map[int]api.Errno{1: api.ErrShape, 2: api.OK, 3: api.OK, 4: api.OK, 5: api.ErrShape, 6: api.ErrShape, 60: api.ErrShape} {
		kids := strings.Repeat(", one", count)[2:]
		for _, op := range []string{"concat", "mirror"} {
			if e != api.OK {
				faultAsked(t, stand+"volume v = @"+op+"("+kids+"); export a;", e)
			} else {
				right(t, stand+"volume v = "+op+"("+kids+"); export a;")
			}
		}
	}
}

// P13.1 (T2): linears of no sector, of the kid's last one, of one further.
func TestLinears(t *testing.T) {
	for from := range 13 {
		for count := range 13 {
			s := fmt.Sprintf("volume v = @linear(a, %d, %d); export v;", from, count)
			if count == 0 || from+count > 10 {
				faultAsked(t, ground+s, api.ErrSize)
			} else {
				stackAsked(t, ground+strings.Replace(s, "@", "", 1), groundStack(false, linear(from, count, 0)))
			}
		}
	}
}

// P13.1 (T1): keys and roots of all numbers of figures.
func TestFigures(t *testing.T) {
	for count := 1; count <= 128; count++ {
		hex := strings.Repeat("0f1e2d3c4b5a6978", 8)[:count]
		for _, word := range []string{"key", "root"} {
			s := "device a 4; journal j 256; @" + word + " k $" + hex + "; export a;"
			if count == 64 {
				right(t, strings.Replace(s, "@", "", 1))
			} else {
				faultAsked(t, s, api.ErrShape)
			}
		}
	}
}

// P13.1 (T2): a key whose two halves are one is none for a crypt; an integrity takes it; one bit more or less makes it another.
func TestHalves(t *testing.T) {
	half := kHex[:32]
	twin := "key twin $" + half + half + "; "
	faultAsked(t, ground+twin+"volume v = @crypt(a, twin); export v;", api.ErrShape)
	key := append(slices.Clone(kBytes[:16]), kBytes[:16]...)
	stackAsked(t, ground+twin+"volume v = integrity(a, twin); export v;", groundStack(false, integrity(key, 8, 0)))
	for i := range 64 {
		other := []byte(half + half)
		other[i] = "123456789abcdef0"[strings.IndexByte("0123456789abcdef", other[i])]
		right(t, ground+"key near $"+string(other)+"; volume v = crypt(a, near); export v;")
	}
	faultAsked(t, ground+"key noughts $"+strings.Repeat("0", 64)+"; volume v = @crypt(a, noughts); export v;", api.ErrShape)
	right(t, ground+"root noughts $"+strings.Repeat("0", 64)+"; volume v = verity(a, noughts); export v;")
}

// P13.1 (T2): snapshots with just one slot, and with none.
func TestSlots(t *testing.T) {
	for _, c := range [][4]int{ // origin, chunk, the least store with a slot, 1 if a chunk is one that may be
		{10, 1, 2, 1}, {10, 4, 5, 1}, {10, 16, 17, 1}, {16, 1, 2, 1}, {17, 1, 3, 1}, {40, 2, 4, 1}, {2048, 1, 129, 1}, {2048, 16, 24, 1}, {1, 1, 2, 1}, {10, 0, 9, 0}, {10, 17, 2048, 0},
	} {
		s := fmt.Sprintf("journal j 256; device o %d; device d 2048; volume v = @snapshot(o, linear(d, 0, %%d), %d); export v;", c[0], c[1])
		faultAsked(t, fmt.Sprintf(s, c[2]-1), api.ErrSize)
		if c[3] == 0 {
			faultAsked(t, fmt.Sprintf(s, c[2]), api.ErrSize)
		} else {
			stackAsked(t, strings.Replace(fmt.Sprintf(s, c[2]), "@", "", 1), api.Stack{Devices: []int{256, c[0], 2048}, Export: 3,
				Parts: []api.Part{disk(1, c[0]), disk(2, 2048), linear(0, c[2], 1), snapshot(c[1], c[0], 0, 2)}})
		}
	}
}

// P13.1 (T2): integrities and verities of kids from one sector up to the greatest.
func TestData(t *testing.T) {
	const stand = "device a 2048; device b 2048; device c 2048; device d 2048; journal j 256; key k $" + kHex + "; root r $" + rHex + "; volume all = concat(a, b, c, d); "
	for n, want := range map[int][2]int{ // data sectors of an integrity, and of a verity
		1: {0, 0}, 2: {1, 1}, 3: {2, 2}, 5: {4, 2}, 6: {4, 3}, 10: {8, 4}, 2048: {1638, 1024}, 4095: {3276, 2048}, 8192: {6553, 2048},
	} {
		for i, expr := range []string{"integrity(linear(all, 0, %d), k)", "verity(linear(all, 0, %d), r)"} {
			s := fmt.Sprintf("volume v = @"+expr+"; export v;", n)
			if want[i] == 0 {
				faultAsked(t, stand+s, api.ErrSize)
				continue
			}
			stack := right(t, stand+strings.Replace(s, "@", "", 1))
			if p := stack.Parts[stack.Export]; p.Size != want[i] || stack.ReadOnly != (i == 1) {
				t.Errorf("%q: %d sectors, read only %v", s, p.Size, stack.ReadOnly)
			}
		}
	}
}

// P13.1 (T3): read only through each kind of node.
func TestReadOnly(t *testing.T) {
	const stand = ground + "volume fixed = verity(c, r); volume free = linear(c, 0, 4); volume one = linear(fixed, 0, 10); "
	for expr, want := range map[string]bool{
		"%s":               true,
		"linear(%s, 0, 1)": true,
		"concat(a, %s)":    true,
		"concat(%s, a)":    true,
		"mirror(linear(a, 0, 4), linear(%s, 0, 4))":                  true,
		"mirror(linear(%s, 0, 4), linear(a, 0, 4), linear(b, 0, 4))": true,
		"crypt(%s, k)":                             true,
		"integrity(%s, k)":                         true,
		"verity(%s, r)":                            true,
		"snapshot(%s, a, 1)":                       false, // only its store is written
		"crypt(snapshot(%s, a, 1), k)":             false,
		"concat(snapshot(%s, a, 1), b)":            false,
		"integrity(crypt(linear(%s, 0, 4), l), k)": true,
		"concat(snapshot(linear(%s, 0, 2), a, 1), linear(verity(b, r), 0, 1))": true,
	} {
		for kid, fixed := range map[string]bool{"fixed": true, "free": false, "linear(fixed, 0, 9)": true} {
			s := stand + "volume v = " + fmt.Sprintf(expr, kid) + "; export v"
			mine := want && fixed || strings.Contains(expr, "verity")
			if stack := right(t, s+";"); stack.ReadOnly != mine {
				t.Errorf("%q: ReadOnly is %v", s, stack.ReadOnly)
			}
			if stack := right(t, s+" readonly;"); !stack.ReadOnly {
				t.Errorf("%q: what is exported readonly may be written", s)
			}
		}
	}
	for _, store := range []string{"fixed", "one", "crypt(fixed, k)", "concat(fixed, a)", "mirror(one, a)", "integrity(fixed, k)", "verity(fixed, r)", "linear(crypt(one, k), 1, 8)"} {
		faultAsked(t, stand+"volume v = @snapshot(a, "+store+", 1); export v;", api.ErrReadOnly)
		faultAsked(t, stand+"volume v = @snapshot(fixed, "+store+", 1); export v readonly;", api.ErrReadOnly)
	}
	right(t, stand+"volume v = snapshot(fixed, snapshot(verity(b, r), a, 1), 1); export v;") // the store's origin is, the store is not
	right(t, stand+"export a; volume v = fixed;")
}

// quarters are volumes of one device: each is a mirror of the quarters of the one ahead, and has four times as many regions, which lie apart.
const quarters = "device a 2048; device b 2048; journal j 256; " +
	"volume v1 = mirror(linear(a, 0, 512), linear(a, 512, 512), linear(a, 1024, 512), linear(a, 1536, 512)); " +
	"volume v2 = mirror(linear(v1, 0, 128), linear(v1, 128, 128), linear(v1, 256, 128), linear(v1, 384, 128)); " +
	"volume v3 = mirror(linear(v2, 0, 32), linear(v2, 32, 32), linear(v2, 64, 32), linear(v2, 96, 32)); " +
	"volume v4 = mirror(linear(v3, 0, 8), linear(v3, 8, 8), linear(v3, 16, 8), linear(v3, 24, 8)); "

// P13.1 (T1, T4): 256 regions, and 257.
func TestManyRegions(t *testing.T) {
	stack := right(t, quarters+"export v4;")
	if r := Regions(stack, stack.Export, 0, 8); len(r) != 256 || r[0] != [3]int{0, 0, 8} || r[1] != [3]int{0, 512, 8} || r[255] != [3]int{0, 2040, 8} {
		t.Errorf("%d regions: %v", len(r), r)
	}
	if r := Regions(stack, stack.Export, 3, 2); len(r) != 256 || r[4] != [3]int{0, 131, 2} {
		t.Errorf("%d regions: %v", len(r), r)
	}
	faultAsked(t, quarters+"volume w = concat(v4, b); @export w;", api.ErrMany)
	faultAsked(t, quarters+"volume w = concat(b, v4); @export w; volume x = a;", api.ErrMany)
	faultAsked(t, quarters+"volume w = mirror(v4, v4, v4, v4); volume x = mirror(w, w, w, w); volume y = mirror(x, x, x, x); @export y readonly;", api.ErrMany)
	right(t, quarters+"volume w = concat(v4, b); volume x = mirror(w, w, w, w); export b;") // what is not exported may have more

	const same = "device a 3; journal j 256; volume v1 = mirror(a, a, a, a); volume v2 = mirror(v1, v1, v1, v1); volume v3 = mirror(v2, v2, v2, v2); volume v4 = mirror(v3, v3, v3, v3); "
	faultAsked(t, same+"@export v4;", api.ErrOverlap)
	faultAsked(t, same+"volume w = concat(v4, a); @export w;", api.ErrMany) // ahead of the overlap
	faultAsked(t, same+"volume w = concat(linear(v4, 0, 1), linear(a, 1, 1)); @export w;", api.ErrMany)
}

// P13.1 (T4): of more than 256 regions the first 257 are told, however many there are.
func TestFirstRegions(t *testing.T) {
	s := "device a 3; device b 1; journal j 256; volume v0 = concat(b, a); "
	for i := range 15 {
		s += fmt.Sprintf("volume v%d = mirror(v%d,v%d,v%d,v%d); ", i+1, i, i, i, i)
	}
	stack := right(t, s+"export a;")
	for part, p := range stack.Parts {
		for first := range p.Size {
			regionsAsked(t, stack, part, first, p.Size-first)
			regionsAsked(t, stack, part, first, 1)
		}
	}
	if r := Regions(stack, 17, 0, 4); len(r) != 257 || r[0] != [3]int{1, 0, 1} || r[255] != [3]int{0, 0, 3} || r[256] != [3]int{1, 0, 1} {
		t.Errorf("%d regions: %v", len(r), r)
	}
}

// P13.1 (T1): ranges that touch, and ranges that share a sector.
func TestOverlap(t *testing.T) {
	for expr, want := range map[string]api.Errno{
		"mirror(linear(c, 0, 5), linear(c, 5, 5))":                      api.OK,
		"mirror(linear(c, 0, 5), linear(c, 4, 5))":                      api.ErrOverlap,
		"mirror(linear(c, 5, 5), linear(c, 0, 5))":                      api.OK,
		"mirror(linear(c, 5, 5), linear(c, 1, 5))":                      api.ErrOverlap,
		"concat(linear(a, 0, 9), linear(a, 9, 1))":                      api.OK,
		"concat(linear(a, 0, 10), linear(a, 9, 1))":                     api.ErrOverlap,
		"concat(a, b, c)":                                               api.OK,
		"concat(a, b, c, a)":                                            api.ErrOverlap,
		"concat(a, b, c, linear(b, 19, 1))":                             api.ErrOverlap,
		"mirror(a, a)":                                                  api.ErrOverlap,
		"mirror(a, linear(b, 0, 10))":                                   api.OK,
		"snapshot(a, b, 4)":                                             api.OK,
		"snapshot(a, a, 4)":                                             api.ErrOverlap,
		"snapshot(linear(c, 0, 20), linear(c, 20, 20), 4)":              api.OK,
		"snapshot(linear(c, 0, 21), linear(c, 20, 20), 4)":              api.ErrOverlap,
		"linear(concat(a, a), 0, 10)":                                   api.OK, // the second a is not exported
		"linear(concat(a, a), 0, 11)":                                   api.ErrOverlap,
		"linear(concat(a, a), 1, 10)":                                   api.OK, // all but the first sector, and then that
		"linear(concat(a, a), 1, 11)":                                   api.ErrOverlap,
		"linear(concat(a, a), 5, 5)":                                    api.OK,
		"integrity(linear(concat(a, a), 5, 5), k)":                      api.OK,
		"linear(integrity(concat(a, a), k), 0, 1)":                      api.ErrOverlap, // all of an integrity's kid counts
		"linear(verity(concat(a, a), r), 0, 1)":                         api.ErrOverlap,
		"linear(crypt(concat(a, a), k), 0, 1)":                          api.OK,
		"linear(snapshot(concat(a, a), b, 1), 0, 1)":                    api.OK,
		"linear(snapshot(b, concat(a, a), 1), 0, 1)":                    api.ErrOverlap,
		"concat(linear(snapshot(a, b, 1), 0, 1), linear(b, 19, 1))":     api.ErrOverlap,
		"concat(linear(integrity(a, k), 0, 1), linear(a, 9, 1))":        api.ErrOverlap,
		"concat(crypt(linear(a, 0, 5), k), crypt(linear(a, 5, 5), k))":  api.OK,
		"concat(crypt(linear(a, 0, 5), k), verity(linear(a, 4, 6), r))": api.ErrOverlap,
	} {
		for _, export := range []string{"@export v;", "@export v readonly;"} {
			s := ground + "volume v = " + expr + "; " + export
			if want == api.OK {
				right(t, strings.Replace(s, "@", "", 1))
			} else {
				faultAsked(t, s, want)
				faultAsked(t, s+" device later 4;", want)
			}
		}
	}
}

// P13.1 (T1): names given twice, of every kind with every kind; a name that is only exported was not given.
func TestTwice(t *testing.T) {
	statements := []string{"device x 4;", "journal x 256;", "key x $" + kHex + ";", "root x $" + rHex + ";", "volume x = a;"}
	for i, first := range statements {
		for k, second := range statements {
			if i == 1 || k == 1 {
				faultAsked(t, "device a 4; "+first+" @"+second, api.ErrTwice)
			}
			if i != 1 {
				faultAsked(t, ground+first+" @"+second, api.ErrTwice)
				faultAsked(t, ground+first+" device y 4; export a; @"+second+" export a;", api.ErrTwice)
			}
		}
	}
	right(t, ground+"export a; volume x = b;")
	faultAsked(t, ground+"@export x; device x 4;", api.ErrName)
}

// P13.1 (T1): a volume's own name is not yet known in its expr.
func TestItself(t *testing.T) {
	faultAsked(t, ground+"volume v = @v; export v;", api.ErrName)
	faultAsked(t, ground+"volume v = concat(a, @v); export v;", api.ErrName)
	faultAsked(t, ground+"volume v = @w; volume w = a; export v;", api.ErrName)
	faultAsked(t, ground+"volume v = crypt(a, @later); key later $"+kHex+"; export v;", api.ErrName)
}

// regionsOf is T4 followed a second time: the regions come one by one.
func regionsOf(s api.Stack, part, first, count int) iter.Seq[[3]int] {
	return func(yield func([3]int) bool) { walk(s, part, first, count, yield) }
}

// walk tells regions, until it is told that no more are wanted.
func walk(s api.Stack, part, first, count int, yield func([3]int) bool) bool {
	p := s.Parts[part]
	whole := func(kid int) bool { return walk(s, kid, 0, s.Parts[kid].Size, yield) }
	switch p.Kind {
	case api.Disk:
		return yield([3]int{p.Dev, first, count})
	case api.Linear:
		return walk(s, p.Kids[0], p.First+first, count, yield)
	case api.Crypt:
		return walk(s, p.Kids[0], first, count, yield)
	case api.Mirror:
		for _, kid := range p.Kids {
			if !walk(s, kid, first, count, yield) {
				return false
			}
		}
		return true
	case api.Snapshot:
		return walk(s, p.Kids[0], first, count, yield) && whole(p.Kids[1])
	case api.Integrity, api.Verity:
		return whole(p.Kids[0])
	}
	for _, kid := range p.Kids {
		size := s.Parts[kid].Size
		if here := min(count, size-first); first < size && here > 0 {
			if !walk(s, kid, first, here, yield) {
				return false
			}
			first, count = first+here, count-here
		}
		first -= size
	}
	return true
}

// regionsAsked asks that Regions are those of T4: some of a node's sectors, that there are.
func regionsAsked(t *testing.T, s api.Stack, part, first, count int) {
	t.Helper()
	var want [][3]int
	for r := range regionsOf(s, part, first, count) {
		if want = append(want, r); len(want) == 257 {
			break
		}
	}
	if r := Regions(s, part, first, count); !slices.Equal(r, want) {
		t.Errorf("Regions of %v, %d, %d, %d: %v; want %v", s, part, first, count, r, want)
	}
}

// noRegionsAsked asks that there are none.
func noRegionsAsked(t *testing.T, s api.Stack, part, first, count int) {
	t.Helper()
	if r := Regions(s, part, first, count); len(r) != 0 {
		t.Errorf("Regions of %v, %d, %d, %d: %v; want none", s, part, first, count, r)
	}
}

// P13.1 (T4): Regions of each kind of node, of the whole and of some of its sectors, by numbers reckoned by hand.
func TestRegions(t *testing.T) {
	for _, c := range []struct {
		expr         string
		first, count int
		want         [][3]int
	}{
		{"a", 0, 10, [][3]int{{0, 0, 10}}},
		{"b", 3, 7, [][3]int{{2, 3, 7}}},
		{"b", 19, 1, [][3]int{{2, 19, 1}}},
		{"linear(c, 5, 20)", 0, 20, [][3]int{{3, 5, 20}}},
		{"linear(c, 5, 20)", 7, 2, [][3]int{{3, 12, 2}}},
		{"linear(linear(c, 5, 20), 3, 4)", 1, 2, [][3]int{{3, 9, 2}}},
		{"concat(a, b, c)", 0, 70, [][3]int{{0, 0, 10}, {2, 0, 20}, {3, 0, 40}}},
		{"concat(a, b, c)", 0, 10, [][3]int{{0, 0, 10}}},
		{"concat(a, b, c)", 10, 20, [][3]int{{2, 0, 20}}},
		{"concat(a, b, c)", 9, 2, [][3]int{{0, 9, 1}, {2, 0, 1}}},
		{"concat(a, b, c)", 9, 22, [][3]int{{0, 9, 1}, {2, 0, 20}, {3, 0, 1}}},
		{"concat(a, b, c)", 12, 3, [][3]int{{2, 2, 3}}},
		{"concat(a, b, c)", 29, 41, [][3]int{{2, 19, 1}, {3, 0, 40}}},
		{"concat(a, b, c)", 69, 1, [][3]int{{3, 39, 1}}},
		{"concat(concat(c, a), linear(b, 5, 5))", 38, 13, [][3]int{{3, 38, 2}, {0, 0, 10}, {2, 5, 1}}},
		{"mirror(a, linear(c, 30, 10))", 0, 10, [][3]int{{0, 0, 10}, {3, 30, 10}}},
		{"mirror(a, linear(c, 30, 10))", 4, 3, [][3]int{{0, 4, 3}, {3, 34, 3}}},
		{"mirror(linear(c, 8, 8), linear(c, 0, 8), linear(b, 1, 8), linear(a, 2, 8))", 7, 1, [][3]int{{3, 15, 1}, {3, 7, 1}, {2, 8, 1}, {0, 9, 1}}},
		{"crypt(b, k)", 0, 20, [][3]int{{2, 0, 20}}},
		{"crypt(b, k)", 2, 3, [][3]int{{2, 2, 3}}},
		{"snapshot(a, b, 4)", 0, 10, [][3]int{{0, 0, 10}, {2, 0, 20}}},
		{"snapshot(a, b, 4)", 6, 1, [][3]int{{0, 6, 1}, {2, 0, 20}}},
		{"snapshot(concat(a, b), linear(c, 3, 30), 2)", 8, 4, [][3]int{{0, 8, 2}, {2, 0, 2}, {3, 3, 30}}},
		{"integrity(b, k)", 0, 16, [][3]int{{2, 0, 20}}},
		{"integrity(b, k)", 15, 1, [][3]int{{2, 0, 20}}},
		{"verity(b, r)", 0, 9, [][3]int{{2, 0, 20}}},
		{"verity(concat(b, a), r)", 3, 2, [][3]int{{2, 0, 20}, {0, 0, 10}}},
		{"linear(integrity(linear(c, 4, 10), k), 2, 2)", 1, 1, [][3]int{{3, 4, 10}}},
		{"concat(a, integrity(b, k), c)", 11, 1, [][3]int{{2, 0, 20}}},
		{"concat(a, integrity(b, k), c)", 9, 18, [][3]int{{0, 9, 1}, {2, 0, 20}, {3, 0, 1}}},
	} {
		stack := right(t, ground+"volume v = "+c.expr+"; export v;")
		if r := Regions(stack, stack.Export, c.first, c.count); !slices.Equal(r, c.want) {
			t.Errorf("Regions of %s, %d, %d: %v; want %v", c.expr, c.first, c.count, r, c.want)
		}
	}
}

// P13.1 (T4): nodes that there are not, and sectors that do not lie within a node.
func TestNoRegions(t *testing.T) {
	stack := right(t, ground+"volume v = concat(a, mirror(linear(b, 0, 9), linear(c, 2, 9)), snapshot(crypt(linear(c, 20, 4), k), linear(b, 9, 6), 1)); volume w = integrity(v, k); volume x = verity(w, r); export x;")
	wrong := []int{math.MinInt, math.MinInt + 1, -1 << 32, -1 << 31, -8192, -2, -1}
	for part, p := range stack.Parts {
		for _, first := range append(wrong, p.Size, p.Size+1, 8192, 1<<31, 1<<32, math.MaxInt-1, math.MaxInt) {
			for _, count := range append(wrong, 0, 1, 2, p.Size, 8192, math.MaxInt-1, math.MaxInt) {
				noRegionsAsked(t, stack, part, first, count)
				noRegionsAsked(t, stack, part, 0, min(count, 0))
				noRegionsAsked(t, stack, part, p.Size-1, min(count, 0))
			}
		}
		for first := range p.Size {
			for _, more := range []int{1, 2, 100, math.MaxInt - p.Size} {
				noRegionsAsked(t, stack, part, first, p.Size-first+more)
			}
			noRegionsAsked(t, stack, part, first, 0)
			noRegionsAsked(t, stack, part, first, math.MaxInt)
		}
	}
	for _, part := range append(wrong, len(stack.Parts), len(stack.Parts)+1, 64, 1<<32, math.MaxInt) {
		for _, n := range append(wrong, 0, 1, math.MaxInt) {
			noRegionsAsked(t, stack, part, 0, n)
			noRegionsAsked(t, stack, part, n, 1)
			noRegionsAsked(t, api.Stack{}, part, 0, n)
		}
	}
	noRegionsAsked(t, api.Stack{}, 0, 0, 0)
	noRegionsAsked(t, api.Stack{}, 0, 0, 1)
}

// P13.1 (T1): trees that are not right, whatever else would be told of them.
func TestNotRight(t *testing.T) {
	treeFaultAsked(t, api.Node{}, api.ErrParse, 0)
	good := tree(t, ground+"volume v = mirror(linear(b, 5, 10), crypt(a, k)); export v readonly;")
	if _, e, at := Check(good); e != api.OK || at != -1 {
		t.Fatalf("%v at %d", e, at)
	}
	broken := 0
	var breakAt func(n *api.Node)
	breakAt = func(n *api.Node) {
		was := *n
		for _, now := range []api.Node{
			{}, {Op: "wrong", S: was.S, N: was.N, At: was.At, L: was.L}, {Op: was.Op, S: was.S + "X", N: was.N, At: was.At, L: was.L}, {Op: was.Op, S: was.S, N: -1, At: was.At, L: was.L},
			{Op: was.Op, S: was.S, N: 1000000000, At: was.At, L: was.L}, {Op: was.Op, S: was.S, N: was.N, At: was.At, L: append(slices.Clone(was.L), api.Node{})},
			{Op: was.Op, S: was.S, N: was.N, At: was.At, L: append(slices.Clone(was.L), api.Node{Op: "num"})},
		} {
			*n = now
			broken++
			treeFaultAsked(t, good, api.ErrParse, 0)
		}
		*n = was
		for i := range n.L {
			breakAt(&n.L[i])
		}
	}
	breakAt(&good)
	if broken < 100 {
		t.Errorf("%d trees were broken", broken)
	}
	deep := api.Node{Op: "use", S: "a"}
	for range 12 {
		deep = api.Node{Op: "crypt", L: []api.Node{deep, {Op: "name", S: "k"}}}
	}
	treeFaultAsked(t, api.Node{Op: "file", L: []api.Node{{Op: "volume", S: "v", L: []api.Node{deep}}}}, api.ErrParse, 0)
	treeFaultAsked(t, api.Node{Op: "file", L: []api.Node{{Op: "device", S: "device", N: 4}}}, api.ErrParse, 0)
	treeFaultAsked(t, api.Node{Op: "file", L: []api.Node{{Op: "volume", S: "v"}}}, api.ErrParse, 0)
	treeFaultAsked(t, api.Node{Op: "device", S: "a", N: 4}, api.ErrParse, 0)
}

// P13.1 (T1, T2): places are told as they stand in the tree, whatever they are.
func TestPlaces(t *testing.T) {
	a, j := api.Node{Op: "device", S: "a", N: 4, At: 5}, api.Node{Op: "journal", S: "j", N: 256, At: 5}
	file := func(l ...api.Node) api.Node { return api.Node{Op: "file", At: 99, L: append([]api.Node{a, j}, l...)} }
	use := func(at int) api.Node { return api.Node{Op: "use", S: "a", At: at} }
	for _, at := range []int{math.MinInt, -1, 0, 3, 100000, math.MaxInt} {
		treeFaultAsked(t, file(api.Node{Op: "device", S: "b", At: at}), api.ErrSize, at)
		treeFaultAsked(t, file(api.Node{Op: "export", S: "b", At: at}), api.ErrName, at)
		treeFaultAsked(t, file(api.Node{Op: "volume", S: "v", At: 1, L: []api.Node{{Op: "concat", At: at, L: []api.Node{use(2)}}}}), api.ErrShape, at)
		treeFaultAsked(t, file(api.Node{Op: "volume", S: "v", At: 1, L: []api.Node{{Op: "crypt", At: 2, L: []api.Node{use(3), {Op: "name", S: "k", At: at}}}}}), api.ErrName, at)
		treeFaultAsked(t, file(api.Node{Op: "volume", S: "v", At: 1, L: []api.Node{{Op: "mirror", At: 2, L: []api.Node{use(3), use(4)}}}}, api.Node{Op: "export", S: "v", At: at}), api.ErrOverlap, at)
	}
	// a tree may be greater than any text
	var l []api.Node
	for range 5000 {
		l = append(l, use(7))
	}
	treeFaultAsked(t, file(api.Node{Op: "volume", S: "v", L: []api.Node{{Op: "mirror", At: 8, L: l}}}), api.ErrShape, 8)
	treeFaultAsked(t, file(slices.Repeat([]api.Node{{Op: "device", S: "a", N: 4, At: 6}}, 5000)...), api.ErrTwice, 6)
}
