package parse

import (
	"math/rand"
	"slices"
	"strconv"
	"strings"
	"testing"

	"cofferdam/api"
	"cofferdam/lex"
)

// alphabet is a token of each kind: all reserved words, a name, a number, hex, all signs.
var alphabet = strings.Fields("device journal key root volume export readonly linear concat mirror snapshot crypt integrity verity a 5 $f ( ) , = ;")

// node is a node with its place, text, number and parts.
func node(op string, at int, s string, n int, l ...api.Node) api.Node {
	return api.Node{Op: op, S: s, N: n, At: at, L: l}
}

// fileOf is a file's tree.
func fileOf(l ...api.Node) api.Node { return node("file", 0, "", 0, l...) }

// volumeOf is the tree of a file with one volume, without places.
func volumeOf(e api.Node) api.Node { return fileOf(node("volume", 0, "v", 0, e)) }

func useOf(s string) api.Node  { return node("use", 0, s, 0) }
func numOf(n int) api.Node     { return node("num", 0, "", n) }
func nameOf(s string) api.Node { return node("name", 0, s, 0) }

// same tells whether two trees are one, with their places or but for them.
func same(a, b api.Node, places bool) bool {
	if a.Op != b.Op || a.S != b.S || a.N != b.N || places && a.At != b.At {
		return false
	}
	return slices.EqualFunc(a.L, b.L, func(a, b api.Node) bool { return same(a, b, places) })
}

// isZero tells whether there is no tree.
func isZero(n api.Node) bool { return same(n, api.Node{}, true) }

// clone is a tree in memory of its own.
func clone(n api.Node) api.Node {
	n.L = slices.Clone(n.L)
	for i := range n.L {
		n.L[i] = clone(n.L[i])
	}
	return n
}

// short is a text as a fault's message shows it.
func short(s string) string {
	if len(s) <= 100 {
		return strconv.Quote(s)
	}
	return strconv.Quote(s[:50]) + " .. " + strconv.Quote(s[len(s)-50:]) + " (" + strconv.Itoa(len(s)) + " bytes)"
}

// treeAsked asks that a text has this tree, places and all.
func treeAsked(t *testing.T, s string, want api.Node) {
	t.Helper()
	n, e, at := Parse(s)
	if e != api.OK || at != -1 {
		t.Errorf("Parse(%s): %v at %d; want OK at -1", short(s), e, at)
	} else if !same(n, want, true) {
		t.Errorf("Parse(%s): %v; want %v", short(s), n, want)
	}
}

// faultAsked asks that a text has this fault, at this place, and no tree.
func faultAsked(t *testing.T, s string, want api.Errno, place int) {
	t.Helper()
	if n, e, at := Parse(s); e != want || at != place || !isZero(n) {
		t.Errorf("Parse(%s): %v, %v at %d; want no tree, %v at %d", short(s), n, e, at, want, place)
	}
}

// printAsked asks that a tree is right, and has this text.
func printAsked(t *testing.T, n api.Node, want string) {
	t.Helper()
	if s, e := Print(n); !Right(n) || e != api.OK || s != want {
		t.Errorf("%v: Right %v, Print %s, %v; want true, %s, OK", n, Right(n), short(s), e, short(want))
	}
}

// wrongAsked asks that a tree is not right, and has no text.
func wrongAsked(t *testing.T, n api.Node) {
	t.Helper()
	if s, e := Print(n); Right(n) || e != api.ErrParse || s != "" {
		t.Errorf("%v: Right %v, Print %s, %v; want false, no text, ErrParse", n, Right(n), short(s), e)
	}
}

// backAsked asks all of P11.2 of a text that has a tree, and that its Print is want.
func backAsked(t *testing.T, s, want string) {
	t.Helper()
	n, e, _ := Parse(s)
	if e != api.OK {
		t.Errorf("Parse(%s): %v", short(s), e)
		return
	}
	printAsked(t, n, want)
	again, e, at := Parse(want)
	if len(want) > api.MaxText {
		if e != api.ErrLexMany || at != 0 {
			t.Errorf("Parse(%s): %v at %d; want ErrLexMany at 0", short(want), e, at)
		}
		return
	}
	if e != api.OK || !same(n, again, false) {
		t.Errorf("Parse(%s): %v, %v; want OK, %v", short(want), e, again, n)
	}
	printAsked(t, again, want)
}

// The chapter's first example.
func TestExampleOfPrint(t *testing.T) {
	treeAsked(t, "volume v=mirror(a,b);", fileOf(node("volume", 0, "v", 0, node("mirror", 9, "", 0, node("use", 16, "a", 0), node("use", 18, "b", 0)))))
	backAsked(t, "volume v=mirror(a,b);", "volume v = mirror(a, b);\n")
}

// The chapter's second example.
func TestExampleOfFaults(t *testing.T) {
	faultAsked(t, "device a;", api.ErrParse, 8)
	faultAsked(t, "device a 5", api.ErrParse, 10)
}

// P11.1 (R1): each kind of statement, with all its fields and places.
func TestStatements(t *testing.T) {
	treeAsked(t, "device a 4;", fileOf(node("device", 0, "a", 4)))
	treeAsked(t, "journal j 256;", fileOf(node("journal", 0, "j", 256)))
	treeAsked(t, "key k $00ff;", fileOf(node("key", 0, "k", 0, node("hex", 6, "00ff", 0))))
	treeAsked(t, "root r $a;", fileOf(node("root", 0, "r", 0, node("hex", 7, "a", 0))))
	treeAsked(t, "volume v = a;", fileOf(node("volume", 0, "v", 0, node("use", 11, "a", 0))))
	treeAsked(t, "export v;", fileOf(node("export", 0, "v", 0)))
	treeAsked(t, "export v readonly;", fileOf(node("export", 0, "v", 1)))
	treeAsked(t, " // first\n device a 4;key k$f ;\n\texport a\nreadonly // x\n ; export b;", fileOf(
		node("device", 11, "a", 4),
		node("key", 22, "k", 0, node("hex", 27, "f", 0)),
		node("export", 33, "a", 1),
		node("export", 59, "b", 0)))
}

// P11.1 (R1): each kind of expr, with all its fields and places.
func TestExprs(t *testing.T) {
	for s, want := range map[string]api.Node{
		"volume v=a;":                   node("use", 9, "a", 0),
		"volume v=linear(a,1,3);":       node("linear", 9, "", 0, node("use", 16, "a", 0), node("num", 18, "", 1), node("num", 20, "", 3)),
		"volume v=concat(a);":           node("concat", 9, "", 0, node("use", 16, "a", 0)),
		"volume v=concat(a,b);":         node("concat", 9, "", 0, node("use", 16, "a", 0), node("use", 18, "b", 0)),
		"volume v=mirror(a);":           node("mirror", 9, "", 0, node("use", 16, "a", 0)),
		"volume v=mirror(a,b,c);":       node("mirror", 9, "", 0, node("use", 16, "a", 0), node("use", 18, "b", 0), node("use", 20, "c", 0)),
		"volume v=snapshot(a,b,2);":     node("snapshot", 9, "", 0, node("use", 18, "a", 0), node("use", 20, "b", 0), node("num", 22, "", 2)),
		"volume v=crypt(a,k);":          node("crypt", 9, "", 0, node("use", 15, "a", 0), node("name", 17, "k", 0)),
		"volume v=integrity(a,k);":      node("integrity", 9, "", 0, node("use", 19, "a", 0), node("name", 21, "k", 0)),
		"volume v=verity(a,r);":         node("verity", 9, "", 0, node("use", 16, "a", 0), node("name", 18, "r", 0)),
		"volume v=crypt(crypt(a,k),l);": node("crypt", 9, "", 0, node("crypt", 15, "", 0, node("use", 21, "a", 0), node("name", 23, "k", 0)), node("name", 26, "l", 0)),
	} {
		treeAsked(t, s, fileOf(node("volume", 0, "v", 0, want)))
	}
	treeAsked(t, "volume w\n=\nsnapshot( mirror(a , linear(b,0,4)) ,\tverity(c,r), 16 ) ;", fileOf(
		node("volume", 0, "w", 0, node("snapshot", 11, "", 0,
			node("mirror", 21, "", 0, node("use", 28, "a", 0), node("linear", 32, "", 0, node("use", 39, "b", 0), node("num", 41, "", 0), node("num", 43, "", 4))),
			node("verity", 49, "", 0, node("use", 56, "c", 0), node("name", 58, "r", 0)),
			node("num", 62, "", 16)))))
}

// P11.1 (R1): names need not be known, nor but once given: that is not asked here.
func TestWhatIsNotAsked(t *testing.T) {
	for _, s := range []string{
		"volume v = v;", "export x; export x;", "device a 0; device a 0;", "volume v = concat(a,a,a,a,a,a);", "volume v = linear(a,0,0);",
		"key k $f; root k $0;", "volume v = crypt(k, a);", "volume v = snapshot(a, a, 999999999);", strings.Repeat("device a 1;", 100),
	} {
		if n, e, at := Parse(s); e != api.OK || at != -1 || !Right(n) {
			t.Errorf("Parse(%s): %v at %d", short(s), e, at)
		}
	}
}

// P11.1 (R1, R2): texts without a token.
func TestEmpty(t *testing.T) {
	for _, s := range []string{"", " ", "\n", "// device", " \t\r\n// a\n\n// b\n "} {
		treeAsked(t, s, fileOf())
		backAsked(t, s, "")
	}
	printAsked(t, api.Node{Op: "file", L: []api.Node{}}, "")
	printAsked(t, api.Node{Op: "file", At: 7}, "")
}

// P11.1 (R1, R2): numbers and HEX at their ends.
func TestEnds(t *testing.T) {
	long := strings.Repeat("0123456789abcdef", 8)
	backAsked(t, "device a 0;journal b 999999999;", "device a 0;\njournal b 999999999;\n")
	backAsked(t, "device a 007;device b 000000000;", "device a 7;\ndevice b 0;\n")
	backAsked(t, "volume v=linear(a,0,999999999);", "volume v = linear(a, 0, 999999999);\n")
	backAsked(t, "volume v=snapshot(a,b,00);", "volume v = snapshot(a, b, 0);\n")
	backAsked(t, "key k $0;root r $f;", "key k $0;\nroot r $f;\n")
	backAsked(t, "key k $"+long+";root r $"+long+";", "key k $"+long+";\nroot r $"+long+";\n")
	backAsked(t, "device abcdefghijklmnop 1;", "device abcdefghijklmnop 1;\n")
	faultAsked(t, "key k $"+long+"0;", api.ErrLexLong, 6)
	faultAsked(t, "device a 1234567890;", api.ErrLexLong, 9)
	faultAsked(t, "device abcdefghijklmnopq 1;", api.ErrLexLong, 7)
}

// P11.1 (R1): concat and mirror of one expr and of many.
func TestMany(t *testing.T) {
	for _, op := range []string{"concat", "mirror"} {
		for _, many := range []int{1, 2, 4, 5, 100, 246} { // 246 of them are 499 tokens
			s := "volume v=" + op + "(" + strings.Repeat("a,", many-1) + "a);"
			want := node(op, 9, "", 0)
			for i := range many {
				want.L = append(want.L, node("use", 16+2*i, "a", 0))
			}
			treeAsked(t, s, fileOf(node("volume", 0, "v", 0, want)))
			backAsked(t, s, "volume v = "+op+"("+strings.Repeat("a, ", many-1)+"a);\n")
		}
	}
}

// P11.1 (R2): blanks and line's ends, byte by byte; notes are gone.
func TestPrint(t *testing.T) {
	for s, want := range map[string]string{
		"device\n\na  4 ;":                  "device a 4;\n",
		"journal j 256;":                    "journal j 256;\n",
		"key k$0f;":                         "key k $0f;\n",
		"root\tr\t$a\t;":                    "root r $a;\n",
		"volume v=a;":                       "volume v = a;\n",
		"export v;":                         "export v;\n",
		"export v readonly;":                "export v readonly;\n",
		"export v ;export w readonly ; ":    "export v;\nexport w readonly;\n",
		"volume v=linear ( a ,1 , 3 ) ; //": "volume v = linear(a, 1, 3);\n",
		"volume v=concat(a);":               "volume v = concat(a);\n",
		"volume v=mirror(a,b , c);":         "volume v = mirror(a, b, c);\n",
		"volume v=snapshot(a,b,2);":         "volume v = snapshot(a, b, 2);\n",
		"volume v=crypt(a,k);":              "volume v = crypt(a, k);\n",
		"volume v=integrity(a,k);":          "volume v = integrity(a, k);\n",
		"volume v=verity(a,r);":             "volume v = verity(a, r);\n",
		"// one\ndevice a 4;// two\ndevice b 4;journal j 256;volume v=mirror(a,crypt(linear(b,0,4),k));export v;": "device a 4;\ndevice b 4;\njournal j 256;\nvolume v = mirror(a, crypt(linear(b, 0, 4), k));\nexport v;\n",
	} {
		backAsked(t, s, want)
	}
}

// around is the text of one expr around another, and its tokens behind that one.
func around(op string) (ahead, behind string) {
	switch op {
	case "linear":
		return "linear(", ", 1, 2)"
	case "snapshot":
		return "snapshot(", ", b, 3)"
	case "concat", "mirror":
		return op + "(", ")"
	}
	return op + "(", ", k)"
}

var parenthesised = []string{"linear", "concat", "mirror", "snapshot", "crypt", "integrity", "verity"}

// nested is exprs of one kind, so many around a name.
func nested(op string, many int) string {
	ahead, behind := around(op)
	return strings.Repeat(ahead, many) + "a" + strings.Repeat(behind, many)
}

// P11.1 (R1, R2): exprs nested 12 times, at each kind.
func TestNestedMost(t *testing.T) {
	for _, op := range parenthesised {
		s := "volume v = " + nested(op, 11) + ";\n"
		backAsked(t, s, s)
		backAsked(t, s+s, s+s) // each volume is counted for itself
		s = "volume v = concat(" + nested(op, 10) + ", " + nested(op, 10) + ", a, " + nested(op, 10) + ");\n"
		backAsked(t, s, s)
	}
	for _, ahead := range []string{"snapshot(a, ", "mirror(a, ", "concat(a, b, "} { // within the second one, and the third
		behind := ")"
		if strings.HasPrefix(ahead, "snapshot") {
			behind = ", 4)"
		}
		s := "volume v = " + strings.Repeat(ahead, 11) + "c" + strings.Repeat(behind, 11) + ";\n"
		backAsked(t, s, s)
		s = "volume v = " + strings.Repeat(ahead, 12)
		faultAsked(t, s+"c", api.ErrParseDeep, strings.LastIndex(s, "(")+1)
	}
}

// P11.1 (R1): an expr that would be nested 13 times, whatever stands there, at each kind.
func TestNestedMore(t *testing.T) {
	for _, op := range parenthesised {
		ahead, _ := around(op)
		s := "volume v = " + strings.Repeat(ahead, 12)
		faultAsked(t, s, api.ErrParseDeep, len(s))
		faultAsked(t, s+" // no\n", api.ErrParseDeep, len(s)+7)
		for _, token := range alphabet {
			faultAsked(t, s+token, api.ErrParseDeep, len(s))
			faultAsked(t, s+" \n"+token+" ; 7", api.ErrParseDeep, len(s)+2)
		}
		faultAsked(t, "volume v = "+nested(op, 12)+";", api.ErrParseDeep, len(s))
		faultAsked(t, "volume v = "+nested(op, 13)+";", api.ErrParseDeep, len(s))
		faultAsked(t, "volume v = concat(a, "+nested(op, 11)+");", api.ErrParseDeep, len("volume v = concat(a, ")+11*len(ahead))
		faultAsked(t, "device a 5;\n"+s+"a", api.ErrParseDeep, len(s)+12)
		// The one that is nested 12 times may still be told wrong, ahead of its parentheses' end.
		s = strings.TrimSuffix(s, "(")
		faultAsked(t, s, api.ErrParse, len(s))
		faultAsked(t, s+",", api.ErrParse, len(s))
		s = "volume v = " + strings.Repeat(ahead, 11)
		faultAsked(t, s, api.ErrParse, len(s))
		faultAsked(t, s+")", api.ErrParse, len(s))
		faultAsked(t, s+"5", api.ErrParse, len(s))
	}
}

// P11.1 (R2): trees that are nested 12 times are right, those nested 13 times are not.
func TestNestedTrees(t *testing.T) {
	for _, op := range parenthesised {
		wrap := func(n api.Node) api.Node {
			switch op {
			case "linear":
				return node(op, 0, "", 0, n, numOf(1), numOf(2))
			case "snapshot":
				return node(op, 0, "", 0, n, useOf("b"), numOf(3))
			case "concat", "mirror":
				return node(op, 0, "", 0, n)
			}
			return node(op, 0, "", 0, n, nameOf("k"))
		}
		n := useOf("a")
		for range 11 {
			n = wrap(n)
		}
		printAsked(t, volumeOf(n), "volume v = "+nested(op, 11)+";\n")
		wrongAsked(t, volumeOf(wrap(n)))
		wrongAsked(t, volumeOf(wrap(wrap(n))))
		wrongAsked(t, volumeOf(node("concat", 0, "", 0, useOf("a"), n)))
		wrongAsked(t, volumeOf(node("snapshot", 0, "", 0, useOf("a"), n, numOf(1))))
	}
}

// P1: a tree within itself is nested more than 12 times, and the calls end.
func TestTreeWithinItself(t *testing.T) {
	l := make([]api.Node, 50)
	for i := range l {
		l[i] = api.Node{Op: "concat", L: l}
	}
	wrongAsked(t, volumeOf(l[0]))
	f := make([]api.Node, 1)
	f[0] = api.Node{Op: "file", L: f}
	wrongAsked(t, f[0])
}

// packed is a text of so many bytes, with no blank that might go, whose Print is longer.
func packed(size int) string {
	s := "volume v=concat(aaaaaa"
	for len(s)+len(",bbbbbbbb);") <= size {
		s += ",bbbbbbbb"
	}
	return s + strings.Repeat(" ", size-len(s)-2) + ");"
}

// P11.1 (R1), P11.2: texts of MaxText bytes, and more; what was printed may be longer than a text may be.
func TestLongest(t *testing.T) {
	s := packed(api.MaxText)
	n, e, at := Parse(s)
	if len(s) != api.MaxText || e != api.OK || at != -1 || len(n.L) != 1 || len(n.L[0].L[0].L) < 200 {
		t.Fatalf("Parse of %d bytes: %v at %d", len(s), e, at)
	}
	text, e := Print(n)
	if e != api.OK || len(text) <= api.MaxText {
		t.Errorf("Print: %d bytes, %v; want more than a text may have", len(text), e)
	}
	backAsked(t, s, text)
	faultAsked(t, s+" ", api.ErrLexMany, 0)
	faultAsked(t, s[:api.MaxText-1]+" ", api.ErrParse, api.MaxText)
	faultAsked(t, s[:api.MaxText-1]+"=", api.ErrParse, api.MaxText-1)
	device := "device a 5;\n"
	backAsked(t, device+strings.Repeat(" ", api.MaxText-len(device)), device)
	all := strings.Repeat(device, 125) // 500 tokens
	backAsked(t, all, all)
	faultAsked(t, all+";", api.ErrLexMany, len(all))
	faultAsked(t, all[1:]+"device", api.ErrLexMany, len(all)-1)
	var many []api.Node
	for range 20000 {
		many = append(many, node("device", 0, "a", 5))
	}
	printAsked(t, fileOf(many...), strings.Repeat(device, 20000))
}

// P11.1 (R1): Scan's faults, with their places; they are told ahead of all others.
func TestScanFaults(t *testing.T) {
	faultAsked(t, "device a 5; #", api.ErrLexByte, 12)
	faultAsked(t, "device A 5;", api.ErrLexByte, 7)
	faultAsked(t, "key k $;", api.ErrLexByte, 7)
	faultAsked(t, "key k $", api.ErrLexByte, 7)
	faultAsked(t, "device a 5x;", api.ErrLexByte, 10)
	faultAsked(t, "device a -5;", api.ErrLexByte, 9)
	faultAsked(t, "device device device #", api.ErrLexByte, 21)
	faultAsked(t, "5 5 5 abcdefghijklmnopq", api.ErrLexLong, 6)
	faultAsked(t, "volume v = "+strings.Repeat("concat(", 12)+" #", api.ErrLexByte, 96)
	faultAsked(t, strings.Repeat(";", 501), api.ErrLexMany, 500)
	faultAsked(t, strings.Repeat(" ", 2001), api.ErrLexMany, 0)
	faultAsked(t, "\x00", api.ErrLexByte, 0)
}

// samples are the tokens of each statement, and of volumes with each expr, each with what may come there.
var samples = []string{
	"device:STATEMENT a:NAME 5:NUMBER ;:;",
	"journal:STATEMENT a:NAME 5:NUMBER ;:;",
	"key:STATEMENT a:NAME $f:HEX ;:;",
	"root:STATEMENT a:NAME $f:HEX ;:;",
	"export:STATEMENT a:NAME ;:;|readonly",
	"export:STATEMENT a:NAME readonly:;|readonly ;:;",
	"volume:STATEMENT a:NAME =:= a:EXPR ;:;",
	"volume:STATEMENT a:NAME =:= linear:EXPR (:( a:EXPR ,:, 5:NUMBER ,:, 5:NUMBER ):) ;:;",
	"volume:STATEMENT a:NAME =:= concat:EXPR (:( a:EXPR ):,|) ;:;",
	"volume:STATEMENT a:NAME =:= concat:EXPR (:( a:EXPR ,:,|) a:EXPR ,:,|) a:EXPR ):,|) ;:;",
	"volume:STATEMENT a:NAME =:= mirror:EXPR (:( a:EXPR ):,|) ;:;",
	"volume:STATEMENT a:NAME =:= mirror:EXPR (:( a:EXPR ,:,|) a:EXPR ):,|) ;:;",
	"volume:STATEMENT a:NAME =:= snapshot:EXPR (:( a:EXPR ,:, a:EXPR ,:, 5:NUMBER ):) ;:;",
	"volume:STATEMENT a:NAME =:= crypt:EXPR (:( a:EXPR ,:, a:NAME ):) ;:;",
	"volume:STATEMENT a:NAME =:= integrity:EXPR (:( a:EXPR ,:, a:NAME ):) ;:;",
	"volume:STATEMENT a:NAME =:= verity:EXPR (:( a:EXPR ,:, a:NAME ):) ;:;",
	"volume:STATEMENT a:NAME =:= mirror:EXPR (:( crypt:EXPR (:( a:EXPR ,:, a:NAME ):) ,:,|) a:EXPR ):,|) ;:;",
}

// mayCome tells whether a token of the alphabet is one of what may come.
func mayCome(token, may string) bool {
	switch may {
	case "STATEMENT":
		return slices.Contains([]string{"device", "journal", "key", "root", "volume", "export"}, token)
	case "EXPR":
		return token == "a" || slices.Contains(parenthesised, token)
	case "NAME":
		return token == "a"
	case "NUMBER":
		return token == "5"
	case "HEX":
		return token == "$f"
	}
	return slices.Contains(strings.Split(may, "|"), token)
}

// P11.1 (R1): each statement and each expr, broken off behind each of its tokens, and with a wrong token in the place of each.
func TestBroken(t *testing.T) {
	for _, lead := range []string{"", " // x\n", "export b; "} {
		for _, sample := range samples {
			s := lead
			for i, part := range strings.Fields(sample) {
				token, may, _ := strings.Cut(part, ":")
				if i > 0 {
					faultAsked(t, s, api.ErrParse, len(s))
					faultAsked(t, s+" // end", api.ErrParse, len(s)+7)
				}
				for _, wrong := range alphabet {
					if !mayCome(wrong, may) {
						faultAsked(t, s+wrong, api.ErrParse, len(s))
						faultAsked(t, s+wrong+" ;", api.ErrParse, len(s))
						faultAsked(t, s+"\n"+wrong, api.ErrParse, len(s)+1)
					}
				}
				s += token + " "
			}
			if n, e, at := Parse(s); e != api.OK || at != -1 || isZero(n) {
				t.Errorf("Parse(%s): %v at %d", short(s), e, at)
			}
		}
	}
}

// P11.1 (R1): reserved words where a NAME stands, names where a reserved word stands.
func TestReserved(t *testing.T) {
	for _, word := range alphabet[:14] {
		for _, s := range []string{"device * 5;", "journal * 5;", "key * $f;", "root * $f;", "volume * = a;", "export *;", "export * readonly;", "volume v = crypt(a, *);", "volume v = integrity(a, *);", "volume v = verity(a, *);"} {
			faultAsked(t, strings.Replace(s, "*", word, 1), api.ErrParse, strings.Index(s, "*"))
		}
		for _, near := range []string{word + "s", word + "_", word + "1", word[:len(word)-1]} {
			s := "device " + near + " 5;\n"
			backAsked(t, s, s)
		}
	}
	for _, word := range alphabet[:7] {
		faultAsked(t, "volume v = "+word+";", api.ErrParse, 11)
		faultAsked(t, "volume v = "+word+"(a);", api.ErrParse, 11)
	}
	for _, word := range parenthesised {
		faultAsked(t, "volume v = "+word+";", api.ErrParse, 11+len(word))
		faultAsked(t, word+" v 5;", api.ErrParse, 0)
	}
	faultAsked(t, "a v 5;", api.ErrParse, 0)
	faultAsked(t, "devices v 5;", api.ErrParse, 0)
	faultAsked(t, "readonly v;", api.ErrParse, 0)
	faultAsked(t, "export v read;", api.ErrParse, 9)
	faultAsked(t, "export v readonly readonly;", api.ErrParse, 18)
	faultAsked(t, "volume v = a(b);", api.ErrParse, 12)
	faultAsked(t, "volume v = stripe(a, b);", api.ErrParse, 17)
}

// P11.1 (R1): parts that are too many or too few, or of other kinds.
func TestWrongParts(t *testing.T) {
	for s, at := range map[string]int{
		"linear()": 7, "concat()": 7, "mirror()": 7, "snapshot()": 9, "crypt()": 6, "integrity()": 10, "verity()": 7,
		"linear(a)": 8, "linear(a,1)": 10, "linear(a,1,2,3)": 12, "linear(a,b,2)": 9, "linear(1,2,3)": 7, "linear(a,1,$2)": 11,
		"concat(a,)": 9, "concat(,a)": 7, "concat(a,1)": 9, "concat(a b)": 9, "mirror(a,,b)": 9, "mirror($f)": 7, "mirror(a;b)": 8,
		"snapshot(a,2)": 11, "snapshot(a,b)": 12, "snapshot(a,b,c)": 13, "snapshot(a,b,2,3)": 14,
		"crypt(a)": 7, "crypt(a,1)": 8, "crypt(a,$f)": 8, "crypt(a,k,l)": 9, "crypt(a,crypt(a,k))": 8, "verity(a,r)r": 11, "(a)": 0, "a,b": 1, "a b": 2, "": 0, "concat(a))": 9,
	} {
		faultAsked(t, "volume v = "+s+";", api.ErrParse, 11+at)
	}
}

// P11.1 (R1): of two faults the first.
func TestTwoFaults(t *testing.T) {
	faultAsked(t, "device a; device 5;", api.ErrParse, 8)
	faultAsked(t, "device a 5; device 5; device;", api.ErrParse, 19)
	deep := strings.Repeat("concat(", 12)
	faultAsked(t, "volume 5 = "+deep+"a", api.ErrParse, 7)
	faultAsked(t, "volume v = "+deep+"5 device", api.ErrParseDeep, 11+len(deep))
	faultAsked(t, "volume v = "+strings.Repeat("concat(", 11)+"concat concat("+deep, api.ErrParse, 11+11*7+7)
	faultAsked(t, ";;", api.ErrParse, 0)
}

// P11.1 (R2): whatever At is.
func TestPlacesDoNotMatter(t *testing.T) {
	s := "device a 4;\nkey k $0f;\nvolume v = mirror(a, crypt(linear(b, 0, 4), k));\nexport v readonly;\n"
	n, _, _ := Parse(s)
	for _, at := range []int{0, -1, 5, 1 << 40, -1 << 40} {
		var move func(n *api.Node)
		move = func(n *api.Node) {
			n.At = at
			for i := range n.L {
				move(&n.L[i])
			}
		}
		m := clone(n)
		move(&m)
		printAsked(t, m, s)
	}
}

// rightNodes are trees of one statement, with every kind of node.
func rightNodes() []api.Node {
	return []api.Node{
		fileOf(),
		fileOf(node("device", 0, "a", 4)),
		fileOf(node("journal", 0, "a", 4)),
		fileOf(node("key", 0, "a", 0, node("hex", 0, "0f", 0))),
		fileOf(node("root", 0, "a", 0, node("hex", 0, "0f", 0))),
		fileOf(node("export", 0, "a", 0)),
		fileOf(node("export", 0, "a", 1)),
		volumeOf(useOf("a")),
		volumeOf(node("linear", 0, "", 0, useOf("a"), numOf(1), numOf(2))),
		volumeOf(node("concat", 0, "", 0, useOf("a"), useOf("b"))),
		volumeOf(node("mirror", 0, "", 0, useOf("a"), useOf("b"))),
		volumeOf(node("snapshot", 0, "", 0, useOf("a"), useOf("b"), numOf(1))),
		volumeOf(node("crypt", 0, "", 0, useOf("a"), nameOf("k"))),
		volumeOf(node("integrity", 0, "", 0, useOf("a"), nameOf("k"))),
		volumeOf(node("verity", 0, "", 0, useOf("a"), nameOf("k"))),
		fileOf(node("device", 0, "a", 4), node("volume", 0, "v", 0, node("concat", 0, "", 0, node("crypt", 0, "", 0, useOf("a"), nameOf("k")))), node("export", 0, "v", 0)),
	}
}

// plain is a tree's text, whether it is right or not; the tokens stand apart.
func plain(n api.Node) string {
	var parts []string
	for _, part := range n.L {
		parts = append(parts, plain(part))
	}
	switch n.Op {
	case "file":
		return strings.Join(parts, " ")
	case "device", "journal":
		return n.Op + " " + n.S + " " + strconv.Itoa(n.N) + " ; "
	case "key", "root":
		return n.Op + " " + n.S + " " + strings.Join(parts, " ") + " ; "
	case "volume":
		return n.Op + " " + n.S + " = " + strings.Join(parts, " ") + " ; "
	case "export":
		return n.Op + " " + n.S + [2]string{"", " readonly"}[n.N&1] + " ; "
	case "hex":
		return "$" + n.S
	case "num":
		return strconv.Itoa(n.N)
	case "use", "name":
		return n.S
	}
	return n.Op + " ( " + strings.Join(parts, " , ") + " ) "
}

// isRight is R2 by R1: a tree that its text has is right, and no other one.
func isRight(n api.Node) bool {
	m, e, _ := Parse(plain(n))
	return e == api.OK && same(n, m, false)
}

// everyNode hands out each node of a tree, to be changed, and changed back.
func everyNode(n *api.Node, do func(n *api.Node)) {
	for i := range n.L {
		everyNode(&n.L[i], do)
	}
	do(n)
}

// changed hands out a tree with one of its nodes changed in each of many ways.
func changed(root *api.Node, see func(n api.Node)) {
	texts := append([]string{"", "b", "b_0", "abcdefghijklmnop", "abcdefghijklmnopq", "A", "aB", "9", "_a", "a b", " a", "a ", "a//", "a;", "$a", "ä", "\x00", "0f", "g", "0g", "$0f", "0F", "0f ", strings.Repeat("f", 128), strings.Repeat("f", 129), strings.Repeat("a", 3000)}, alphabet...)
	ops := append([]string{"", "file", "use", "num", "name", "hex", "expr", "Device", "device ", "a"}, alphabet[:14]...)
	everyNode(root, func(n *api.Node) {
		was := *n
		try := func(m api.Node) {
			*n = m
			see(*root)
			*n = was
		}
		for _, s := range texts {
			try(api.Node{Op: was.Op, S: s, N: was.N, L: was.L})
		}
		for _, op := range ops {
			try(api.Node{Op: op, S: was.S, N: was.N, L: was.L})
			try(api.Node{Op: op, S: "b", L: was.L})
			try(api.Node{Op: op, N: 3, L: was.L})
			try(api.Node{Op: op, L: was.L})
			try(api.Node{Op: op, S: "b"})
			try(api.Node{Op: op, N: 3})
			for i := range was.L { // in the place of each part
				l := clone(was).L
				l[i] = api.Node{Op: op, S: "b"}
				try(api.Node{Op: was.Op, S: was.S, N: was.N, L: l})
			}
		}
		for _, number := range []int{0, 1, 2, 3, -1, -2, 999999998, 999999999, 1000000000, 1 << 31, 1 << 40, -1 << 63} {
			try(api.Node{Op: was.Op, S: was.S, N: number, L: was.L})
		}
		for _, more := range []api.Node{useOf("b"), numOf(2), nameOf("b"), node("hex", 0, "f", 0), node("export", 0, "a", 0), fileOf(), {}} {
			for i := range len(was.L) + 1 {
				try(api.Node{Op: was.Op, S: was.S, N: was.N, L: slices.Insert(slices.Clone(was.L), i, more)})
			}
			try(more)
		}
		for i := range was.L {
			try(api.Node{Op: was.Op, S: was.S, N: was.N, L: slices.Delete(slices.Clone(was.L), i, i+1)})
		}
		for i := 1; i < len(was.L); i++ {
			l := slices.Clone(was.L)
			l[i-1], l[i] = l[i], l[i-1]
			try(api.Node{Op: was.Op, S: was.S, N: was.N, L: l})
		}
	})
}

// P11.1 (R2): every kind of node with a field too many, too few or wrong.
func TestChangedTrees(t *testing.T) {
	right, wrong := 0, 0
	for _, root := range rightNodes() {
		printAsked(t, root, spaced(t, plain(root)))
		changed(&root, func(n api.Node) {
			if isRight(n) {
				right++
				printAsked(t, n, spaced(t, plain(n)))
			} else {
				wrong++
				wrongAsked(t, n)
			}
		})
	}
	if right < 100 || wrong < 1000 {
		t.Errorf("%d right and %d wrong trees were seen", right, wrong)
	}
}

// P11.1 (R2): trees that are not right, one by one.
func TestWrongTrees(t *testing.T) {
	long := strings.Repeat("0", 129)
	for _, n := range []api.Node{
		{}, useOf("a"), numOf(1), nameOf("a"), node("hex", 0, "f", 0), node("device", 0, "a", 5), node("export", 0, "a", 0), node("expr", 0, "", 0), node("concat", 0, "", 0, useOf("a")),
		node("file", 0, "a", 0), node("file", 0, "", 1), node("file", 0, "", -1), fileOf(fileOf()), fileOf(api.Node{}), fileOf(useOf("a")), fileOf(node("concat", 0, "", 0, useOf("a"))), fileOf(node("export", 0, "a", 0), api.Node{}), fileOf(node("readonly", 0, "a", 0)), fileOf(node("name", 0, "a", 0)),
		fileOf(node("device", 0, "", 5)), fileOf(node("device", 0, "key", 5)), fileOf(node("device", 0, "a", -1)), fileOf(node("device", 0, "a", 1000000000)), fileOf(node("device", 0, "a", 5, numOf(5))), fileOf(node("device", 0, "abcdefghijklmnopq", 5)), fileOf(node("device", 0, "A", 5)), fileOf(node("device", 0, "1a", 5)), fileOf(node("device", 0, "a-b", 5)), fileOf(node("device", 0, " a", 5)), fileOf(node("device", 0, "a\n", 5)), fileOf(node("device", 0, "//", 5)), fileOf(node("device", 0, "a//b", 5)),
		fileOf(node("journal", 0, "", 5)), fileOf(node("journal", 0, "a", -1)), fileOf(node("journal", 0, "a", 1000000000)), fileOf(node("journal", 0, "a", 5, useOf("a"))),
		fileOf(node("key", 0, "a", 0)), fileOf(node("key", 0, "a", 1, node("hex", 0, "f", 0))), fileOf(node("key", 0, "a", 0, node("hex", 0, "", 0))), fileOf(node("key", 0, "a", 0, node("hex", 0, long, 0))), fileOf(node("key", 0, "a", 0, node("hex", 0, "g", 0))), fileOf(node("key", 0, "a", 0, node("hex", 0, "F", 0))), fileOf(node("key", 0, "a", 0, node("hex", 0, "$f", 0))), fileOf(node("key", 0, "a", 0, node("hex", 0, "f f", 0))), fileOf(node("key", 0, "a", 0, node("hex", 0, "f ", 0))), fileOf(node("key", 0, "a", 0, node("hex", 0, "f//", 0))), fileOf(node("key", 0, "a", 0, node("hex", 0, "f", 1))), fileOf(node("key", 0, "a", 0, node("hex", 0, "f", 0, numOf(1)))), fileOf(node("key", 0, "a", 0, nameOf("f"))), fileOf(node("key", 0, "a", 0, node("hex", 0, "f", 0), node("hex", 0, "f", 0))), fileOf(node("key", 0, "root", 0, node("hex", 0, "f", 0))),
		fileOf(node("root", 0, "a", 0)), fileOf(node("root", 0, "a", 0, useOf("f"))), fileOf(node("root", 0, "a", 5)),
		fileOf(node("volume", 0, "a", 0)), fileOf(node("volume", 0, "a", 1, useOf("a"))), fileOf(node("volume", 0, "a", 0, useOf("a"), useOf("a"))), fileOf(node("volume", 0, "mirror", 0, useOf("a"))), fileOf(node("volume", 0, "a", 0, nameOf("a"))), fileOf(node("volume", 0, "a", 0, numOf(1))), fileOf(node("volume", 0, "a", 0, node("expr", 0, "a", 0))), fileOf(node("volume", 0, "a", 0, node("volume", 0, "a", 0, useOf("a")))), fileOf(node("volume", 0, "a", 0, fileOf())),
		fileOf(node("export", 0, "", 0)), fileOf(node("export", 0, "a", 2)), fileOf(node("export", 0, "a", -1)), fileOf(node("export", 0, "readonly", 0)), fileOf(node("export", 0, "a", 0, useOf("a"))),
		volumeOf(useOf("")), volumeOf(useOf("device")), volumeOf(node("use", 0, "a", 1)), volumeOf(node("use", 0, "a", 0, useOf("a"))), volumeOf(useOf("5")),
		volumeOf(node("linear", 0, "", 0)), volumeOf(node("linear", 0, "a", 0, useOf("a"), numOf(1), numOf(2))), volumeOf(node("linear", 0, "", 1, useOf("a"), numOf(1), numOf(2))), volumeOf(node("linear", 0, "", 0, useOf("a"), numOf(1))), volumeOf(node("linear", 0, "", 0, useOf("a"), numOf(1), numOf(2), numOf(3))), volumeOf(node("linear", 0, "", 0, useOf("a"), numOf(-1), numOf(2))), volumeOf(node("linear", 0, "", 0, useOf("a"), numOf(1), numOf(1000000000))), volumeOf(node("linear", 0, "", 0, useOf("a"), node("num", 0, "1", 1), numOf(2))), volumeOf(node("linear", 0, "", 0, useOf("a"), node("num", 0, "", 1, numOf(1)), numOf(2))), volumeOf(node("linear", 0, "", 0, numOf(1), numOf(1), numOf(2))),
		volumeOf(node("concat", 0, "", 0)), volumeOf(node("concat", 0, "a", 0, useOf("a"))), volumeOf(node("concat", 0, "", 2, useOf("a"), useOf("a"))), volumeOf(node("concat", 0, "", 0, useOf("a"), numOf(1))), volumeOf(node("concat", 0, "", 0, useOf("a"), nameOf("a"))),
		volumeOf(node("mirror", 0, "", 0)), volumeOf(node("mirror", 0, "", 0, useOf("a"), useOf("a"), useOf("a"), useOf("a"), useOf("a"), useOf("A"))),
		volumeOf(node("snapshot", 0, "", 0, useOf("a"), useOf("b"))), volumeOf(node("snapshot", 0, "", 0, useOf("a"), numOf(1), useOf("b"))), volumeOf(node("snapshot", 0, "", 0, useOf("a"), useOf("b"), numOf(1000000000))), volumeOf(node("snapshot", 0, "", 0, useOf("a"), useOf("b"), useOf("c"), numOf(1))),
		volumeOf(node("crypt", 0, "", 0, useOf("a"))), volumeOf(node("crypt", 0, "", 0, useOf("a"), useOf("k"))), volumeOf(node("crypt", 0, "", 0, nameOf("a"), nameOf("k"))), volumeOf(node("crypt", 0, "", 0, useOf("a"), node("name", 0, "k", 1))), volumeOf(node("crypt", 0, "", 0, useOf("a"), node("name", 0, "k", 0, useOf("a")))), volumeOf(node("crypt", 0, "", 0, useOf("a"), nameOf("key"))), volumeOf(node("crypt", 0, "", 0, useOf("a"), nameOf("k"), nameOf("l"))),
		volumeOf(node("integrity", 0, "", 0, useOf("a"))), volumeOf(node("verity", 0, "", 0, useOf("a"), node("hex", 0, "f", 0))), volumeOf(node("stripe", 0, "", 0, useOf("a"))), volumeOf(node("", 0, "", 0)),
	} {
		wrongAsked(t, n)
	}
}

// grammar is the chapter's, { } written as rules of their own.
var grammar = map[string][]string{
	"file":      {"", "statement file"},
	"statement": {"device NAME NUMBER ;", "journal NAME NUMBER ;", "key NAME HEX ;", "root NAME HEX ;", "volume NAME = expr ;", "export NAME ;", "export NAME readonly ;"},
	"expr":      {"NAME", "linear ( expr , NUMBER , NUMBER )", "concat ( expr exprs )", "mirror ( expr exprs )", "snapshot ( expr , expr , NUMBER )", "crypt ( expr , NAME )", "integrity ( expr , NAME )", "verity ( expr , NAME )"},
	"exprs":     {"", ", expr exprs"},
}

// symbol is a thing of the grammar, and how often an expr there is nested.
type symbol struct {
	text string
	nest int
}

// unfolded is what may still come, as lists that begin with a token's symbol, or are empty.
func unfolded(list []symbol) [][]symbol {
	if len(list) == 0 || grammar[list[0].text] == nil || list[0] == (symbol{"expr", 13}) {
		return [][]symbol{list}
	}
	nest := list[0].nest
	if list[0].text == "expr" || list[0].text == "statement" {
		nest++
	}
	var all [][]symbol
	for _, rule := range grammar[list[0].text] {
		var first []symbol
		for _, text := range strings.Fields(rule) {
			first = append(first, symbol{text, nest})
		}
		all = append(all, unfolded(append(first, list[1:]...))...)
	}
	return all
}

// fits tells whether a token is one of a symbol's.
func fits(t api.Token, text string) bool {
	switch text {
	case "NAME":
		return t.Kind == api.Word && !lex.Reserved(t.S)
	case "NUMBER":
		return t.Kind == api.Number
	case "HEX":
		return t.Kind == api.Hex
	}
	return (t.Kind == api.Word || t.Kind == api.Sign) && t.S == text
}

// faultOf is R1 by the grammar: all that may come is followed, token by token.
func faultOf(s string) (api.Errno, int) {
	tokens, e, at := lex.Scan(s)
	if e != api.OK {
		return e, at
	}
	lists := unfolded([]symbol{{"file", 0}})
	for i := 0; ; i++ {
		at := len(s)
		if i < len(tokens) {
			at = tokens[i].At
		}
		var next [][]symbol
		for _, list := range lists {
			switch {
			case len(list) > 0 && list[0].text == "expr":
				return api.ErrParseDeep, at
			case i == len(tokens) && len(list) == 0:
				return api.OK, -1
			case i < len(tokens) && len(list) > 0 && fits(tokens[i], list[0].text):
				next = append(next, unfolded(list[1:])...)
			}
		}
		if len(next) == 0 {
			return api.ErrParse, at
		}
		lists = next
	}
}

// spaced is R2 by tokens: a text as it is to be printed.
func spaced(t *testing.T, s string) string {
	t.Helper()
	tokens, e, _ := lex.Scan(s)
	if e != api.OK {
		t.Fatalf("Scan(%s): %v", short(s), e)
	}
	out, word := "", false
	for _, token := range tokens {
		if word && token.Kind != api.Sign {
			out += " "
		}
		word = token.Kind != api.Sign
		switch {
		case token.Kind == api.Number:
			out += strconv.Itoa(token.N)
		case token.Kind == api.Hex:
			out += "$" + token.S
		case token.S == "=":
			out += " = "
		case token.S == ",":
			out += ", "
		case token.S == ";":
			out += ";\n"
		default:
			out += token.S
		}
	}
	return out
}

// held holds a text against the grammar: its fault, or its tree; and tells whether more tokens may make a file of it.
func held(t *testing.T, s string) bool {
	t.Helper()
	want, place := faultOf(s)
	if want != api.OK {
		faultAsked(t, s, want, place)
		return want == api.ErrParse && place == len(s)
	}
	if _, e, at := Parse(s); e != api.OK || at != place {
		t.Errorf("Parse(%s): %v at %d; want OK at %d", short(s), e, at, place)
	} else {
		backAsked(t, s, spaced(t, s))
	}
	return true
}

// P11.1, P11.2: all texts of up to nine tokens that are files so far, each with every token behind it.
func TestAllShort(t *testing.T) {
	seen := 0
	var walk func(s string, left int)
	walk = func(s string, left int) {
		seen++
		if !held(t, s) || left == 0 || t.Failed() {
			return
		}
		for _, token := range alphabet {
			walk(s+token+" ", left-1)
		}
	}
	walk("", 9)
	if seen < 10000 {
		t.Errorf("%d texts were seen", seen)
	}
}

// writer writes a text by chance, and its tree, places and all.
type writer struct {
	r    *rand.Rand
	text string
}

// put writes a token, behind blanks and notes, and tells its place.
func (w *writer) put(token string) int {
	gaps := []string{" ", "\n", "\t", "\r\n", "  ", " // note ;\n", "//\n", " //\n//x\n "}
	if w.text != "" && strings.ContainsAny(w.text[len(w.text)-1:], "(),=;") || strings.ContainsAny(token, "(),=;$") {
		gaps = append(gaps, "", "", "", "", "", "")
	}
	w.text += gaps[w.r.Intn(len(gaps))]
	at := len(w.text)
	w.text += token
	return at
}

func (w *writer) name() string {
	for {
		b := []byte{"abcdefghijklmnopqrstuvwxyz"[w.r.Intn(26)]}
		for range w.r.Intn(4) * w.r.Intn(6) {
			b = append(b, "abcdefghijklmnopqrstuvwxyz0123456789_"[w.r.Intn(37)])
		}
		if !lex.Reserved(string(b)) {
			return string(b)
		}
	}
}

func (w *writer) number() int {
	return w.r.Intn([]int{1, 10, 2048, 1000000000}[w.r.Intn(4)])
}

func (w *writer) statement() api.Node {
	op := []string{"device", "journal", "key", "root", "volume", "volume", "volume", "export"}[w.r.Intn(8)]
	n := node(op, w.put(op), w.name(), 0)
	w.put(n.S)
	switch op {
	case "device", "journal":
		n.N = w.number() % 100000000 // a nought may stand ahead of it
		w.put(strings.Repeat("0", w.r.Intn(2)) + strconv.Itoa(n.N))
	case "key", "root":
		s := strconv.FormatInt(w.r.Int63()>>w.r.Intn(63), 16)
		n.L = []api.Node{node("hex", w.put("$"+s), s, 0)}
	case "volume":
		w.put("=")
		n.L = []api.Node{w.expr(1)}
	case "export":
		if n.N = w.r.Intn(2); n.N == 1 {
			w.put("readonly")
		}
	}
	w.put(";")
	return n
}

func (w *writer) use() api.Node {
	s := w.name()
	return node("use", w.put(s), s, 0)
}

func (w *writer) expr(nest int) api.Node {
	if nest == 12 || w.r.Intn(3) == 0 {
		return w.use()
	}
	op := parenthesised[w.r.Intn(7)]
	n := node(op, w.put(op), "", 0)
	w.put("(")
	n.L = append(n.L, w.expr(nest+1))
	switch op {
	case "linear":
		n.L = append(n.L, w.num(), w.num())
	case "concat", "mirror":
		for range w.r.Intn(4) {
			w.put(",")
			n.L = append(n.L, w.expr(nest+1))
		}
	case "snapshot":
		w.put(",")
		n.L = append(n.L, w.expr(nest+1), w.num())
	default:
		w.put(",")
		s := w.name()
		n.L = append(n.L, node("name", w.put(s), s, 0))
	}
	w.put(")")
	return n
}

// num writes a comma and a number.
func (w *writer) num() api.Node {
	w.put(",")
	i := w.number()
	return node("num", w.put(strconv.Itoa(i)), "", i)
}

// P11.1, P11.2: long texts, held against the tree of which they were written; then with one token put in, gone or another.
func TestWritten(t *testing.T) {
	r := rand.New(rand.NewSource(11))
	seen := 0
	for range 600 {
		w := &writer{r: r}
		want := fileOf()
		for range r.Intn(8) {
			want.L = append(want.L, w.statement())
		}
		tokens, e, _ := lex.Scan(w.text)
		if e != api.OK {
			continue // it is too long
		}
		seen++
		treeAsked(t, w.text, want)
		if !held(t, w.text) {
			t.Errorf("%s is told to be no file", short(w.text))
		}
		for range 4 {
			if len(tokens) > 0 {
				at := tokens[r.Intn(len(tokens))].At
				token := alphabet[r.Intn(len(alphabet))]
				held(t, w.text[:at]+" "+token+" "+w.text[at:])
				held(t, w.text[:at])
				_, behind, _ := strings.Cut(w.text[at:], " ")
				held(t, w.text[:at]+" "+token+" "+behind)
				held(t, w.text[:at]+" "+behind)
			}
		}
		if t.Failed() {
			return
		}
	}
	if seen < 400 {
		t.Errorf("%d texts were seen", seen)
	}
}

// P1, P11.1: texts of tokens by chance, and of bytes by chance.
func TestByChance(t *testing.T) {
	r := rand.New(rand.NewSource(12))
	for range 20000 {
		s := ""
		for range r.Intn(12) {
			s += alphabet[r.Intn(len(alphabet))] + " "
		}
		held(t, s)
		b := make([]byte, r.Intn(30))
		for i := range b {
			b[i] = "abk05$(),=; \n/#\xff_"[r.Intn(17)]
		}
		held(t, string(b))
	}
}

// P2, rule 4: the same again, whatever was asked between; no tree is written into.
func TestSameAgain(t *testing.T) {
	s := "device a 4;\nvolume v = mirror(a, linear(b, 0, 4));\n"
	n, _, _ := Parse(s)
	was := clone(n)
	other, _, _ := Parse("journal j 5; volume w = crypt(x, y); export w readonly;")
	faultAsked(t, "volume v = concat(", api.ErrParse, 18)
	for range 3 {
		printAsked(t, n, s)
		treeAsked(t, s, was)
		printAsked(t, other, "journal j 5;\nvolume w = crypt(x, y);\nexport w readonly;\n")
	}
	if !same(n, was, true) {
		t.Errorf("the tree is now %v", n)
	}
	l := make([]api.Node, 2, 5) // what lies behind a list's length is not looked at
	l[0], l[1] = node("device", 0, "a", 1), node("device", 0, "b", 2)
	spare := l[:5]
	spare[2] = node("wrong", 9, "x", 7)
	printAsked(t, api.Node{Op: "file", L: l}, "device a 1;\ndevice b 2;\n")
	if !same(spare[2], node("wrong", 9, "x", 7), true) || !same(spare[3], api.Node{}, true) {
		t.Errorf("behind the list there is now %v", spare[2:])
	}
}

// A fault of the program does not pass for one of its input.
func TestOtherPanics(t *testing.T) {
	defer func() {
		if recover() == nil {
			t.Error("a panic that is no fault of a text was kept back")
		}
	}()
	parsed(nil)
}
