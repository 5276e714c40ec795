package lex

import (
	"math/rand"
	"regexp"
	"slices"
	"strconv"
	"strings"
	"testing"

	"cofferdam/api"
)

const signs = "(),=;"

// reserved are the words that L2 names.
var reserved = []string{"device", "journal", "key", "root", "volume", "export", "readonly", "linear", "concat", "mirror", "snapshot", "crypt", "integrity", "verity"}

func wordAt(s string, at int) api.Token { return api.Token{Kind: api.Word, S: s, At: at} }
func numberAt(n, at int) api.Token      { return api.Token{Kind: api.Number, N: n, At: at} }
func hexAt(s string, at int) api.Token  { return api.Token{Kind: api.Hex, S: s, At: at} }
func signAt(s string, at int) api.Token { return api.Token{Kind: api.Sign, S: s, At: at} }

// short is a text as a fault's message shows it.
func short(s string) string {
	if len(s) <= 40 {
		return strconv.Quote(s)
	}
	return strconv.Quote(s[:20]) + " .. " + strconv.Quote(s[len(s)-20:]) + " (" + strconv.Itoa(len(s)) + " bytes)"
}

// tokensAsked asks that a text has these tokens, and no fault.
func tokensAsked(t *testing.T, s string, want ...api.Token) {
	t.Helper()
	got, e, at := Scan(s)
	if e != api.OK || at != -1 {
		t.Errorf("Scan(%s): %v at %d; want OK at -1", short(s), e, at)
	}
	if !slices.Equal(got, want) {
		t.Errorf("Scan(%s): %v; want %v", short(s), got, want)
	}
}

// faultAsked asks that a text has this fault, at this place, and no tokens.
func faultAsked(t *testing.T, s string, want api.Errno, place int) {
	t.Helper()
	if got, e, at := Scan(s); e != want || at != place || len(got) != 0 {
		t.Errorf("Scan(%s): %d tokens, %v at %d; want none, %v at %d", short(s), len(got), e, at, want, place)
	}
}

// The chapter's first example.
func TestExampleOfTokens(t *testing.T) {
	tokensAsked(t, "volume v=a;", wordAt("volume", 0), wordAt("v", 7), signAt("=", 8), wordAt("a", 9), signAt(";", 10))
}

// The chapter's second example.
func TestExampleOfFaults(t *testing.T) {
	faultAsked(t, "$", api.ErrLexByte, 1)
	faultAsked(t, "12x", api.ErrLexByte, 2)
	tokensAsked(t, "// no")
}

// P10.1 (L1): tokens of all kinds, with blanks between and without.
func TestTokens(t *testing.T) {
	tokensAsked(t, "device a 4; device b 12;",
		wordAt("device", 0), wordAt("a", 7), numberAt(4, 9), signAt(";", 10), wordAt("device", 12), wordAt("b", 19), numberAt(12, 21), signAt(";", 23))
	tokensAsked(t, "key k $00ff;\nvolume v = crypt(a, k);",
		wordAt("key", 0), wordAt("k", 4), hexAt("00ff", 6), signAt(";", 11),
		wordAt("volume", 13), wordAt("v", 20), signAt("=", 22), wordAt("crypt", 24), signAt("(", 29), wordAt("a", 30), signAt(",", 31), wordAt("k", 33), signAt(")", 34), signAt(";", 35))
	tokensAsked(t, "linear(a,1,3)",
		wordAt("linear", 0), signAt("(", 6), wordAt("a", 7), signAt(",", 8), numberAt(1, 9), signAt(",", 10), numberAt(3, 11), signAt(")", 12))
	tokensAsked(t, "),(=;", signAt(")", 0), signAt(",", 1), signAt("(", 2), signAt("=", 3), signAt(";", 4))
	tokensAsked(t, "  a\t\r\n 7 \n$a  ", wordAt("a", 2), numberAt(7, 7), hexAt("a", 10))
	tokensAsked(t, "==", signAt("=", 0), signAt("=", 1))
}

// P10.1 (L1): each kind alone, at the text's beginning and behind blanks.
func TestOneToken(t *testing.T) {
	for s, want := range map[string]api.Token{
		"a": wordAt("a", 0), "z": wordAt("z", 0), "m": wordAt("m", 0), "a1": wordAt("a1", 0), "a_": wordAt("a_", 0), "x__9_z0": wordAt("x__9_z0", 0),
		"abcdefghijklmnop": wordAt("abcdefghijklmnop", 0), "qrstuvwxyz_01234": wordAt("qrstuvwxyz_01234", 0), "a56789": wordAt("a56789", 0),
		"0": numberAt(0, 0), "1": numberAt(1, 0), "9": numberAt(9, 0), "10": numberAt(10, 0), "123456789": numberAt(123456789, 0), "999999999": numberAt(999999999, 0), "605040302": numberAt(605040302, 0),
		"$0": hexAt("0", 0), "$9": hexAt("9", 0), "$a": hexAt("a", 0), "$f": hexAt("f", 0), "$0123456789abcdef": hexAt("0123456789abcdef", 0), "$00": hexAt("00", 0), "$fedc": hexAt("fedc", 0),
		"(": signAt("(", 0), ")": signAt(")", 0), ",": signAt(",", 0), "=": signAt("=", 0), ";": signAt(";", 0),
	} {
		tokensAsked(t, s, want)
		want.At = 3
		tokensAsked(t, " \n\t"+s, want)
		tokensAsked(t, " \n\t"+s+"\r ", want)
	}
}

// P10.1 (L1): tokens that touch; a word takes figures, and hex takes what else were a word.
func TestTouching(t *testing.T) {
	tokensAsked(t, "a$b", wordAt("a", 0), hexAt("b", 1))
	tokensAsked(t, "a12$34", wordAt("a12", 0), hexAt("34", 3))
	tokensAsked(t, "12$34", numberAt(12, 0), hexAt("34", 2))
	tokensAsked(t, "$12$34", hexAt("12", 0), hexAt("34", 3))
	tokensAsked(t, ";a;1;$f;", signAt(";", 0), wordAt("a", 1), signAt(";", 2), numberAt(1, 3), signAt(";", 4), hexAt("f", 5), signAt(";", 7))
	tokensAsked(t, "$12ab", hexAt("12ab", 0))
	tokensAsked(t, "$12 ab", hexAt("12", 0), wordAt("ab", 4))
	tokensAsked(t, "12 ab", numberAt(12, 0), wordAt("ab", 3))
	tokensAsked(t, "a b", wordAt("a", 0), wordAt("b", 2))
	tokensAsked(t, "1 2", numberAt(1, 0), numberAt(2, 2))
	for _, first := range signs {
		for _, second := range signs {
			tokensAsked(t, string(first)+string(second), signAt(string(first), 0), signAt(string(second), 1))
		}
	}
}

// P10.1 (L1): notes, which end with the line or the text, and only there.
func TestNotes(t *testing.T) {
	tokensAsked(t, "//")
	tokensAsked(t, "//\n")
	tokensAsked(t, "// a 12 $ 12x \x00\x80\xff _ A /")
	tokensAsked(t, "// a\n// b\n")
	tokensAsked(t, "/////")
	tokensAsked(t, "a// b", wordAt("a", 0))
	tokensAsked(t, "a//\nb", wordAt("a", 0), wordAt("b", 4))
	tokensAsked(t, "a // ; $ A\n; // b", wordAt("a", 0), signAt(";", 11))
	tokensAsked(t, "//a\n//b\n\nc//d\n e", wordAt("c", 9), wordAt("e", 15))
	tokensAsked(t, "//a\r b") // the byte 13 is a blank, but ends no line
	tokensAsked(t, "//a\r\nb", wordAt("b", 5))
	tokensAsked(t, "// a // b\nc", wordAt("c", 10))
	tokensAsked(t, "12//x\n$f//g", numberAt(12, 0), hexAt("f", 6))
	tokensAsked(t, "(//)\n)", signAt("(", 0), signAt(")", 5))
	tokensAsked(t, "\n//\n//\n")
}

// P10.1 (L1): a slash alone begins no note.
func TestOneSlash(t *testing.T) {
	faultAsked(t, "/", api.ErrLexByte, 0)
	faultAsked(t, "/ /", api.ErrLexByte, 0)
	faultAsked(t, "/\n/", api.ErrLexByte, 0)
	faultAsked(t, "/a/", api.ErrLexByte, 0)
	faultAsked(t, "a /", api.ErrLexByte, 2)
	faultAsked(t, "a/", api.ErrLexByte, 1)
	faultAsked(t, "12/", api.ErrLexByte, 2)
	faultAsked(t, "$f/ /", api.ErrLexByte, 2)
	faultAsked(t, "// a\n/ b", api.ErrLexByte, 5)
	faultAsked(t, "/* a */", api.ErrLexByte, 0)
}

// P10.1 (L1): no text, and texts of nothing but blanks; no other byte is a blank.
func TestBlanks(t *testing.T) {
	tokensAsked(t, "")
	for c := range 256 {
		b := string([]byte{byte(c)})
		if !slices.Contains([]int{9, 10, 13, 32}, c) {
			if got, e, _ := Scan(b); e == api.OK && len(got) == 0 {
				t.Errorf("the byte %d is passed over", c)
			}
			continue
		}
		tokensAsked(t, b)
		tokensAsked(t, strings.Repeat(b, 5))
		tokensAsked(t, b+"a"+b+b+"1"+b+"$2"+b+";"+b, wordAt("a", 1), numberAt(1, 4), hexAt("2", 6), signAt(";", 9))
	}
	tokensAsked(t, "\t\n\r ")
}

// P10.1 (L1): the text's length in bytes, ahead of all other faults.
func TestTextLength(t *testing.T) {
	tokensAsked(t, strings.Repeat(" ", 2000))
	tokensAsked(t, strings.Repeat(" ", 1999)+"a", wordAt("a", 1999))
	tokensAsked(t, "a"+strings.Repeat("\n", 1999), wordAt("a", 0))
	tokensAsked(t, "//"+strings.Repeat("é", 999))
	faultAsked(t, strings.Repeat(" ", 1999)+"$", api.ErrLexByte, 2000)
	faultAsked(t, strings.Repeat(" ", 1999)+"A", api.ErrLexByte, 1999)
	for _, n := range []int{2001, 2002, 4000, 1 << 16, 1 << 20} {
		for _, piece := range []string{" ", "a", "1", ";", "A", "$", "/", "\x00", "\xff"} {
			faultAsked(t, strings.Repeat(piece, n), api.ErrLexMany, 0)
		}
		faultAsked(t, "a"+strings.Repeat(" ", n-1), api.ErrLexMany, 0)
		faultAsked(t, strings.Repeat(" ", n-1)+"a", api.ErrLexMany, 0)
		faultAsked(t, "//"+strings.Repeat("x", n-2), api.ErrLexMany, 0)
	}
	faultAsked(t, "//"+strings.Repeat("é", 1000), api.ErrLexMany, 0)
}

// P10.1 (L1): a word of 16 bytes, and longer ones.
func TestWordLength(t *testing.T) {
	for n := 1; n <= 16; n++ {
		for _, rest := range []string{"b", "7", "_"} {
			s := "a" + strings.Repeat(rest, n-1)
			tokensAsked(t, s, wordAt(s, 0))
			tokensAsked(t, "; "+s+";", signAt(";", 0), wordAt(s, 2), signAt(";", 2+n))
		}
	}
	for _, n := range []int{17, 18, 32, 100, 1990} {
		for _, rest := range []string{"b", "7", "_"} {
			s := "a" + strings.Repeat(rest, n-1)
			faultAsked(t, s, api.ErrLexLong, 0)
			faultAsked(t, "; "+s+";", api.ErrLexLong, 2)
			faultAsked(t, "b "+s+"A", api.ErrLexLong, 2)
		}
	}
}

// P10.1 (L1): a number of 9 figures, with noughts ahead too, and longer ones.
func TestNumberLength(t *testing.T) {
	for s, n := range map[string]int{"00": 0, "000000000": 0, "01": 1, "007": 7, "000000001": 1, "000000010": 10, "012345678": 12345678, "100000000": 100000000, "999999999": 999999999} {
		tokensAsked(t, s, numberAt(n, 0))
		tokensAsked(t, " "+s+",", numberAt(n, 1), signAt(",", 1+len(s)))
	}
	for _, s := range []string{"0000000000", "0000000001", "1000000000", "9999999999", strings.Repeat("1", 11), strings.Repeat("9", 19), strings.Repeat("9", 40), strings.Repeat("0", 1990)} {
		faultAsked(t, s, api.ErrLexLong, 0)
		faultAsked(t, "a "+s+" b", api.ErrLexLong, 2)
		faultAsked(t, "("+s, api.ErrLexLong, 1)
	}
}

// P10.1 (L1): hex of 128 figures, none, and more.
func TestHexLength(t *testing.T) {
	for _, n := range []int{1, 2, 16, 17, 63, 64, 127, 128} {
		for _, piece := range []string{"0", "9", "a", "f"} {
			s := strings.Repeat(piece, n)
			tokensAsked(t, "$"+s, hexAt(s, 0))
			tokensAsked(t, "a $"+s+";", wordAt("a", 0), hexAt(s, 2), signAt(";", 3+n))
		}
	}
	for _, n := range []int{129, 130, 256, 1900} {
		for _, piece := range []string{"0", "9", "a", "f"} {
			s := strings.Repeat(piece, n)
			faultAsked(t, "$"+s, api.ErrLexLong, 0)
			faultAsked(t, "a $"+s+";", api.ErrLexLong, 2)
		}
	}
}

// P10.1 (L1): a dollar with none of its figures behind it, whatever else stands there.
func TestHexEmpty(t *testing.T) {
	faultAsked(t, "$", api.ErrLexByte, 1)
	faultAsked(t, "a = $", api.ErrLexByte, 5)
	for c := range 256 {
		if c >= '0' && c <= '9' || c >= 'a' && c <= 'f' {
			continue
		}
		faultAsked(t, "$"+string([]byte{byte(c)}), api.ErrLexByte, 1)
		faultAsked(t, "1 $"+string([]byte{byte(c)})+"12", api.ErrLexByte, 3)
	}
	faultAsked(t, "$//", api.ErrLexByte, 1)
	faultAsked(t, "$$12", api.ErrLexByte, 1)
}

// behind is what Scan has to tell of a token of 3 bytes with a byte right behind it that the token does not take.
func behind(t *testing.T, s string, first api.Token, c byte) {
	t.Helper()
	text := s + string([]byte{c})
	small := c >= 'a' && c <= 'z'
	switch {
	case c == '_' || small:
		faultAsked(t, text, api.ErrLexByte, 3)
		faultAsked(t, text+" A", api.ErrLexByte, 3)
	case c == 9 || c == 10 || c == 13 || c == 32:
		tokensAsked(t, text, first)
		tokensAsked(t, text+"x", first, wordAt("x", 4))
	case strings.IndexByte(signs, c) >= 0:
		tokensAsked(t, text, first, signAt(string(rune(c)), 3))
		tokensAsked(t, text+"x", first, signAt(string(rune(c)), 3), wordAt("x", 4))
	case c == '$':
		faultAsked(t, text, api.ErrLexByte, 4)
		tokensAsked(t, text+"1", first, hexAt("1", 3))
	case c == '/':
		faultAsked(t, text, api.ErrLexByte, 3)
		tokensAsked(t, text+"/x", first)
	default:
		faultAsked(t, text, api.ErrLexByte, 3)
	}
}

// P10.1 (L1): each byte right behind a number, behind hex and behind a word.
func TestRightBehind(t *testing.T) {
	for i := range 256 {
		c := byte(i)
		if c < '0' || c > '9' {
			behind(t, "120", numberAt(120, 0), c)
			if c < 'a' || c > 'f' {
				behind(t, "$1a", hexAt("1a", 0), c)
			}
		}
		if c != '_' && (c < '0' || c > '9') && (c < 'a' || c > 'z') {
			behind(t, "v_1", wordAt("v_1", 0), c)
		}
	}
	tokensAsked(t, "1200", numberAt(1200, 0))
	tokensAsked(t, "$1a0", hexAt("1a0", 0))
	tokensAsked(t, "$1af", hexAt("1af", 0))
	tokensAsked(t, "v_1_z9", wordAt("v_1_z9", 0))
	faultAsked(t, "999999999a", api.ErrLexByte, 9)
	faultAsked(t, "$"+strings.Repeat("f", 128)+"g", api.ErrLexByte, 129)
}

// P10.1 (L1): a token that is too long and has a letter right behind it is too long: that is named first.
func TestLongAndGlued(t *testing.T) {
	faultAsked(t, "1234567890x", api.ErrLexLong, 0)
	faultAsked(t, " 1234567890_", api.ErrLexLong, 1)
	faultAsked(t, "$"+strings.Repeat("0", 129)+"g", api.ErrLexLong, 0)
	faultAsked(t, " $"+strings.Repeat("0", 129)+"_", api.ErrLexLong, 1)
}

// P10.1 (L1): bytes that begin no token, as the first one and behind other tokens.
func TestWrongBytes(t *testing.T) {
	right := "\t\n\r abcdefghijklmnopqrstuvwxyz0123456789$/" + signs
	wrong := 0
	for c := range 256 {
		if strings.IndexByte(right, byte(c)) >= 0 {
			continue
		}
		wrong++
		b := string([]byte{byte(c)})
		faultAsked(t, b, api.ErrLexByte, 0)
		faultAsked(t, b+"a", api.ErrLexByte, 0)
		faultAsked(t, " \n"+b, api.ErrLexByte, 2)
		faultAsked(t, "a "+b, api.ErrLexByte, 2)
		faultAsked(t, "a 12 $f ; "+b+" b", api.ErrLexByte, 10)
		faultAsked(t, ";"+b, api.ErrLexByte, 1)
		faultAsked(t, "// "+b+"\n"+b, api.ErrLexByte, 5)
		tokensAsked(t, "a // "+b, wordAt("a", 0))
	}
	if wrong != 256-len(right) {
		t.Fatalf("%d bytes were tried", wrong)
	}
	faultAsked(t, "_a", api.ErrLexByte, 0)
	faultAsked(t, "Volume", api.ErrLexByte, 0)
	faultAsked(t, "vOlume", api.ErrLexByte, 1)
	faultAsked(t, "a é", api.ErrLexByte, 2)
	faultAsked(t, "aé", api.ErrLexByte, 1)
	faultAsked(t, "a -1", api.ErrLexByte, 2)
	faultAsked(t, "0x10", api.ErrLexByte, 1)
}

// P10.1 (L1): of two faults the first by its token is told.
func TestTwoFaults(t *testing.T) {
	long, much, hexes := strings.Repeat("a", 17), strings.Repeat("1", 10), "$"+strings.Repeat("f", 129)
	faults := []struct {
		s     string
		e     api.Errno
		place int
	}{
		{"A", api.ErrLexByte, 0}, {"\x00", api.ErrLexByte, 0}, {"12x", api.ErrLexByte, 2}, {"$ ", api.ErrLexByte, 1}, {"$1g", api.ErrLexByte, 2},
		{"/", api.ErrLexByte, 0}, {long, api.ErrLexLong, 0}, {much, api.ErrLexLong, 0}, {hexes, api.ErrLexLong, 0},
	}
	for _, first := range faults {
		for _, second := range faults {
			faultAsked(t, first.s+" "+second.s, first.e, first.place)
			faultAsked(t, "ab; "+first.s+"\n"+second.s+" b", first.e, first.place+4)
			faultAsked(t, "// "+second.s+"\n"+first.s+" "+second.s, first.e, first.place+len(second.s)+4)
		}
	}
}

// manyTokens is so many tokens of all kinds with a blank behind each, 3 bytes each.
func manyTokens(n int) (string, []api.Token) {
	var text strings.Builder
	var l []api.Token
	for i := range n {
		at := text.Len()
		switch i % 4 {
		case 0:
			text.WriteString("ab ")
			l = append(l, wordAt("ab", at))
		case 1:
			text.WriteString("12 ")
			l = append(l, numberAt(12, at))
		case 2:
			text.WriteString("$3 ")
			l = append(l, hexAt("3", at))
		case 3:
			text.WriteString(" ; ")
			l = append(l, signAt(";", at+1))
		}
	}
	return text.String(), l
}

// P10.1 (L1): 500 tokens, and more.
func TestManyTokens(t *testing.T) {
	for _, n := range []int{1, 499, 500} {
		s, l := manyTokens(n)
		tokensAsked(t, s, l...)
		tokensAsked(t, s+" \n// more ; A", l...)
	}
	full, _ := manyTokens(500)
	for _, more := range []string{"a", "1", "$2", ";", "a ;", "a A", "a 12x", "; $", "1 // x", "a" + strings.Repeat(" b", 20)} {
		faultAsked(t, full+more, api.ErrLexMany, len(full))
		faultAsked(t, full+"\n //;\n "+more, api.ErrLexMany, len(full)+7)
	}
	for _, piece := range []string{"a ", "1 ", "$f ", "(", ")", ",", "=", ";"} {
		s := strings.Repeat(piece, 500)
		if l, e, at := Scan(s); e != api.OK || at != -1 || len(l) != 500 || l[499].At != 499*len(piece) {
			t.Errorf("500 times %q: %d tokens, %v at %d", piece, len(l), e, at)
		}
		faultAsked(t, s+piece, api.ErrLexMany, len(s))
	}
	faultAsked(t, strings.Repeat(";", 2000), api.ErrLexMany, 500)
}

// P10.1 (L1): a fault ahead of the 501st token, and of the very token that would be it, is told instead of ErrLexMany.
func TestFaultBehindMany(t *testing.T) {
	full, _ := manyTokens(500)
	most, _ := manyTokens(499)
	long, much, hexes := strings.Repeat("a", 17), strings.Repeat("1", 10), "$"+strings.Repeat("f", 129)
	for _, s := range []string{full, full + "// x\n ", most} {
		for _, byteBegins := range []string{"A", "_", "\x00", "\x80", "\xff", "/", "/ a"} {
			faultAsked(t, s+byteBegins, api.ErrLexByte, len(s))
			faultAsked(t, s+byteBegins+" a a a", api.ErrLexByte, len(s))
		}
		faultAsked(t, s+"12x", api.ErrLexByte, len(s)+2)
		faultAsked(t, s+"$", api.ErrLexByte, len(s)+1)
		faultAsked(t, s+"$0g", api.ErrLexByte, len(s)+2)
		for _, tooLong := range []string{long, much, hexes} {
			faultAsked(t, s+tooLong, api.ErrLexLong, len(s))
			faultAsked(t, s+tooLong+" a a a", api.ErrLexLong, len(s))
		}
	}
}

// P10.1 (L2): every reserved word, which is a Word like all others, and such as are none.
func TestReserved(t *testing.T) {
	if len(reserved) != 14 {
		t.Fatalf("%d words", len(reserved))
	}
	for _, w := range reserved {
		if !Reserved(w) {
			t.Errorf("Reserved(%q): false", w)
		}
		tokensAsked(t, w, wordAt(w, 0))
		others := []string{strings.ToUpper(w), strings.ToUpper(w[:1]) + w[1:], " " + w, w + " ", w + "\n", w + "s", "a" + w, w + "_", "_" + w, w + "1", w + w, w + ";", w + "\x00"}
		for i := range w {
			others = append(others, w[:i], w[i+1:], w[:i]+w[i+1:])
		}
		for _, other := range others {
			if Reserved(other) && !slices.Contains(reserved, other) {
				t.Errorf("Reserved(%q): true", other)
			}
		}
	}
	for _, w := range []string{"", "a", "v", "ver", "disk", "file", "use", "num", "name", "hex", "none", "store", "flush", "device volume", "=", "12", "$", "\xff"} {
		if Reserved(w) {
			t.Errorf("Reserved(%q): true", w)
		}
	}
}

// written is a token as a text.
func written(k api.Token) string {
	switch k.Kind {
	case api.Number:
		return strconv.Itoa(k.N)
	case api.Hex:
		return "$" + k.S
	}
	return k.S
}

// bare is tokens without their places.
func bare(l []api.Token) []api.Token {
	m := slices.Clone(l)
	for i := range m {
		m[i].At = 0
	}
	return m
}

// again asks that tokens, written with blanks between them, are the same ones at the places where they were written.
func again(t *testing.T, l []api.Token, blanks func() string) {
	t.Helper()
	var text strings.Builder
	var places []int
	for i, k := range l {
		if i > 0 {
			text.WriteString(blanks())
		}
		places = append(places, text.Len())
		text.WriteString(written(k))
	}
	if text.Len() > api.MaxText {
		return
	}
	got, e, at := Scan(text.String())
	if e != api.OK || at != -1 || !slices.Equal(bare(got), bare(l)) {
		t.Fatalf("%v, written as %s: %v, %v at %d", l, short(text.String()), got, e, at)
	}
	for i := range got {
		if got[i].At != places[i] {
			t.Fatalf("%s: token %d at %d; want %d", short(text.String()), i, got[i].At, places[i])
		}
	}
}

// pick is some letters of an alphabet, from few to many.
func pick(r *rand.Rand, alphabet string, few, many int) string {
	b := make([]byte, few+r.Intn(many-few+1))
	for i := range b {
		b[i] = alphabet[r.Intn(len(alphabet))]
	}
	return string(b)
}

// anyToken is a token of any kind.
func anyToken(r *rand.Rand) api.Token {
	const small, figures = "abcdefghijklmnopqrstuvwxyz", "0123456789"
	switch r.Intn(5) {
	case 0:
		return wordAt(pick(r, small, 1, 1)+pick(r, small+figures+"_", 0, 15), 0)
	case 1:
		return wordAt(reserved[r.Intn(len(reserved))], 0)
	case 2:
		return numberAt(r.Intn([]int{10, 1000, 1000000000}[r.Intn(3)]), 0)
	case 3:
		return hexAt(pick(r, figures+"abcdef", 1, []int{4, 128}[r.Intn(2)]), 0)
	}
	return signAt(pick(r, signs, 1, 1), 0)
}

// P10.2: tokens that are written one behind the other, with blanks between, are read again.
func TestAgain(t *testing.T) {
	r := rand.New(rand.NewSource(10))
	one := func(c string) func() string { return func() string { return c } }
	for range 2000 {
		l := make([]api.Token, r.Intn(40))
		for i := range l {
			l[i] = anyToken(r)
		}
		for _, c := range []string{" ", "\n", "\t", "\r", "  ", "\r\n"} {
			again(t, l, one(c))
		}
		again(t, l, func() string { return pick(r, "\t\n\r ", 1, 5) })
	}
	_, full := manyTokens(500)
	again(t, full, one(" "))
	for _, w := range reserved {
		again(t, []api.Token{wordAt(w, 0), wordAt(w, 0)}, one(" "))
	}
}

// P10.2: what Scan tells of a text, written anew, is the same tokens; notes and noughts ahead are gone.
func TestTextAgain(t *testing.T) {
	for _, s := range []string{"", "volume v=a; // x", "key k$00ff;root r $0;", "device a 007;//x\njournal j 0;", "a$b 12$34(((", "export v readonly;"} {
		l, e, at := Scan(s)
		if e != api.OK || at != -1 {
			t.Fatalf("Scan(%q): %v at %d", s, e, at)
		}
		again(t, l, func() string { return " " })
	}
}

// The forms of L1, by another hand.
var (
	passForm   = regexp.MustCompile(`^(?:[\t\n\r ]|//[^\n]*)*`)
	wordForm   = regexp.MustCompile(`^[a-z][a-z0-9_]*`)
	numberForm = regexp.MustCompile(`^[0-9]+`)
	hexForm    = regexp.MustCompile(`^\$[0-9a-f]*`)
	signForm   = regexp.MustCompile(`^[(),=;]`)
	gluedForm  = regexp.MustCompile(`^[a-z_]`)
)

// asked is what L1 asks of a text.
func asked(s string) ([]api.Token, api.Errno, int) {
	if len(s) > 2000 {
		return nil, api.ErrLexMany, 0
	}
	var l []api.Token
	for at := len(passForm.FindString(s)); at < len(s); {
		k, f := api.Token{At: at}, ""
		if f = wordForm.FindString(s[at:]); f != "" {
			k.Kind, k.S = api.Word, f
			if len(f) > 16 {
				return nil, api.ErrLexLong, at
			}
		} else if f = numberForm.FindString(s[at:]); f != "" {
			k.Kind = api.Number
			if len(f) > 9 {
				return nil, api.ErrLexLong, at
			}
			k.N, _ = strconv.Atoi(f)
		} else if f = hexForm.FindString(s[at:]); f != "" {
			k.Kind, k.S = api.Hex, f[1:]
			if len(f) == 1 {
				return nil, api.ErrLexByte, at + 1
			}
			if len(f) > 129 {
				return nil, api.ErrLexLong, at
			}
		} else if f = signForm.FindString(s[at:]); f != "" {
			k.Kind, k.S = api.Sign, f
		} else {
			return nil, api.ErrLexByte, at
		}
		end := at + len(f)
		if (k.Kind == api.Number || k.Kind == api.Hex) && gluedForm.MatchString(s[end:]) {
			return nil, api.ErrLexByte, end
		}
		if len(l) == 500 {
			return nil, api.ErrLexMany, at
		}
		l = append(l, k)
		at = end + len(passForm.FindString(s[end:]))
	}
	return l, api.OK, -1
}

// heldAgainst asks that Scan tells of a text what L1 asks.
func heldAgainst(t *testing.T, s string) api.Errno {
	t.Helper()
	want, fault, place := asked(s)
	got, e, at := Scan(s)
	if e != fault || at != place || !slices.Equal(got, want) {
		t.Fatalf("Scan(%q): %v, %v at %d; want %v, %v at %d", s, got, e, at, want, fault, place)
	}
	return e
}

// P10.1 (L1), P1: all texts of up to four bytes of an alphabet with one of each kind.
func TestShortTexts(t *testing.T) {
	const alphabet = "a f09_$/=;\nA\x00\x80\r"
	var grow func(s string)
	grow = func(s string) {
		heldAgainst(t, s)
		if len(s) == 4 {
			return
		}
		for i := range len(alphabet) {
			grow(s + alphabet[i:i+1])
		}
	}
	grow("")
}

// P10.1 (L1), P1: longer texts, of pieces of all kinds.
func TestLongTexts(t *testing.T) {
	r := rand.New(rand.NewSource(11))
	pieces := []string{" ", "  ", "\n", "\t", "\r", "// x y\n", "//\n", "(", ")", ",", "=", ";", "a", "z9_", "volume", "mirror", "0", "12", "007", "999999999", "$0f", "$a", " $", "A", "12 x", "/", "\x00", "\xff", "_",
		"abcdefgh_01234567", "1000000000", "$" + strings.Repeat("f", 129)}
	told := map[api.Errno]int{}
	for range 20000 {
		kinds := len(pieces)
		if r.Intn(2) == 0 {
			kinds = 19 // of these none alone is wrong, and few are so together
		}
		var text strings.Builder
		for n := r.Intn(900); n > 0; n-- {
			text.WriteString(pieces[r.Intn(kinds)])
			if r.Intn(30) > 0 {
				text.WriteString(" ")
			}
			if kinds == len(pieces) && r.Intn(20) == 0 {
				break
			}
		}
		told[heldAgainst(t, text.String())]++
	}
	for range 5000 {
		b := make([]byte, r.Intn(40))
		for i := range b {
			b[i] = byte(r.Intn(256))
		}
		heldAgainst(t, string(b))
		heldAgainst(t, "device a 5; // "+string(b))
	}
	for _, e := range []api.Errno{api.OK, api.ErrLexByte, api.ErrLexLong, api.ErrLexMany} {
		if told[e] < 20 {
			t.Errorf("%v was told %d times of 20000", e, told[e])
		}
	}
}

// Rule 4: no two answers share memory. P2: an answer hangs on its text alone.
func TestAnswersApart(t *testing.T) {
	const s = "volume v=mirror(a,b); // x"
	first, _, _ := Scan(s)
	held := slices.Clone(first)
	second, _, _ := Scan(s)
	clear(first)
	_ = append(first, wordAt("more", 0))
	if !slices.Equal(second, held) {
		t.Errorf("two answers share memory: %v", second)
	}
	faultAsked(t, "a A", api.ErrLexByte, 2)
	faultAsked(t, strings.Repeat(";", 501), api.ErrLexMany, 500)
	Reserved("volume")
	tokensAsked(t, s, held...)
}
