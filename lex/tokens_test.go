package lex

import (
	"reflect"
	"slices"
	"strings"
	"testing"
	"unsafe"

	"thyrsus/api"
)

func open(at int) api.Token           { return api.Token{Kind: api.TOpen, At: at} }
func shut(at int) api.Token           { return api.Token{Kind: api.TClose, At: at} }
func name(at int, s string) api.Token { return api.Token{Kind: api.TName, At: at, S: s} }
func num(at, n int) api.Token         { return api.Token{Kind: api.TNum, At: at, N: n} }

// short is what a failed test tells of a text.
func short(s string) string { return s[:min(len(s), 60)] }

// accepted checks that a text has just these tokens, and no place of a fault (P4).
func accepted(t *testing.T, s string, want ...api.Token) {
	t.Helper()
	l, at, e := Tokens(s)
	if e != api.OK || at != 0 || !slices.Equal(l, want) {
		t.Errorf("%q: %v, %d, %v; not %v", short(s), l, at, e, want)
	}
}

// refused checks that a text is refused so, with no tokens beside it (P4).
func refused(t *testing.T, s string, at int, want api.Errno) {
	t.Helper()
	l, got, e := Tokens(s)
	if e != want || got != at || len(l) != 0 {
		t.Errorf("%q: %d tokens, %d, %v; not %d, %v", short(s), len(l), got, e, at, want)
	}
}

// P201: the document's example.
func TestExample(t *testing.T) {
	accepted(t, "(a -1)", open(0), name(1, "a"), num(3, -1), shut(5))
}

// P201: at most MaxText bytes.
func TestLongText(t *testing.T) {
	accepted(t, "")
	accepted(t, strings.Repeat(" ", api.MaxText))
	accepted(t, strings.Repeat(" ", api.MaxText-1)+"a", name(api.MaxText-1, "a"))
	accepted(t, ";"+strings.Repeat("+", api.MaxText-1))
	refused(t, strings.Repeat(" ", api.MaxText+1), 0, api.ErrLong)
	refused(t, ";"+strings.Repeat("+", api.MaxText), 0, api.ErrLong)
	refused(t, strings.Repeat("(", 1<<20), 0, api.ErrLong)
}

// P201: as many tokens as bytes.
func TestMostTokens(t *testing.T) {
	var want []api.Token
	for at := 0; at < api.MaxText; at += 2 {
		want = append(want, open(at), name(at+1, "*"))
	}
	accepted(t, strings.Repeat("(*", api.MaxText/2), want...)
}

// P201, P6: the whole text's length comes first, whatever its bytes are.
func TestLongTextAheadOfTokens(t *testing.T) {
	blanks := strings.Repeat(" ", api.MaxText-1)
	refused(t, " +"+blanks, 0, api.ErrLong)
	refused(t, blanks+" +", 0, api.ErrLong)
	refused(t, blanks+"+", api.MaxText-1, api.ErrToken)
	refused(t, strings.Repeat("\xff", api.MaxText+1), 0, api.ErrLong)
	refused(t, strings.Repeat("\xff", api.MaxText), 0, api.ErrToken)
	refused(t, " "+strings.Repeat("a", api.MaxText), 0, api.ErrLong)
	refused(t, " "+strings.Repeat("a", api.MaxText-1), 1, api.ErrLong)
}

// P201: what each byte is, when it stands alone; with what it must not be part of beside it.
func TestEachByte(t *testing.T) {
	for b := range 256 {
		s := string([]byte{byte(b)})
		switch {
		case strings.Contains(" \t\n\r;", s):
			accepted(t, s)
		case s == "(":
			accepted(t, s, open(0))
		case s == ")":
			accepted(t, s, shut(0))
		case '0' <= b && b <= '9':
			accepted(t, s, num(0, b-'0'))
		case s == "*", s == "_", s == "'", 'a' <= b && b <= 'z', 'A' <= b && b <= 'Z':
			accepted(t, s, name(0, s))
		default:
			refused(t, s, 0, api.ErrToken)
			refused(t, "x"+s, 1, api.ErrToken)
			refused(t, "(x 7"+s+"y)", 4, api.ErrToken)
		}
	}
}

// P201: each blank parts tokens, so does a run of them.
func TestBlanks(t *testing.T) {
	for _, blank := range []string{" ", "\t", "\n", "\r", "\r\n", " \t\n\r \n\n"} {
		n := len(blank)
		accepted(t, blank)
		accepted(t, "a"+blank+"b", name(0, "a"), name(1+n, "b"))
		accepted(t, "1"+blank+"2", num(0, 1), num(1+n, 2))
		accepted(t, blank+"("+blank, open(n))
		refused(t, "-"+blank+"1", 0, api.ErrToken)
		refused(t, "-"+blank+">", 0, api.ErrToken)
	}
	refused(t, "a\vb", 1, api.ErrToken)
	refused(t, "a\fb", 1, api.ErrToken)
	refused(t, "a\u00a0b", 1, api.ErrToken)
}

// P201: a remark goes up to the line's end, or the text's, whatever stands in it.
func TestRemarks(t *testing.T) {
	accepted(t, ";")
	accepted(t, ";\n")
	accepted(t, "; ( a + \x00 \xff - ;")
	accepted(t, "a;b\nc", name(0, "a"), name(4, "c"))
	accepted(t, "1;2\n3", num(0, 1), num(4, 3))
	accepted(t, "a ;; b\n;c\n\n d;", name(0, "a"), name(12, "d"))
	accepted(t, "(;)\n)", open(0), shut(4))
	accepted(t, "->;x\n*;y", name(0, "->"), name(5, "*"))
	accepted(t, "a; b\r\nc", name(0, "a"), name(6, "c"))
	refused(t, "; +\n+", 4, api.ErrToken)
	refused(t, "-;\n1", 0, api.ErrToken)
}

// P201: the line's end is the byte 10 alone.
func TestRemarkGoesBeyondReturn(t *testing.T) {
	accepted(t, "a;b\rc", name(0, "a"))
	accepted(t, "a;b\r+\nc", name(0, "a"), name(6, "c"))
}

// P201: brackets are tokens by themselves, whatever stands beside them.
func TestBrackets(t *testing.T) {
	accepted(t, "()", open(0), shut(1))
	accepted(t, "))((", shut(0), shut(1), open(2), open(3))
	accepted(t, "a(b)c", name(0, "a"), open(1), name(2, "b"), shut(3), name(4, "c"))
	accepted(t, "1(-2)3", num(0, 1), open(1), num(2, -2), shut(4), num(5, 3))
	accepted(t, "*(->)*", name(0, "*"), open(1), name(2, "->"), shut(4), name(5, "*"))
}

// P201, W4: a name goes on as long as it can, from 1 to 20 bytes.
func TestNames(t *testing.T) {
	for n := 1; n <= api.MaxName; n++ {
		s := "azAZ_'09azAZ_'09aaaa"[:n]
		accepted(t, s, name(0, s))
		accepted(t, "("+s+")", open(0), name(1, s), shut(1+n))
	}
	for _, s := range []string{"x", "X", "_", "'", "''", "__", "_0", "'9", "a'", "Nat", "x1y2"} {
		accepted(t, " "+s, name(1, s))
	}
	accepted(t, "0a", num(0, 0), name(1, "a"))
	accepted(t, "9_", num(0, 9), name(1, "_"))
	accepted(t, "12'3", num(0, 12), name(2, "'3"))
}

// P201: a name of more than 20 bytes; where it begins.
func TestLongNames(t *testing.T) {
	most := strings.Repeat("a", api.MaxName)
	for _, more := range []string{"a", "Z", "0", "_", "'", most} {
		refused(t, most+more, 0, api.ErrLong)
		refused(t, "(x\n"+most+more+")", 3, api.ErrLong)
	}
	refused(t, "7"+most+"a", 1, api.ErrLong)
	accepted(t, most+" "+most, name(0, most), name(21, most))
	accepted(t, most+"*"+most, name(0, most), name(20, "*"), name(21, most))
	accepted(t, most+"-1", name(0, most), num(20, -1))
	refused(t, most+"+", 20, api.ErrToken)
}

// P201: the two names that are signs; each is one by itself.
func TestSigns(t *testing.T) {
	accepted(t, "*", name(0, "*"))
	accepted(t, "**", name(0, "*"), name(1, "*"))
	accepted(t, "->", name(0, "->"))
	accepted(t, "->->", name(0, "->"), name(2, "->"))
	accepted(t, "a->b", name(0, "a"), name(1, "->"), name(3, "b"))
	accepted(t, "a*b", name(0, "a"), name(1, "*"), name(2, "b"))
	accepted(t, "2*-3", num(0, 2), name(1, "*"), num(2, -3))
	accepted(t, strings.Repeat("->", 3), name(0, "->"), name(2, "->"), name(4, "->"))
	refused(t, ">", 0, api.ErrToken)
	refused(t, "->>", 2, api.ErrToken)
	refused(t, ">-", 0, api.ErrToken)
}

// P201: '->' ahead of a '-' that begins a number.
func TestArrowsAndNumbers(t *testing.T) {
	accepted(t, "->5", name(0, "->"), num(2, 5))
	accepted(t, "->-5", name(0, "->"), num(2, -5))
	accepted(t, "-5->", num(0, -5), name(2, "->"))
	accepted(t, "-5->-6", num(0, -5), name(2, "->"), num(4, -6))
}

// P201: a '-' that no digit follows.
func TestLoneDash(t *testing.T) {
	for _, s := range []string{"-", "--", "--1", "-->", "- 1", "-a", "-(1)", "-*", "-_1", "-;"} {
		refused(t, s, 0, api.ErrToken)
		refused(t, "a "+s, 2, api.ErrToken)
	}
	refused(t, "->-", 2, api.ErrToken)
	refused(t, "1-", 1, api.ErrToken)
	refused(t, "-1-", 2, api.ErrToken)
}

// P201: numbers, each as long as its digits go.
func TestNumbers(t *testing.T) {
	accepted(t, "0", num(0, 0))
	accepted(t, "-0", num(0, 0))
	accepted(t, "1234567890", num(0, 1234567890))
	accepted(t, " -9876543210", num(1, -9876543210))
	accepted(t, "1-2", num(0, 1), num(1, -2))
	accepted(t, "-1-2", num(0, -1), num(2, -2))
	accepted(t, "1 -2", num(0, 1), num(2, -2))
	accepted(t, "0x10", num(0, 0), name(1, "x10"))
	accepted(t, "1_000", num(0, 1), name(1, "_000"))
	accepted(t, "1e3", num(0, 1), name(1, "e3"))
	refused(t, "1.5", 1, api.ErrToken)
	refused(t, "+1", 0, api.ErrToken)
}

// P201: from -2^62 to 2^62.
func TestNumbersBounds(t *testing.T) {
	accepted(t, "4611686018427387903", num(0, 1<<62-1))
	accepted(t, "4611686018427387904", num(0, 1<<62))
	accepted(t, "-4611686018427387903", num(0, -1<<62+1))
	accepted(t, "-4611686018427387904", num(0, -1<<62))
	for _, s := range []string{
		"4611686018427387905", "4611686018427387910", "5000000000000000000", // one beyond, ten's carry
		"9223372036854775807", "9223372036854775808", // 2^63 - 1, 2^63
		"18446744073709551615", "18446744073709551616", "18446744073709551617", // about 2^64
		"46116860184273879040", "36893488147419103233", // these come round to small ones
		strings.Repeat("9", 60), "1" + strings.Repeat("0", 3000),
	} {
		for _, digits := range []string{s, "-" + s, "000" + s, "-000" + s} {
			refused(t, digits, 0, api.ErrLong)
			refused(t, "(a "+digits+")", 3, api.ErrLong)
		}
	}
}

// P201: noughts ahead, however many, count for nothing.
func TestNumbersNoughts(t *testing.T) {
	noughts := strings.Repeat("0", api.MaxText-20)
	accepted(t, "007", num(0, 7))
	accepted(t, "-007", num(0, -7))
	accepted(t, noughts, num(0, 0))
	accepted(t, "-"+noughts, num(0, 0))
	accepted(t, noughts+"5", num(0, 5))
	accepted(t, noughts+"4611686018427387904", num(0, 1<<62))
	accepted(t, "-"+noughts+"4611686018427387904", num(0, -1<<62))
	refused(t, "-"+noughts+"4611686018427387905", 0, api.ErrLong)
}

// P6: of several faults the leftmost one.
func TestFirstFault(t *testing.T) {
	long := strings.Repeat("a", 30)
	big := strings.Repeat("9", 30)
	refused(t, "+ "+long, 0, api.ErrToken)
	refused(t, long+" +", 0, api.ErrLong)
	refused(t, long+"+", 0, api.ErrLong)
	refused(t, "a "+big+" + "+long, 2, api.ErrLong)
	refused(t, "; "+long+"\n- "+big, 33, api.ErrToken)
}

// P2: names are no pieces of the text that was handed in.
func TestNamesAreNewMemory(t *testing.T) {
	s := strings.Repeat("name -> * ", 3)
	from := uintptr(unsafe.Pointer(unsafe.StringData(s)))
	l, _, _ := Tokens(s)
	for _, x := range l {
		if p := uintptr(unsafe.Pointer(unsafe.StringData(x.S))); from <= p && p < from+uintptr(len(s)) {
			t.Errorf("%v is a piece of the text", x)
		}
	}
}

// P2, P3: an answer does not hang on another one.
func TestAnswersApart(t *testing.T) {
	s := "(a -> -1)"
	one, _, _ := Tokens(s)
	two, _, _ := Tokens(s)
	want := slices.Clone(one)
	for i := range one[:cap(one)] {
		one[:cap(one)][i] = num(99, 99)
	}
	three, _, _ := Tokens(s)
	if !reflect.DeepEqual(two, want) || !reflect.DeepEqual(three, want) {
		t.Errorf("%v, %v; not %v", two, three, want)
	}
}
