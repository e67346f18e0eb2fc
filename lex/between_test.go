package lex

import (
	"math/big"
	"regexp"
	"slices"
	"strings"
	"testing"

	"thyrsus/api"
)

// die throws, the same each time.
type die struct{ n uint64 }

func (d *die) next() uint64 {
	d.n ^= d.n << 13
	d.n ^= d.n >> 7
	d.n ^= d.n << 17
	return d.n
}

func (d *die) pick(l []string) string { return l[d.next()%uint64(len(l))] }

// row is some of them, one behind the other.
func (d *die) row(of []string, most int) []string {
	var l []string
	for range d.next() % uint64(most+1) {
		l = append(l, d.pick(of))
	}
	return l
}

func words() []string {
	return []string{"(", ")", "*", "->", "a", "x1'", "_", "'", "Nat", "abcdefghijklmnopqrst",
		"0", "7", "-7", "0042", "-1", "4611686018427387904", "-4611686018427387904"}
}

// faults are words that are refused, wherever they stand.
func faults() []string {
	return []string{"+", "-", "\xff", "\x00", "abcdefghijklmnopqrstu", "4611686018427387905", "-99999999999999999999"}
}

func gaps() []string {
	return []string{" ", "\t", "\n", "\r", "  ", ";\n", "; (a -1) +\n", ";;\n\r", ";\r(\n", "\r\n; \xff \n"}
}

// placeless is the tokens without their At.
func placeless(l []api.Token) []api.Token {
	l = slices.Clone(l)
	for i := range l {
		l[i].At = 0
	}
	return l
}

// P202: whatever is put between the words, ahead of them and behind them.
func TestBetweenTokens(t *testing.T) {
	d := &die{3}
	for range 3000 {
		row := d.row(words(), 12)
		plain, _, e := Tokens(strings.Join(row, " "))
		if e != api.OK || len(plain) != len(row) {
			t.Fatalf("%q: %d tokens, %v", row, len(plain), e)
		}
		var s string
		var ats []int
		for _, w := range row {
			s += strings.Join(d.row(gaps(), 3), "") + d.pick(gaps())
			ats = append(ats, len(s))
			s += w
		}
		s += d.pick(gaps()) + d.pick([]string{"", ";", "; ) +"})
		l, at, e := Tokens(s)
		if e != api.OK || at != 0 || !slices.Equal(placeless(l), placeless(plain)) {
			t.Fatalf("%q: %v, %d, %v; not %v", s, l, at, e, plain)
		}
		for i := range l {
			if l[i].At != ats[i] {
				t.Fatalf("%q: %v begins at %d", s, l[i], ats[i])
			}
		}
	}
}

// P202: where tokens touch, a gap between them is as good as none.
func TestBetweenTokensThatTouch(t *testing.T) {
	touching := [][]string{
		{"(", "a", "->", "-5", ")"}, {"12", "ab", "*", "7", "'"}, {"1", "-2", "->", "3"}, {"(", "(", ")", "*", "*", ")"},
	}
	for _, row := range touching {
		whole, _, _ := Tokens(strings.Join(row, ""))
		for _, g := range gaps() {
			apart, _, e := Tokens(strings.Join(row, g))
			if e != api.OK || len(apart) != len(row) || !slices.Equal(placeless(apart), placeless(whole)) {
				t.Errorf("%q with %q: %v, %v; not %v", row, g, apart, e, whole)
			}
		}
	}
}

// P202: a fault stays that fault, and is told where it now is.
func TestBetweenTokensAndFaults(t *testing.T) {
	d := &die{7}
	for range 1000 {
		row, fault := d.row(words(), 5), d.pick(faults())
		_, at, want := Tokens(strings.Join(append(row, fault, "a"), " "))
		if want == api.OK || at == 0 && len(row) > 0 {
			t.Fatalf("%q: %d, %v", fault, at, want)
		}
		s := d.pick(gaps())
		for _, w := range row {
			s += w + d.pick(gaps())
		}
		refused(t, s+fault+d.pick(gaps())+"+", len(s), want)
	}
}

// byPattern is what Tokens must answer, worked out another way.
func byPattern(s string) (l []api.Token, at int, e api.Errno) {
	gap := regexp.MustCompile(`^([ \t\n\r]|;[^\n]*)*`)
	word := regexp.MustCompile(`^([()]|->|\*|-?[0-9]+|[A-Za-z_'][A-Za-z0-9_']*)`)
	bound := new(big.Int).Lsh(big.NewInt(1), 62)
	for {
		at += len(gap.FindString(s[at:]))
		if at == len(s) {
			return l, 0, api.OK
		}
		w := word.FindString(s[at:])
		n, number := new(big.Int).SetString(w, 10)
		switch {
		case w == "":
			return nil, at, api.ErrToken
		case number && n.CmpAbs(bound) > 0, !number && len(w) > 20:
			return nil, at, api.ErrLong
		case number:
			l = append(l, num(at, int(n.Int64())))
		case w == "(":
			l = append(l, open(at))
		case w == ")":
			l = append(l, shut(at))
		default:
			l = append(l, name(at, w))
		}
		at += len(w)
	}
}

// P201, P1: any pieces in any order.
func TestAnyText(t *testing.T) {
	d := &die{11}
	pieces := slices.Concat(words(), words(), gaps(), gaps(), []string{"", "00", "-", ">", ";", "12345", "aaaaa", "46116860184273879"})
	for i := range 20000 {
		row := d.row(pieces, 10)
		if i%4 == 0 {
			row = append(row, d.pick(faults()), d.pick(pieces))
		}
		s := strings.Join(row, "")
		l, at, e := Tokens(s)
		wantL, wantAt, wantE := byPattern(s)
		if !slices.Equal(l, wantL) || at != wantAt || e != wantE {
			t.Fatalf("%q: %v, %d, %v; not %v, %d, %v", s, l, at, e, wantL, wantAt, wantE)
		}
	}
}

// P201, P1: any bytes.
func TestAnyBytes(t *testing.T) {
	d := &die{13}
	for range 20000 {
		b := make([]byte, d.next()%12)
		for i := range b {
			b[i] = byte(d.next())
		}
		s := string(b)
		l, at, e := Tokens(s)
		wantL, wantAt, wantE := byPattern(s)
		if !slices.Equal(l, wantL) || at != wantAt || e != wantE {
			t.Fatalf("%q: %v, %d, %v; not %v, %d, %v", s, l, at, e, wantL, wantAt, wantE)
		}
	}
}
