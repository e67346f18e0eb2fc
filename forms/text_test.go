package forms

import (
	"strings"
	"testing"
	"unsafe"

	"thyrsus/api"
)

// die throws, the same each time.
type die struct{ n uint64 }

func (d *die) next() uint64 {
	d.n ^= d.n << 13
	d.n ^= d.n >> 7
	d.n ^= d.n << 17
	return d.n
}

func (d *die) of(k int) int { return int(d.next() % uint64(k)) }

// name is any that W4 allows, or a sign.
func (d *die) name() string {
	const letters = "_'azAZbyBY0189"
	if d.of(6) == 0 {
		return []string{"->", "*"}[d.of(2)]
	}
	b := []byte{letters[d.of(10)]}
	for range d.of(api.MaxName) {
		b = append(b, letters[d.of(len(letters))])
	}
	return string(b)
}

// num is a number within the bounds, small ones and the bounds among them.
func (d *die) num() int {
	switch d.of(4) {
	case 0:
		return []int{0, 1, -1, 1 << 62, -1 << 62, 1<<62 - 1, -1<<62 + 1}[d.of(7)]
	case 1:
		return d.of(100) - 50
	}
	n := int(d.next()>>2) >> d.of(62)
	return n * (1 - 2*d.of(2))
}

// form is one whose lists stand at most so deep.
func (d *die) form(deep int) api.Form {
	switch k := d.of(4); {
	case k == 0:
		return name(d.name())
	case k == 1 || deep == 0:
		return num(d.num())
	}
	f := list()
	for range d.of(5) {
		f.L = append(f.L, d.form(deep-1))
	}
	return f
}

// written checks a form's text.
func written(t *testing.T, f api.Form, want string) {
	t.Helper()
	if got := Text(f); got != want {
		t.Errorf("%q, not %q", short(got), short(want))
	}
}

// P301: names and numbers as such.
func TestTextLeaves(t *testing.T) {
	for _, s := range []string{"a", "_", "'", "x1'", "->", "*", "abcdefghijklmnopqrst"} {
		written(t, name(s), s)
	}
	for s, n := range map[string]int{"0": 0, "7": 7, "-7": -7, "1234567890123": 1234567890123,
		"4611686018427387904": 1 << 62, "-4611686018427387904": -1 << 62} {
		written(t, num(n), s)
	}
}

// P301: lists, the document's example ahead of the others.
func TestTextLists(t *testing.T) {
	written(t, list(), "()")
	written(t, api.Form{Kind: api.FList, L: []api.Form{}}, "()")
	written(t, list(name("a")), "(a)")
	written(t, list(name("a"), num(-1), name("*")), "(a -1 *)")
	written(t, list(list()), "(())")
	written(t, list(list(), list()), "(() ())")
	written(t, list(list(name("a")), name("b"), list(num(1), list(), num(2))), "((a) b (1 () 2))")
	written(t, nest(30), opens(30)+shuts(30))
	written(t, nest(30, name("a"), num(0)), opens(30)+"a 0"+shuts(30))
	wide := list()
	for range 1<<16 - 1 {
		wide.L = append(wide.L, num(5))
	}
	written(t, wide, "(5"+strings.Repeat(" 5", 1<<16-2)+")")
}

// P301: only what the form's kind is made of is told.
func TestTextOtherFields(t *testing.T) {
	written(t, api.Form{Kind: api.FName, S: "a", N: 5, L: []api.Form{num(6)}}, "a")
	written(t, api.Form{Kind: api.FNum, N: 5, S: "a", L: []api.Form{num(6)}}, "5")
	written(t, api.Form{Kind: api.FList, N: 5, S: "a"}, "()")
}

// P1: it ends on what Check refuses, too.
func TestTextEnds(t *testing.T) {
	for _, f := range []api.Form{{}, {Kind: -1}, {Kind: 4}, {Kind: 1<<63 - 1}, name(""), num(1<<63 - 1),
		list(api.Form{Kind: -1 << 63}), nest(31), deepest(1 << 16), deepest(1 << 22), endless()} {
		if Check(f) == api.OK {
			t.Errorf("kind %d is allowed", f.Kind)
		}
		Text(f)
	}
}

// P2: a text is no piece of the name that was handed in.
func TestTextIsNewMemory(t *testing.T) {
	s := strings.Clone("abcdefgh")
	if got := Text(name(s)); unsafe.StringData(got) == unsafe.StringData(s) {
		t.Error("the name itself was answered")
	}
}

// P302: what was written is read as it was.
func TestParseOfText(t *testing.T) {
	d := &die{7}
	most := 0
	for range 20000 {
		f := d.form(8)
		s := Text(f)
		if Check(f) != api.OK {
			t.Fatalf("%q: %v is refused", short(s), f)
		}
		if len(s) > api.MaxText {
			continue
		}
		most = max(most, len(s))
		accepted(t, s, f)
		if t.Failed() {
			return
		}
	}
	if most < 1000 {
		t.Errorf("the longest text has %d bytes", most)
	}
}

// P302: at the bounds of names, numbers and depth.
func TestParseOfTextAtBounds(t *testing.T) {
	for _, f := range []api.Form{list(), name("->"), name("*"), name(strings.Repeat("z", 20)), num(1 << 62), num(-1 << 62), num(0),
		list(name("->"), num(-1)), list(name("a"), name("b")), list(num(1), num(-2)), list(name("*"), name("*")),
		nest(30), nest(30, num(-1), name("a")), list(nest(29), nest(29)), list(list(), list(list()), name("x"))} {
		accepted(t, Text(f), f)
	}
	wide := list()
	for range api.MaxText/2 - 1 {
		wide.L = append(wide.L, name("a"))
	}
	accepted(t, Text(wide), wide)
	wide.L = append(wide.L, num(1))
	if s := Text(wide); len(s) != api.MaxText+1 {
		t.Errorf("%d bytes", len(s))
	}
	refused(t, Text(wide), 0, api.ErrLong)
}

// P301: a text that was read is written as it was, but for blanks and remarks.
func TestTextOfParse(t *testing.T) {
	for _, s := range []string{"()", "(a)", "(def main (add 1 -2))", "(fn (x Nat) (-> x (* x x)))", "((()) ())"} {
		for _, gap := range []string{"", " ", "\n", " ;)\n"} {
			wider := strings.NewReplacer(" ", " "+gap, "(", "("+gap, ")", gap+")")
			l, _, e := Parse(gap + wider.Replace(s) + gap)
			if e != api.OK || len(l) != 1 || Text(l[0]) != s {
				t.Errorf("%q with %q: %v, %v", s, gap, l, e)
			}
		}
	}
}
