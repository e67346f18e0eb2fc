package code

import (
	"bytes"
	"reflect"
	"testing"

	"thyrsus/api"
)

// refused checks that bytes are refused so, with the zero term beside it (P4).
func refused(t *testing.T, what string, b []byte, want api.Errno) {
	t.Helper()
	got, e := Parse(b)
	if e != want {
		t.Errorf("%s: %v, not %v", what, e, want)
	}
	if !reflect.DeepEqual(got, api.Tm{}) {
		t.Errorf("%s: beside the error %v", what, got)
	}
}

// accepted checks that bytes are read, as a term.
func accepted(t *testing.T, what string, b []byte, want api.Tm) {
	t.Helper()
	got, e := Parse(b)
	if e != api.OK || !reflect.DeepEqual(got, want) {
		t.Errorf("%s: %v", what, e)
	}
}

// bushy is a term of that many terms, three deep at most.
func bushy(terms int) api.Tm {
	t := api.Tm{Op: 7}
	for left := terms - 1; left > 0; {
		here := min(left, 200)
		t.Kids = append(t.Kids, api.Tm{Op: 8, N: left, Kids: someLeaves(here - 1)})
		left -= here
	}
	return t
}

// someLeaves is as Parse answers them: none is nil.
func someLeaves(count int) []api.Tm {
	if count == 0 {
		return nil
	}
	return leaves(count)
}

// P101, P2: no bytes at all.
func TestParseNothing(t *testing.T) {
	refused(t, "nil", nil, api.ErrCut)
	refused(t, "empty", []byte{}, api.ErrCut)
}

// P101: where bytes lack, wherever that is.
func TestParseCut(t *testing.T) {
	b := Bytes(api.Tm{Op: 5, N: -3, Kids: []api.Tm{{Op: 12, N: 1, Kids: leaves(2)}, leaf(1, 7)}})
	for n := range len(b) {
		refused(t, "a piece", b[:n], api.ErrCut)
	}
	refused(t, "255 Kids, one is there", join(raw(5, 0, 255), raw(11, 0, 0)), api.ErrCut)
}

// P101: ErrCut looks at what was handed in, not at the spare room behind it.
func TestParseCutWithSpareRoom(t *testing.T) {
	b := join(raw(12, 0, 1), raw(11, 0, 0))
	refused(t, "a Kid in the spare room", b[:10], api.ErrCut)
	refused(t, "half a Kid in the spare room", b[:15], api.ErrCut)
}

// P101: at most MaxDeep deep, the whole being 1.
func TestParseDeep(t *testing.T) {
	most := chain(api.MaxDeep)
	accepted(t, "120 deep", Bytes(most), most)
	refused(t, "121 deep", Bytes(chain(api.MaxDeep+1)), api.ErrDeep)
	refused(t, "5000 deep", Bytes(chain(5000)), api.ErrDeep)
}

// P101: ErrDeep as soon as the Op would be read, ahead of ErrCut.
func TestParseDeepAheadOfCut(t *testing.T) {
	b := Bytes(chain(api.MaxDeep + 1))
	just := 10 * api.MaxDeep
	refused(t, "the bytes end ahead of the 121st", b[:just], api.ErrDeep)
	refused(t, "they end in the 121st", b[:just+1], api.ErrDeep)
	refused(t, "they end in the 120th", b[:just-1], api.ErrCut)
	refused(t, "they end ahead of the 120th", b[:just-10], api.ErrCut)
}

// P101: how deep a term stands counts anew for each of the Kids.
func TestParseDeepBesides(t *testing.T) {
	side := chain(api.MaxDeep - 1)
	x := api.Tm{Op: 5, Kids: []api.Tm{side, side, leaf(11, 0)}}
	accepted(t, "two chains", Bytes(x), x)
	x.Kids[2] = chain(api.MaxDeep)
	refused(t, "the last is too deep", Bytes(x), api.ErrDeep)
}

// P101: at most MaxNodes terms.
func TestParseNodes(t *testing.T) {
	most := bushy(api.MaxNodes)
	accepted(t, "3000", Bytes(most), most)
	refused(t, "3001", Bytes(bushy(api.MaxNodes+1)), api.ErrDeep)
	refused(t, "9000", Bytes(bushy(9000)), api.ErrDeep)
}

// P101: ErrDeep as soon as the 3001st's Op would be read, ahead of ErrCut.
func TestParseNodesAheadOfCut(t *testing.T) {
	b := Bytes(bushy(api.MaxNodes + 1))
	just := 10 * api.MaxNodes
	refused(t, "the bytes end ahead of the 3001st", b[:just], api.ErrDeep)
	refused(t, "they end in the 3001st", b[:just+5], api.ErrDeep)
	refused(t, "they end in the 3000th", b[:just-1], api.ErrCut)
	refused(t, "they end ahead of the 3000th", b[:just-10], api.ErrCut)
}

// P101: bytes behind the end, whatever they are; no further term is looked for there.
func TestParseMore(t *testing.T) {
	b := Bytes(api.Tm{Op: 12, Kids: leaves(1)})
	refused(t, "one byte", join(b, []byte{0}), api.ErrMore)
	refused(t, "another term", join(b, b), api.ErrMore)
	refused(t, "behind 3000 terms", join(Bytes(bushy(api.MaxNodes)), []byte{1}), api.ErrMore)
	refused(t, "behind 120 deep", join(Bytes(chain(api.MaxDeep)), raw(11, 0, 0)), api.ErrMore)
}

// P6: what is too deep comes ahead of what is left behind it.
func TestParseDeepAheadOfMore(t *testing.T) {
	refused(t, "121 deep", join(Bytes(chain(api.MaxDeep+1)), []byte{0}), api.ErrDeep)
	refused(t, "3001 terms", join(Bytes(bushy(api.MaxNodes+1)), []byte{0}), api.ErrDeep)
}

// P101: any numbers are read, terms or not (no Op 0, no Var with Kids, ..).
func TestParseAnyNumbers(t *testing.T) {
	for op := range 256 {
		x := api.Tm{Op: op, N: -op, Kids: []api.Tm{leaf(255-op, op<<55)}}
		accepted(t, "any Op", Bytes(x), x)
	}
}

// P101, P102: Kids beyond 255 are told by the lowest eight bits, and so are left behind.
func TestParseTooManyKids(t *testing.T) {
	refused(t, "256", Bytes(api.Tm{Op: 7, Kids: leaves(256)}), api.ErrMore)
	refused(t, "257", Bytes(api.Tm{Op: 7, Kids: leaves(257)}), api.ErrMore)
}

// die throws, the same each time.
type die struct{ n uint64 }

func (d *die) next() uint64 {
	d.n ^= d.n << 13
	d.n ^= d.n >> 7
	d.n ^= d.n << 17
	return d.n
}

func (d *die) of(k int) int { return int(d.next() % uint64(k)) }

// grown is some term, of any numbers.
func (d *die) grown(deep int) api.Tm {
	t := api.Tm{Op: d.of(256), N: int(d.next())}
	if deep == 0 {
		return t
	}
	for range d.of(5) {
		t.Kids = append(t.Kids, d.grown(deep-1))
	}
	return t
}

// P102: what was written is read as it was.
func TestBack(t *testing.T) {
	d := &die{1}
	for range 500 {
		x := d.grown(d.of(5))
		accepted(t, "grown", Bytes(x), x)
	}
	for _, count := range []int{0, 1, 2, 127, 128, 254, 255} {
		x := api.Tm{Op: 7, Kids: someLeaves(count)}
		accepted(t, "wide", Bytes(x), x)
	}
}

// P102, P1: any bytes come to an answer; what is read is written as it was.
func TestParseAnyBytes(t *testing.T) {
	d := &die{5}
	for range 20000 {
		b := make([]byte, d.of(80))
		for i := range b {
			b[i] = byte(d.next())
			if i%10 == 9 {
				b[i] %= 4 // else hardly any would be whole
			}
		}
		x, e := Parse(b)
		switch {
		case e == api.OK && !bytes.Equal(Bytes(x), b):
			t.Fatalf("%v is read as %v", b, x)
		case e != api.OK && !reflect.DeepEqual(x, api.Tm{}):
			t.Fatalf("%v: beside %v: %v", b, e, x)
		case e != api.OK && e != api.ErrCut && e != api.ErrMore:
			t.Fatalf("%v: %v", b, e)
		}
	}
}

// P1: bytes that promise more and more Kids.
func TestParseGreedy(t *testing.T) {
	refused(t, "all ones", bytes.Repeat([]byte{255}, 1<<20), api.ErrDeep)
	refused(t, "all noughts", make([]byte, 1<<20), api.ErrMore)
}

// P2: bytes that were handed in are as they were, their spare room too.
func TestParseLeavesTheBytes(t *testing.T) {
	room := join(raw(12, 3, 1), raw(11, 4, 0), []byte{91, 92, 93})
	was := bytes.Clone(room)
	for n := range len(room) {
		Parse(room[:n])
		if !bytes.Equal(room, was) {
			t.Fatalf("%d bytes: changed: %v", n, room)
		}
	}
}

// P2, P3: a term that was read does not hang on the bytes, nor on other answers.
func TestParseAnswersNewMemory(t *testing.T) {
	x := api.Tm{Op: 5, N: 1, Kids: []api.Tm{{Op: 12, N: 2, Kids: leaves(2)}, leaf(1, 3)}}
	b := Bytes(x)
	one, _ := Parse(b)
	two, _ := Parse(b)
	for i := range b {
		b[i] = 99
	}
	one.Kids[0].Kids[0] = leaf(98, 98)
	one.Kids[1] = leaf(97, 97)
	if !reflect.DeepEqual(two, x) {
		t.Errorf("%v", two)
	}
}

// P2: no two lists of one answer share memory, their spare room neither.
func TestParseListsApart(t *testing.T) {
	x := api.Tm{Op: 5, Kids: []api.Tm{{Op: 6, Kids: leaves(2)}, {Op: 7, Kids: leaves(3)}, leaf(8, 0)}}
	got, _ := Parse(Bytes(x))
	lists := []*[]api.Tm{&got.Kids, &got.Kids[0].Kids, &got.Kids[1].Kids, &got.Kids[2].Kids}
	for i, l := range lists {
		full := (*l)[len(*l):cap(*l)]
		for k := range full {
			full[k] = leaf(99, 99)
		}
		if !reflect.DeepEqual(got, x) {
			t.Errorf("list %d: its spare room is another's: %v", i, got)
		}
	}
	got.Kids[0].Kids[0], got.Kids[0].Kids[1] = leaf(99, 99), leaf(99, 99)
	if !reflect.DeepEqual(got.Kids[1:], x.Kids[1:]) {
		t.Errorf("shared: %v", got)
	}
}
