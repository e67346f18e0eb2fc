package code

import (
	"bytes"
	"math"
	"reflect"
	"runtime/debug"
	"testing"

	"thyrsus/api"
)

// leaf is a term without Kids.
func leaf(op, n int) api.Tm { return api.Tm{Op: op, N: n} }

// leaves is a row of Zeros.
func leaves(count int) []api.Tm {
	row := make([]api.Tm, count)
	for i := range row {
		row[i] = leaf(api.Zero, 0)
	}
	return row
}

// chain is a term that is as deep as told: Sucs around a Zero.
func chain(deep int) api.Tm {
	t := leaf(api.Zero, 0)
	for range deep - 1 {
		t = api.Tm{Op: api.Suc, Kids: []api.Tm{t}}
	}
	return t
}

// join lays bytes one behind the other.
func join(parts ...[]byte) []byte { return bytes.Join(parts, nil) }

// raw is a head of small N, written out by hand.
func raw(op, n, kids byte) []byte { return []byte{op, n, 0, 0, 0, 0, 0, 0, 0, kids} }

// P101, the chapter's example.
func TestBytesOfZero(t *testing.T) {
	want := []byte{11, 0, 0, 0, 0, 0, 0, 0, 0, 0}
	if got := Bytes(api.Tm{Op: api.Zero}); !bytes.Equal(got, want) {
		t.Errorf("%v", got)
	}
}

// P101: the Op is a byte.
func TestBytesOp(t *testing.T) {
	for op := range 256 {
		if got := Bytes(leaf(op, 7)); !bytes.Equal(got, raw(byte(op), 7, 0)) {
			t.Errorf("Op %d: %v", op, got)
		}
	}
}

// numbers are N's, and the eight bytes of each.
var numbers = []struct {
	n    int
	want [8]byte
}{
	{0, [8]byte{}},
	{1, [8]byte{1}},
	{255, [8]byte{255}},
	{256, [8]byte{0, 1}},
	{258, [8]byte{2, 1}},
	{0x0807060504030201, [8]byte{1, 2, 3, 4, 5, 6, 7, 8}},
	{1 << 31, [8]byte{0, 0, 0, 128}},
	{1 << 32, [8]byte{0, 0, 0, 0, 1}},
	{-1, [8]byte{255, 255, 255, 255, 255, 255, 255, 255}},
	{-2, [8]byte{254, 255, 255, 255, 255, 255, 255, 255}},
	{-256, [8]byte{0, 255, 255, 255, 255, 255, 255, 255}},
	{math.MaxInt64, [8]byte{255, 255, 255, 255, 255, 255, 255, 127}},
	{math.MaxInt64 - 1, [8]byte{254, 255, 255, 255, 255, 255, 255, 127}},
	{math.MinInt64, [8]byte{0, 0, 0, 0, 0, 0, 0, 128}},
	{math.MinInt64 + 1, [8]byte{1, 0, 0, 0, 0, 0, 0, 128}},
}

// P101: N as eight bytes, the lowest first; and read so.
func TestNumbers(t *testing.T) {
	for _, c := range numbers {
		want := join([]byte{25}, c.want[:], []byte{0})
		if got := Bytes(leaf(api.OInt, c.n)); !bytes.Equal(got, want) {
			t.Errorf("Bytes, N %d: %v", c.n, got)
		}
		got, e := Parse(want)
		if e != api.OK || !reflect.DeepEqual(got, leaf(api.OInt, c.n)) {
			t.Errorf("Parse, N %d: %v, %v", c.n, got, e)
		}
	}
}

// P101: how many Kids, as its lowest eight bits; all of the Kids all the same.
func TestBytesCountOfKids(t *testing.T) {
	for _, count := range []int{0, 1, 2, 3, 254, 255, 256, 257, 511, 512, 70000} {
		got := Bytes(api.Tm{Op: 200, N: 9, Kids: leaves(count)})
		want := join(raw(200, 9, byte(count)), bytes.Repeat(raw(11, 0, 0), count))
		if !bytes.Equal(got, want) {
			t.Errorf("%d Kids: the head %v, %d bytes", count, got[:10], len(got))
		}
	}
}

// P101: a term stands ahead of its Kids, each of them whole, in their order.
func TestBytesOrder(t *testing.T) {
	x := api.Tm{Op: 13, N: 1, Kids: []api.Tm{
		{Op: 4, N: 2, Kids: []api.Tm{leaf(10, 3), leaf(1, 4)}},
		leaf(11, 5),
		{Op: 12, N: 6, Kids: []api.Tm{{Op: 12, N: 7, Kids: []api.Tm{leaf(1, 8)}}}},
		leaf(11, 9),
	}}
	want := join(raw(13, 1, 4), raw(4, 2, 2), raw(10, 3, 0), raw(1, 4, 0), raw(11, 5, 0),
		raw(12, 6, 1), raw(12, 7, 1), raw(1, 8, 0), raw(11, 9, 0))
	if got := Bytes(x); !bytes.Equal(got, want) {
		t.Errorf("%v", got)
	}
	if got, e := Parse(want); e != api.OK || !reflect.DeepEqual(got, x) {
		t.Errorf("%v, %v", got, e)
	}
}

// P101, P2: an empty list of Kids is none.
func TestBytesEmptyKids(t *testing.T) {
	x := api.Tm{Op: 11, Kids: []api.Tm{}}
	if got := Bytes(x); !bytes.Equal(got, raw(11, 0, 0)) {
		t.Errorf("%v", got)
	}
}

// P101: Bytes takes any term, terms that Parse refuses too.
func TestBytesBeyondParse(t *testing.T) {
	if got := Bytes(chain(api.MaxDeep + 1)); len(got) != 10*(api.MaxDeep+1) {
		t.Errorf("deep: %d bytes", len(got))
	}
	if got := Bytes(api.Tm{Op: 7, Kids: leaves(api.MaxNodes)}); len(got) != 10*(api.MaxNodes+1) {
		t.Errorf("wide: %d bytes", len(got))
	}
}

// P1: a term that is far deeper than the stack of calls may grow.
func TestBytesVeryDeep(t *testing.T) {
	defer debug.SetMaxStack(debug.SetMaxStack(1 << 20))
	const deep = 300000
	got := Bytes(chain(deep))
	want := append(bytes.Repeat(raw(12, 0, 1), deep-1), raw(11, 0, 0)...)
	if !bytes.Equal(got, want) {
		t.Errorf("%d bytes", len(got))
	}
}

// P1, P8: an Op that may not be does no harm.
func TestBytesWrongOp(t *testing.T) {
	for _, op := range []int{-1, 256, math.MaxInt64, math.MinInt64} {
		x := api.Tm{Op: op, Kids: []api.Tm{leaf(op, 1)}}
		Bytes(x)
		if !reflect.DeepEqual(x, api.Tm{Op: op, Kids: []api.Tm{leaf(op, 1)}}) {
			t.Errorf("Op %d: changed to %v", op, x)
		}
	}
}

// P2: a term that was handed in is as it was, its spare room too.
func TestBytesLeavesTheTerm(t *testing.T) {
	room := []api.Tm{leaf(1, 2), leaf(3, 4), leaf(77, 78), leaf(79, 80)}
	x := api.Tm{Op: 5, N: 6, Kids: room[:2]}
	Bytes(x)
	if !reflect.DeepEqual(room, []api.Tm{leaf(1, 2), leaf(3, 4), leaf(77, 78), leaf(79, 80)}) {
		t.Errorf("changed: %v", room)
	}
}

// P2, P3: two answers are the same, and share no memory.
func TestBytesAnswersNewMemory(t *testing.T) {
	x := api.Tm{Op: 5, Kids: leaves(2)}
	a, b := Bytes(x), Bytes(x)
	if !bytes.Equal(a, b) {
		t.Fatalf("%v, %v", a, b)
	}
	was := bytes.Clone(b)
	full := a[:cap(a)]
	for i := range full {
		full[i] = 99
	}
	if !bytes.Equal(b, was) || !bytes.Equal(Bytes(x), was) {
		t.Errorf("an answer was kept: %v", b)
	}
}
