package run

import (
	"strconv"
	"strings"

	"thyrsus/api"
)

// longest is how many bytes a text has at most: as many as anything has.
const longest = 1<<31 - 1

// measure counts a text's bytes, as long as they are not too many.
type measure struct{ size int }

func (m *measure) put(s string) bool {
	m.size += len(s)
	return m.size <= longest
}

// page is what a text is written on.
type page struct{ text strings.Builder }

func (p *page) put(s string) bool {
	p.text.WriteString(s)
	return true
}

// open is a pair that is being told, and whether its first part has been.
type open struct {
	pair *api.Val
	half bool
}

// tell puts a value's text, piece by piece; false: it may put no more, or the
// value holds itself. What is open stands in a list: a value may be deeper than
// calls within calls.
func tell(v *api.Val, put func(string) bool) bool {
	var path []open
parts:
	for {
		for isPair(v) {
			if within(v, path) || !put("(") {
				return false
			}
			path = append(path, open{pair: v})
			v = &v.L[0]
		}
		if !put(leaf(v)) {
			return false
		}
		for len(path) > 0 {
			last := &path[len(path)-1]
			if !last.half {
				last.half = true
				v = &last.pair.L[1]
				if !put(", ") {
					return false
				}
				continue parts
			}
			if !put(")") {
				return false
			}
			path = path[:len(path)-1]
		}
		return true
	}
}

func isPair(v *api.Val) bool { return v.Kind == api.VPair && len(v.L) == 2 }

func leaf(v *api.Val) string {
	if v.Kind == api.VInt {
		return strconv.Itoa(v.N)
	}
	return "fn"
}

// within tells whether a pair is the one that stands half the way to it, as it
// comes to be somewhere on each path that has no end.
func within(v *api.Val, path []open) bool {
	return len(path) > 0 && path[len(path)/2].pair == v
}
