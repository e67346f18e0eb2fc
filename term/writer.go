package term

import (
	"strconv"
	"strings"

	"thyrsus/api"
)

// writer lays the texts of terms one behind the other.
type writer struct {
	strings.Builder
}

// term may call itself: the term's depth bounds how far.
func (w *writer) term(t api.Tm) {
	if len(t.Kids) == 0 {
		w.leaf(t)
		return
	}
	w.WriteByte('(')
	w.head(t)
	for _, kid := range t.Kids {
		w.WriteByte(' ')
		w.term(kid)
	}
	w.WriteByte(')')
}

func (w *writer) leaf(t api.Tm) {
	if s := letter(t.Op); s != "" {
		w.WriteString(s)
		w.number(t.N)
		return
	}
	w.number(t.Op)
}

func (w *writer) head(t api.Tm) {
	w.number(t.Op)
	if t.Op == api.OPrim {
		w.WriteByte('/')
		w.number(t.N)
	}
}

func (w *writer) number(n int) { w.WriteString(strconv.Itoa(n)) }
