package forms

import (
	"strconv"
	"strings"

	"thyrsus/api"
)

// writer lays the texts of forms one behind the other.
type writer struct {
	strings.Builder
}

// puts are what a writer does with a form, by the form's kind.
func puts() [api.FList + 1]func(*writer, api.Form) {
	return [...]func(*writer, api.Form){
		api.FName: (*writer).name,
		api.FNum:  (*writer).number,
		api.FList: (*writer).list,
	}
}

// form may come to itself by a list: maxDeep bounds how far.
func (w *writer) form(f api.Form) {
	puts()[f.Kind](w, f)
}

func (w *writer) name(f api.Form) { w.WriteString(f.S) }

func (w *writer) number(f api.Form) { w.WriteString(strconv.Itoa(f.N)) }

func (w *writer) list(f api.Form) {
	w.WriteByte('(')
	for i, part := range f.L {
		if i > 0 {
			w.WriteByte(' ')
		}
		w.form(part)
	}
	w.WriteByte(')')
}
