package forms

import (
	"thyrsus/api"
)

// reader lays forms in the row of the nearest list that is open (of none: in
// the text's own), and keeps the rows around that one, the nearest one last.
type reader struct {
	row   []api.Form
	outer [][]api.Form
}

// takes are what a reader does with a token, by the token's kind.
func takes() [api.TNum + 1]func(*reader, api.Token) api.Errno {
	return [...]func(*reader, api.Token) api.Errno{
		api.TOpen:  (*reader).open,
		api.TClose: (*reader).shut,
		api.TName:  (*reader).name,
		api.TNum:   (*reader).number,
	}
}

func (r *reader) open(api.Token) api.Errno {
	if len(r.outer) == maxDeep {
		return api.ErrDeep
	}
	r.outer = append(r.outer, r.row)
	r.row = nil
	return api.OK
}

func (r *reader) shut(api.Token) api.Errno {
	last := len(r.outer) - 1
	if last < 0 {
		return api.ErrForm
	}
	list := api.Form{Kind: api.FList, L: r.row}
	r.row = append(r.outer[last], list)
	r.outer = r.outer[:last]
	return api.OK
}

func (r *reader) name(t api.Token) api.Errno {
	r.row = append(r.row, api.Form{Kind: api.FName, S: t.S})
	return api.OK
}

func (r *reader) number(t api.Token) api.Errno {
	r.row = append(r.row, api.Form{Kind: api.FNum, N: t.N})
	return api.OK
}
