package term

import (
	"strings"

	"intaglio/api"
)

// String: the term as a text.
func (t Term) String() string {
	var b strings.Builder
	t.write(&b)
	return b.String()
}

// write puts a term behind a text.
func (t Term) write(b *strings.Builder) {
	if t.Kind >= Atom && t.Kind <= Sign {
		b.WriteString(shapes[t.Kind].mark)
	}
	b.WriteString(t.Name)
	if len(t.Args) == 0 {
		return
	}
	between := byte('(')
	for _, a := range t.Args {
		b.WriteByte(between)
		a.write(b)
		between = ','
	}
	b.WriteByte(')')
}

// Parse: the term of a text.
func Parse(s string) (t Term, e api.Errno) {
	defer func() {
		fault := recover()
		if gaveUp, ok := fault.(api.Errno); ok {
			e = gaveUp
		} else if fault != nil { // not the text's
			panic(fault)
		}
	}()
	return read(s), api.OK
}

// read is the term of a text. As all that reads does, it gives up by panic if there is none.
func read(s string) Term {
	r := reader{rest: s, room: MaxSize}
	t := r.term()
	if r.rest != "" || t.Check() != api.OK {
		panic(api.ErrTerm)
	}
	return t
}

// reader reads a text from its beginning on.
type reader struct {
	rest string
	room int // how many terms more there may be: a text may be as long as it likes
}

// term reads one, whether it is made as its kind is or not.
func (r *reader) term() Term {
	if r.room == 0 {
		panic(api.ErrTerm)
	}
	r.room--
	word := r.word()
	if !r.goes('(') {
		return Of(word)
	}
	t := begun(word)
	for more := true; more; more = r.goes(',') {
		t.Args = append(t.Args, r.term())
	}
	if !r.goes(')') {
		panic(api.ErrTerm)
	}
	return t
}

// word reads what stands ahead of a bracket, of a comma or of the end.
func (r *reader) word() string {
	end := strings.IndexAny(r.rest, "(,)")
	if end < 0 {
		end = len(r.rest)
	}
	word := r.rest[:end]
	r.rest = r.rest[end:]
	return word
}

// goes reads a sign, if it is the next one.
func (r *reader) goes(sign byte) bool {
	if r.rest == "" || r.rest[0] != sign {
		return false
	}
	r.rest = r.rest[1:]
	return true
}

// begun is a term without its Args, by what stands ahead of them.
func begun(word string) Term {
	for kind := Pair; kind <= Sign; kind++ {
		if name, ok := strings.CutPrefix(word, shapes[kind].mark); ok {
			return Term{Kind: kind, Name: name}
		}
	}
	panic(api.ErrTerm)
}
