package decl

import (
	"bytes"
	"strings"

	"narthex/api"
	"narthex/atype"
	"narthex/cref"
	"narthex/evalue"
	"narthex/extid"
	"narthex/lit"
	"narthex/misc"
	"narthex/name"
)

const dataMark = "NDATA"

// reader reads a declaration part by part: each part is a method that moves it on.
type reader struct {
	b  []byte
	at int
	d  Decl
}

// parts reads parts, one by one, up to the first that has an error.
func (r *reader) parts(l ...func() api.Errno) api.Errno {
	for _, part := range l {
		if e := part(); e != api.OK {
			return e
		}
	}
	return api.OK
}

func (r *reader) begins(mark string) bool { return bytes.HasPrefix(r.b[r.at:], []byte(mark)) }

// word takes a declaration's word, if it stands here: the kind is known then.
func (r *reader) word(kind int, mark string) bool {
	if !r.begins(mark) {
		return false
	}
	r.d.Kind = kind
	r.at += len(mark)
	return true
}

func (r *reader) declaration() (e api.Errno) {
	r.at = name.Blanks(r.b, r.at)
	switch {
	case r.at == len(r.b) || r.begins("]"):
		r.d.Kind = End
	case r.begins("%"):
		r.d.Kind = Ref
		r.d.Name, r.at, e = cref.Param(r.b, r.at)
	case r.begins("<!--"):
		r.d.Kind = Comment
		r.d.Text, r.at, e = misc.Comment(r.b, r.at)
	case r.begins("<?"):
		r.d.Kind = Pi
		r.d.Name, r.d.Text, r.at, e = misc.Pi(r.b, r.at)
	case r.word(Entity, entityMark):
		e = r.parts(r.gap, r.sign, r.entityName, r.gap, r.entityText, r.close)
	case r.word(List, listMark):
		e = r.parts(r.gap, r.name, r.defs, r.close)
	case r.word(Notation, notationMark):
		e = r.parts(r.gap, r.plain, r.gap, r.identifier, r.close)
	case r.word(Element, elementMark):
		e = r.parts(r.gap, r.name, r.gap, r.model, r.close)
	default:
		e = api.ErrForm
	}
	return e
}

// gap passes over blanks, of which one at least has to be there.
func (r *reader) gap() api.Errno {
	from := r.at
	r.at = name.Blanks(r.b, from)
	if r.at == from {
		return api.ErrForm
	}
	return api.OK
}

// close passes over blanks, and ">".
func (r *reader) close() api.Errno {
	r.at = name.Blanks(r.b, r.at)
	if !r.begins(">") {
		return api.ErrForm
	}
	r.at++
	return api.OK
}

// sign reads the mark of a parameter entity, if it is there.
func (r *reader) sign() api.Errno {
	if !r.begins("%") {
		return api.OK
	}
	r.d.Param = true
	r.at++
	return r.gap()
}

func (r *reader) name() (e api.Errno) {
	r.d.Name, r.at, e = name.Name(r.b, r.at)
	return e
}

func (r *reader) plain() (e api.Errno) {
	r.d.Name, r.at, e = name.Plain(r.b, r.at)
	return e
}

func (r *reader) entityName() (e api.Errno) {
	r.d.Entity.Name, r.at, e = name.Plain(r.b, r.at)
	return e
}

// entityText reads what an entity stands for: a value, or where its text is to be had.
func (r *reader) entityText() api.Errno {
	if !r.begins(`"`) && !r.begins(`'`) {
		return r.parts(r.entityID, r.entityNotation)
	}
	value, next, e := lit.Entity(r.b, r.at)
	if e == api.OK {
		r.at = next
		r.d.Entity.Text, e = evalue.Text(value)
	}
	return e
}

func (r *reader) entityID() (e api.Errno) {
	r.d.Entity.Out = true
	r.d.Entity.ID, r.at, e = extid.Ext(r.b, r.at)
	return e
}

// entityNotation reads the notation of an entity that is not parsed, if it is there.
func (r *reader) entityNotation() (e api.Errno) {
	from := name.Blanks(r.b, r.at)
	if r.d.Param || from == r.at || !bytes.HasPrefix(r.b[from:], []byte(dataMark)) {
		return api.OK
	}
	r.at = from + len(dataMark)
	if e := r.gap(); e != api.OK {
		return e
	}
	r.d.Entity.Notation, r.at, e = name.Plain(r.b, r.at)
	return e
}

// defs reads attributes, one by one, as long as any come.
func (r *reader) defs() api.Errno {
	for {
		from := name.Blanks(r.b, r.at)
		if from == r.at || from == len(r.b) || r.b[from] == '>' {
			return api.OK
		}
		def, next, e := atype.One(r.b, from)
		if e != api.OK {
			return e
		}
		r.d.Defs = append(r.d.Defs, def)
		r.at = next
	}
}

func (r *reader) identifier() (e api.Errno) {
	r.d.ID, r.at, e = extid.Either(r.b, r.at)
	return e
}

// model reads what an element may hold, as it is written. The blanks ahead are passed over, so that any text has more than blanks.
func (r *reader) model() api.Errno {
	size := bytes.IndexByte(r.b[r.at:], '>')
	if size < 1 {
		return api.ErrForm
	}
	text := string(r.b[r.at : r.at+size])
	if strings.ContainsAny(text, `<&%"'`) {
		return api.ErrForm
	}
	r.d.Text = text
	r.at += size
	return api.OK
}
