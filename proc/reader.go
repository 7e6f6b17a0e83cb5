package proc

import (
	"narthex/api"
	"narthex/content"
	"narthex/deflt"
	"narthex/dtd"
	"narthex/expand"
	"narthex/fetch"
	"narthex/join"
	"narthex/load"
	"narthex/meter"
	"narthex/prolog"
	"narthex/scope"
	"narthex/sweep"
	"narthex/tok"
)

// reader reads a document step by step: each step is a method, and uses what those ahead of it made.
type reader struct {
	doc    []byte
	c      api.Cfg
	g      *fetch.Guard
	m      *meter.Meter
	yield  func(api.Event) api.Errno
	t      *dtd.Table
	spaces *scope.Scope
	joined *join.Joiner
	text   []byte
	ahead  prolog.Prolog
	set    *deflt.Set
	toks   []tok.Tok
}

func newReader(doc []byte, c api.Cfg, g *fetch.Guard, m *meter.Meter, yield func(api.Event) api.Errno) *reader {
	return &reader{doc: doc, c: c, g: g, m: m, yield: yield, t: dtd.New(), spaces: scope.New()}
}

// run takes all steps, up to the first that has an error.
func (r *reader) run() api.Errno {
	for _, step := range []func() api.Errno{r.load, r.prolog, r.defaults, r.sweep, r.reckon, r.events} {
		if e := step(); e != api.OK {
			return e
		}
	}
	return api.OK
}

func (r *reader) load() (e api.Errno) {
	r.text, e = load.Doc(r.doc)
	return e
}

func (r *reader) prolog() (e api.Errno) {
	r.ahead, e = prolog.Read(r.text, r.t, r.g, r.m)
	return e
}

func (r *reader) defaults() (e api.Errno) {
	r.set, e = deflt.Make(r.t, r.m, r.c.MaxDepth)
	return e
}

func (r *reader) sweep() (e api.Errno) {
	r.toks, _, e = sweep.Document(r.text, r.ahead.At)
	return e
}

// reckon spends what the internal entities will cost, ahead of all events.
func (r *reader) reckon() api.Errno {
	size, e := sweep.Extra(r.t.Generals(), r.toks)
	if e != api.OK {
		return e
	}
	return r.m.Spend(size.Cost)
}

func (r *reader) events() api.Errno {
	r.joined = join.New(r.out)
	for _, e := range r.ahead.Events {
		if e := r.joined.Put(e); e != api.OK {
			return e
		}
	}
	env := content.Env{T: r.t, G: r.g, M: r.m, S: r.set, Deep: r.c.MaxDepth}
	if e := content.Walk(env, r.toks, r.raw); e != api.OK {
		return e
	}
	return r.joined.Flush()
}

// out hands out an event whose texts are joined.
func (r *reader) out(e api.Event) api.Errno {
	if e := r.m.Emit(e); e != api.OK {
		return e
	}
	return r.yield(e)
}

// raw makes an event of what content is.
func (r *reader) raw(x content.Raw) api.Errno {
	event, e := r.event(x)
	if e != api.OK {
		return e
	}
	return r.joined.Put(event)
}

func (r *reader) event(x content.Raw) (api.Event, api.Errno) {
	switch x.Kind {
	case api.Start:
		pairs := r.set.Add(x.Name, x.Pairs)
		if e := r.m.Wide(len(pairs)); e != api.OK {
			return api.Event{}, e
		}
		return expand.Start(r.spaces, x.Name, pairs)
	case api.End:
		return expand.End(r.spaces, x.Name)
	}
	return api.Event{Kind: x.Kind, Name: api.Name{Local: x.Name}, Text: x.Text}, api.OK
}
