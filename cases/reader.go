package cases

import (
	"strconv"
	"strings"

	"narthex/api"
)

// badLine is the number of a line that can't stand where it does: with it reading breaks off.
type badLine int

// reader reads lines, one by one.
type reader struct {
	text string
	line int // the number of the line that comes next
}

// next tells the line that comes next, if there is one.
func (r *reader) next() (string, bool) {
	if r.text == "" {
		return "", false
	}
	line, _, ended := strings.Cut(r.text, "\n")
	if !ended {
		r.bad()
	}
	return line, true
}

// take passes over the line that next told.
func (r *reader) take() {
	_, r.text, _ = strings.Cut(r.text, "\n")
	r.line++
}

func (r *reader) bad() { panic(badLine(r.line)) }

// must tells the line that has to come next.
func (r *reader) must() string {
	line, there := r.next()
	if !there {
		r.bad()
	}
	return line
}

// Parse reads a case.
func Parse(text string) (c Case, line int, e api.Errno) {
	defer func() {
		caught := recover()
		if caught == nil {
			return
		}
		if bad, is := caught.(badLine); is {
			c, line, e = Case{}, int(bad), api.ErrLine
			return
		}
		panic(caught)
	}()
	r := &reader{text: text, line: 1}
	c.C = r.limits()
	c.C.Allow = r.patterns(r.next)
	c.Script = r.answers(r.next)
	if r.must() != docWord {
		r.bad()
	}
	r.take()
	c.Doc = r.bars(r.next)
	if _, more := r.next(); more {
		r.bad()
	}
	if tooMuch(c) {
		return Case{}, 0, api.ErrBig
	}
	return c, 0, api.OK
}

func (r *reader) limits() api.Cfg {
	words := strings.Split(r.must(), " ")
	var n [6]int
	if len(words) != 1+len(n) || words[0] != limitsWord {
		r.bad()
	}
	for i := range n {
		n[i] = r.number(words[i+1])
	}
	r.take()
	return api.Cfg{MaxSize: n[0], MaxOut: n[1], MaxDepth: n[2], MaxAttrs: n[3], MaxFetch: n[4], MaxBytes: n[5]}
}

// number reads a number as it is written: no other writing of it may be.
func (r *reader) number(s string) int {
	n, fault := strconv.Atoi(s)
	if fault != nil || n < 0 || n > api.MaxLimit || strconv.Itoa(n) != s {
		r.bad()
	}
	return n
}

func (r *reader) patterns(next func() (string, bool)) []string {
	var l []string
	for {
		line, there := next()
		pattern, is := strings.CutPrefix(line, allowWord)
		if !there || !is {
			return l
		}
		if pattern == "" {
			r.bad()
		}
		l = append(l, pattern)
		r.take()
	}
}

func (r *reader) answers(next func() (string, bool)) []api.Answer {
	var l []api.Answer
	for {
		line, there := next()
		id, isOK := strings.CutPrefix(line, okWord)
		isNo := false
		if !isOK {
			id, isNo = strings.CutPrefix(line, noWord)
		}
		if !there || !isOK && !isNo {
			return l
		}
		if id == "" {
			r.bad()
		}
		r.take()
		a := api.Answer{ID: id, OK: isOK}
		if isOK {
			a.Data = r.bars(next)
		}
		l = append(l, a)
	}
}

// bars reads bytes that are written as lines, of which one at least has to come.
func (r *reader) bars(next func() (string, bool)) []byte {
	if !strings.HasPrefix(r.must(), bar) {
		r.bad()
	}
	var b []byte
	for first := true; ; first = false {
		line, there := next()
		part, is := strings.CutPrefix(line, bar)
		if !there || !is {
			return b
		}
		if !first {
			b = append(b, '\n')
		}
		b = append(b, part...)
		r.take()
	}
}
