package graph

import "slices"

// step is a place that is being looked at, and which of its ways comes next.
type step struct {
	place, way int
}

// walk looks for loops: places that lead to one another are found together, when the first of them that was seen is done.
type walk struct {
	g     Graph
	seen  int   // how many places were seen
	index []int // when a place was seen, from 1 on
	low   []int // the first place, by its index, that a place is known to lead back to
	open  []int // places whose group is not known yet
	held  []bool
	least int
	found bool
}

func newWalk(g Graph) *walk {
	n := len(g.Names)
	return &walk{g: g, index: make([]int, n), low: make([]int, n), held: make([]bool, n)}
}

func (w *walk) see(place int) step {
	w.seen++
	w.index[place], w.low[place] = w.seen, w.seen
	w.open = append(w.open, place)
	w.held[place] = true
	return step{place: place}
}

// from looks at a place, and at all to which it leads, if it was not seen yet.
func (w *walk) from(root int) {
	if w.index[root] != 0 {
		return
	}
	row := []step{w.see(root)}
look:
	for len(row) > 0 {
		top := &row[len(row)-1]
		place := top.place
		if top.way < len(w.g.To[place]) {
			to := w.g.To[place][top.way]
			top.way++
			if w.index[to] == 0 {
				row = append(row, w.see(to))
				continue look
			}
			if w.held[to] {
				w.low[place] = min(w.low[place], w.index[to])
			}
			continue look
		}
		row = row[:len(row)-1]
		if len(row) > 0 {
			around := row[len(row)-1].place
			w.low[around] = min(w.low[around], w.low[place])
		}
		if w.low[place] == w.index[place] {
			w.group(place)
		}
	}
}

// group takes the places that lead to one another off the open ones: first is the one that was seen first.
func (w *walk) group(first int) {
	at := len(w.open) - 1
	for w.open[at] != first {
		at--
	}
	group := w.open[at:]
	loop := len(group) > 1 || slices.Contains(w.g.To[first], first)
	for _, place := range group {
		w.held[place] = false
		if loop && (!w.found || place < w.least) {
			w.least, w.found = place, true
		}
	}
	w.open = w.open[:at]
}
