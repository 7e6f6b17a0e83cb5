// Package near picks, of many entities, those that one text leads to: what a text costs and makes hangs on these alone, and they are few where all may be many.
package near

import (
	"slices"

	"narthex/api"
	"narthex/graph"
	"narthex/refs"
)

// Picker has all internal entities of a list, and which leads to which.
type Picker struct {
	g      graph.Graph
	inner  []api.Entity
	places map[string]int
}

// New makes a picker of a list's internal entities; false, if they lead back to themselves.
func New(l []api.Entity) (*Picker, bool) {
	p := &Picker{g: graph.Of(l), places: map[string]int{}}
	if _, loops := graph.Loop(p.g); loops {
		return nil, false
	}
	for _, x := range l {
		if _, there := p.places[x.Name]; !x.Out && !there {
			p.places[x.Name] = len(p.inner)
			p.inner = append(p.inner, x)
		}
	}
	return p, true
}

// Of tells the entities to which a text leads, in the order of the list.
func (p *Picker) Of(text string) []api.Entity {
	if p == nil {
		return nil
	}
	reached := map[int]int{}
	var row []int
	reach := func(place int) {
		if _, there := reached[place]; !there {
			reached[place] = len(row)
			row = append(row, place)
		}
	}
	for _, name := range refs.Each(text) {
		if place, there := p.places[name]; there {
			reach(place)
		}
	}
	for next := 0; next < len(row); next++ {
		for _, to := range p.g.To[row[next]] {
			reach(to)
		}
	}
	slices.Sort(row)
	var l []api.Entity
	for _, place := range row {
		l = append(l, p.inner[place])
	}
	return l
}
