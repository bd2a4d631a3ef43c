package check

import (
	"concourse/api"
	"concourse/names"
)

// Finite tells of each declaration whether it is finite.
func Finite(l []api.Decl) []bool {
	finite := make([]bool, len(l))
	w := waitsOf(l)
	found := w.free()
rounds:
	for {
		if len(found) == 0 {
			break rounds
		}
		for _, i := range found {
			finite[i] = true
		}
		// What one round finds sets free what the next one finds: so each declaration is looked at once, not once a round.
		found = w.freed(found)
	}
	return finite
}

// waits are what declarations wait for, so that they are finite.
type waits struct {
	left   []int   // of each declaration: how many of its fields must be found finite still
	behind [][]int // of each declaration: those that wait for it, each as often as it has fields of its name
}

// waitsOf are what declarations wait for, as long as none was found finite.
func waitsOf(l []api.Decl) waits {
	table := names.Of(l)
	w := waits{make([]int, len(l)), make([][]int, len(l))}
	for i, d := range l {
		w.left[i] = needs(d)
		if d.Kind != api.DStruct && d.Kind != api.DUnion {
			continue
		}
		for _, f := range d.Fields {
			if at, ok := table.Find(f.Type.Name); ok && f.Type.Kind == api.TNamed {
				w.behind[at] = append(w.behind[at], i)
			}
		}
	}
	return w
}

// needs is how many of a declaration's fields that are named must be found finite, so that it is.
func needs(d api.Decl) int {
	named := countNamed(d.Fields)
	switch d.Kind {
	case api.DStruct:
		return named
	case api.DUnion:
		if named < len(d.Fields) {
			return 0
		}
		return 1
	case api.DEnum, api.DService:
		return 0
	}
	// What is of no kind waits for one, which never comes.
	return 1
}

// countNamed is how many fields have a name as their type.
func countNamed(l []api.Field) int {
	n := 0
	for _, f := range l {
		if f.Type.Kind == api.TNamed {
			n++
		}
	}
	return n
}

// free are the declarations that wait for nothing.
func (w waits) free() []int {
	var l []int
	for i, n := range w.left {
		if n == 0 {
			l = append(l, i)
		}
	}
	return l
}

// freed are the declarations that wait for nothing any more, now that these were found finite.
func (w waits) freed(found []int) []int {
	var l []int
	for _, i := range found {
		for _, j := range w.behind[i] {
			w.left[j]--
			// Below 0 it was free ahead: a union waits for one field alone.
			if w.left[j] == 0 {
				l = append(l, j)
			}
		}
	}
	return l
}
