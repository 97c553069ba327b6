package answer

import "bitepoint/api"

// look is the first box of a sheet that is best to be looked at, and how many
// looks the sheet needs. It is zero, if the outcome does not depend.
type look struct {
	box  api.AnBox
	many int
}

// decides reports whether an unsure box decides.
func (v view) decides(box api.AnBox) bool {
	_, some := told(v.with(box, api.AnEmpty).readings(), func(reading boxes) bool {
		return v.passes(reading) != v.passes(reading.with(box, api.AnMarked))
	})
	return some
}

// look returns the best look at the sheet. Boxes can be looked at in any order,
// so most sheets are come to in several ways.
func (v view) look() look {
	known := map[boxes]look{}
	var best func(b boxes) look
	best = func(b boxes) look {
		if l, is := known[b]; is {
			return l
		}
		var l look
		if (view{v.AnKey, b}).outcome() == api.AnDepends {
			for _, box := range b.unsure() {
				many := 1 + max(best(b.with(box, api.AnEmpty)).many, best(b.with(box, api.AnMarked)).many)
				if l.many == 0 || many < l.many {
					l = look{box, many}
				}
			}
		}
		known[b] = l
		return l
	}
	return best(v.boxes)
}
