package street

import (
	"bitepoint/api"
	"bitepoint/check"
)

// noWay is the number of a table where there is no way.
const noWay = -1

// Proves returns whether a table proves the least metres of a task.
func Proves(t api.StTown, k api.StTask, table [][]int) (bool, api.Errno) {
	j, e := newJob(t, k)
	if e != api.OK {
		return false, e
	}
	if e := j.tableError(table); e != api.OK {
		return false, e
	}
	return j.proves(table), api.OK
}

// tableError returns the error of a table.
func (v view) tableError(table [][]int) api.Errno {
	if len(table) != len(v.Places) {
		return api.ErrLong
	}
	for _, numbers := range table {
		if len(numbers) != v.sets() {
			return api.ErrLong
		}
	}
	for _, numbers := range table {
		if !check.Within(noWay, api.MaxStTotal, numbers...) {
			return api.ErrRange
		}
	}
	return api.OK
}

// proves reports whether a table proves the least metres: no step leads to
// less than it claims.
func (j job) proves(table [][]int) bool {
	claim := func(s stand) int { return table[s.place][s.left] }
	if claim(j.end()) != 0 {
		return false
	}
	for d := range j.drives() {
		for set := range j.wanted() {
			now := stand{d.from, set}
			here, there := claim(now), claim(now.after(d))
			if there != noWay && (here == noWay || here > there+d.metres) {
				return false
			}
		}
	}
	return true
}
