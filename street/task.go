package street

import (
	"iter"
	"slices"

	"bitepoint/api"
)

// Find returns the best tour for a task.
func Find(t api.StTown, k api.StTask) (api.StTour, api.Errno) {
	j, e := newJob(t, k)
	if e != api.OK {
		return api.StTour{}, e
	}
	costs := j.leastCosts()
	if _, can := costs[j.start()]; !can {
		return api.StTour{}, api.ErrDown
	}
	return j.tour(k.Time, j.best(costs)), api.OK
}

// Table returns the least metres from all places, for all that is still to be shown.
func Table(t api.StTown, k api.StTask) ([][]int, api.Errno) {
	j, e := newJob(t, k)
	if e != api.OK {
		return nil, e
	}
	costs := j.leastCosts()
	table := make([][]int, len(j.Places))
	for place := range table {
		table[place] = make([]int, j.sets())
		for set := range table[place] {
			table[place][set] = noWay
			if c, can := costs[stand{place, set}]; can {
				table[place][set] = c.metres
			}
		}
	}
	return table, api.OK
}

// job is a task in a town, both looked at.
type job struct {
	view
	api.StTask
}

// newJob returns the job of a task in a town, and the first error: that of the
// town, then that of the task.
func newJob(t api.StTown, k api.StTask) (job, api.Errno) {
	v, e := open(t)
	if e != api.OK {
		return job{}, e
	}
	switch {
	case !v.arePlaces(k.From, k.To) || !v.isTime(k.Time):
		return job{}, api.ErrNone
	case !v.areSets(k.Show):
		return job{}, api.ErrRange
	case len(k.Closed) > api.MaxStStreets:
		return job{}, api.ErrLong
	case !v.areStreets(k.Closed...):
		return job{}, api.ErrNone
	}
	return job{v, k}, api.OK
}

// stand is where a tour stands: at a place, with a set that is still to be
// shown.
type stand struct{ place, left int }

// drive is a step that can be taken: where it begins and ends, its metres, and
// what it shows at the time of the task.
type drive struct {
	api.StStep
	from, to, metres, shown int
}

// after returns where a tour stands after a drive.
func (s stand) after(d drive) stand { return stand{d.to, s.left &^ d.shown} }

// start returns where a tour stands before its first step.
func (j job) start() stand { return stand{j.From, j.Show} }

// end returns where a tour that does the task stands after its last step.
func (j job) end() stand { return stand{j.To, 0} }

// drives yields all steps that can be taken, in the order of their streets.
func (j job) drives() iter.Seq[drive] {
	return func(yield func(drive) bool) {
		for at, s := range j.Streets {
			if slices.Contains(j.Closed, at) {
				continue
			}
			there := drive{api.StStep{Street: at}, s.From, s.To, s.Metres, s.Shows[j.Time]}
			back := drive{api.StStep{Street: at, Back: true}, s.To, s.From, s.Metres, s.Shows[j.Time]}
			if !yield(there) || s.Both && !yield(back) {
				return
			}
		}
	}
}

// wanted yields all sets that are part of what the task has to show.
func (j job) wanted() iter.Seq[int] {
	return func(yield func(set int) bool) {
		for set := range j.Show + 1 {
			if set&^j.Show == 0 && !yield(set) {
				return
			}
		}
	}
}

// before yields where a tour can stand before a drive that leads to a stand.
func (j job) before(now stand) iter.Seq2[stand, drive] {
	return func(yield func(stand, drive) bool) {
		for d := range j.drives() {
			if d.to != now.place {
				continue
			}
			for set := range j.wanted() {
				from := stand{d.from, set}
				if from.after(d) == now && !yield(from, d) {
					return
				}
			}
		}
	}
}
