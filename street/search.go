package street

import (
	"cmp"
	"slices"

	"bitepoint/api"
)

// cost is what it takes from a stand to the end of a task.
type cost struct{ metres, steps int }

// with returns the cost with a drive more.
func (c cost) with(d drive) cost { return cost{c.metres + d.metres, c.steps + 1} }

// compare orders costs by metres, then by steps.
func (c cost) compare(other cost) int {
	return cmp.Or(cmp.Compare(c.metres, other.metres), cmp.Compare(c.steps, other.steps))
}

// search is what has been found of a job: what stands cost, and those from
// which it has not been searched on, the one that costs least first.
type search struct {
	job
	costs map[stand]cost
	open  []stand
}

// leastCosts returns the least cost of each stand from which the task can be done.
// It goes backwards from the end, always on from the stand that costs least: no
// other way to it can cost less, as each step costs something.
func (j job) leastCosts() map[stand]cost {
	s := search{job: j, costs: map[stand]cost{}}
	s.put(j.end(), cost{})
	for len(s.open) > 0 {
		now := s.open[0]
		s.open = s.open[1:]
	ways:
		for from, d := range j.before(now) {
			way := s.costs[now].with(d)
			known, found := s.costs[from]
			switch {
			case found && known.compare(way) <= 0:
				continue ways
			case found:
				s.drop(from)
			}
			s.put(from, way)
		}
	}
	return s.costs
}

// put keeps what a stand costs, and that it has to be searched on from it.
func (s *search) put(at stand, c cost) {
	s.costs[at] = c
	i, _ := slices.BinarySearchFunc(s.open, at, s.compare)
	s.open = slices.Insert(s.open, i, at)
}

// drop takes a stand out of those from which it has to be searched on. What it
// costs tells where it is, so this comes before that changes.
func (s *search) drop(at stand) {
	i, _ := slices.BinarySearchFunc(s.open, at, s.compare)
	s.open = slices.Delete(s.open, i, i+1)
}

// compare orders stands by what they cost. Those that cost as much need an
// order, too, so that each one can be found again.
func (s *search) compare(a, b stand) int {
	return cmp.Or(s.costs[a].compare(s.costs[b]), cmp.Compare(a.place, b.place), cmp.Compare(a.left, b.left))
}

// best returns the steps of the best tour, if the task can be done: at each
// stand the first one of those with which no way costs more than it has to.
func (j job) best(costs map[stand]cost) []api.StStep {
	var steps []api.StStep
	now := j.start()
	for range costs[now].steps {
		for d := range j.drives() {
			next := now.after(d)
			if c, can := costs[next]; can && d.from == now.place && c.with(d) == costs[now] {
				steps = append(steps, d.StStep)
				now = next
				break
			}
		}
	}
	return steps
}
