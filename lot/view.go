package lot

import (
	"iter"

	"bitepoint/api"
	"bitepoint/sets"
)

// view is a draw that is looked at, and what tells in how many ways the tests
// that a stand has left can be given to examiners.
type view struct {
	api.LoDraw
	ways func(s stand) int
}

// stand is how far an assignment has come: the test that is next, and what is
// left of Times.
type stand struct {
	test int
	left rest
}

// rest is how many tests each examiner can still take.
type rest [api.MaxLoExaminers]int

// open returns the view of a draw, and its error.
func open(d api.LoDraw) (view, api.Errno) {
	if _, _, e := Check(d); e != api.OK {
		return view{}, e
	}
	v := view{LoDraw: d}
	v.ways = v.counted()
	return v, api.OK
}

// counted returns what tells in how many ways the tests that a stand has left
// can be given to examiners. Many assignments come to the same stand, so what
// was found for it is kept. Which test is next follows from what is left of
// Times, so this is enough to find it by.
func (v view) counted() func(s stand) int {
	known := map[rest]int{}
	var ways func(s stand) int
	ways = func(s stand) int {
		if s.test == len(v.Knows) {
			return 1
		}
		many, is := known[s.left]
		if is {
			return many
		}
		for examiner := range v.able(s) {
			behind := ways(s.with(examiner))
			many += behind
		}
		known[s.left] = many
		return many
	}
	return ways
}

// start returns the stand in which no test has an examiner.
func (v view) start() stand {
	var s stand
	copy(s.left[:], v.Times)
	return s
}

// with returns the stand behind the next test, if an examiner takes it.
func (s stand) with(examiner int) stand {
	s.left[examiner]--
	s.test++
	return s
}

// can reports whether an examiner can take the next test.
func (v view) can(s stand, examiner int) bool {
	return s.left[examiner] > 0 && !sets.Has(v.Knows[s.test], examiner)
}

// able yields the examiners that can take the next test.
func (v view) able(s stand) iter.Seq[int] {
	return func(yield func(examiner int) bool) {
		for examiner := range v.Times {
			if v.can(s, examiner) && !yield(examiner) {
				return
			}
		}
	}
}

// count returns how many allowed assignments there are.
func (v view) count() int { return v.ways(v.start()) }

// pick returns the assignment that a lot picks, if there is an allowed one. Of
// those that a stand becomes, all with a lower examiner of the next test come
// first.
func (v view) pick(lot int) []int {
	index := lot % v.count()
	s := v.start()
	var assignment []int
	for range v.Knows {
		for examiner := range v.able(s) {
			next := s.with(examiner)
			behind := v.ways(next)
			if index < behind {
				assignment = append(assignment, examiner)
				s = next
				break
			}
			index -= behind
		}
	}
	return assignment
}

// index returns the index of an assignment with an examiner for each test, and
// its error.
func (v view) index(assignment []int) (int, api.Errno) {
	index := 0
	s := v.start()
	for _, taker := range assignment {
		if !v.can(s, taker) {
			return 0, api.ErrArg
		}
		for examiner := range v.able(s) {
			if examiner == taker {
				break
			}
			before := v.ways(s.with(examiner))
			index += before
		}
		s = s.with(taker)
	}
	return index, api.OK
}
