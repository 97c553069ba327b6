package answer

import (
	"iter"

	"bitepoint/api"
	"bitepoint/check"
	"bitepoint/sets"
)

// none is the answer to a question without one.
const none = -1

// view is a sheet that is looked at, and the key to it.
type view struct {
	api.AnKey
	boxes
}

// boxes is what each box of a sheet shows, question by question. It is a value:
// who changes it has a copy. All boxes that a key does not have are empty.
type boxes [api.MaxAnQuestions][api.MaxAnBoxes]int

// open returns the view of a sheet, and the error of its key and of itself.
func open(k api.AnKey, sheet [][]int) (view, api.Errno) {
	if _, _, e := Check(k); e != api.OK {
		return view{}, e
	}
	if e := sheetError(k, sheet); e != api.OK {
		return view{}, e
	}
	v := view{AnKey: k}
	for question, list := range sheet {
		copy(v.boxes[question][:], list)
	}
	if len(v.unsure()) > api.MaxAnUnsure {
		return view{}, api.ErrLong
	}
	return v, api.OK
}

// unsure returns the boxes that are unsure, in their order.
func (b boxes) unsure() []api.AnBox {
	var unsure []api.AnBox
	for question, list := range b {
		for box, shows := range list {
			if shows == api.AnUnsure {
				unsure = append(unsure, api.AnBox{Question: question, Box: box})
			}
		}
	}
	return unsure
}

// with returns a sheet on which a box shows something else.
func (b boxes) with(box api.AnBox, shows int) boxes {
	b[box.Question][box.Box] = shows
	return b
}

// readings yields all readings of a sheet.
func (b boxes) readings() iter.Seq[boxes] {
	return func(yield func(reading boxes) bool) {
		unsure := b.unsure()
		for marked := range 1 << len(unsure) {
			reading := b
			for at, box := range unsure {
				shows := api.AnEmpty
				if sets.Has(marked, at) {
					shows = api.AnMarked
				}
				reading = reading.with(box, shows)
			}
			if !yield(reading) {
				return
			}
		}
	}
}

// answer returns the box that is the answer to a question on a reading.
func (b boxes) answer(question int) int {
	answer := none
	for box, shows := range b[question] {
		if shows != api.AnMarked {
			continue
		}
		if answer != none {
			return none
		}
		answer = box
	}
	return answer
}

// points returns the points of each part on a reading.
func (v view) points(reading boxes) []int {
	points := make([]int, len(v.Parts))
	for question, q := range v.Questions {
		switch answer := reading.answer(question); {
		case answer == q.Right:
			points[q.Part] += q.Points
		case answer != none:
			points[q.Part] -= q.Minus
		}
	}
	return points
}

// passes reports whether a reading passes.
func (v view) passes(reading boxes) bool {
	points := v.points(reading)
	for part, needed := range v.Parts {
		if points[part] < needed {
			return false
		}
	}
	return sum(points) >= v.All
}

// outcome returns the outcome of the sheet.
func (v view) outcome() int {
	all, some := told(v.readings(), v.passes)
	switch {
	case all:
		return api.AnPasses
	case some:
		return api.AnDepends
	}
	return api.AnFails
}

// misses reports whether a question is missed on all readings of the sheet, and
// on some.
func (v view) misses(question int) (always, sometimes bool) {
	return told(v.readings(), func(reading boxes) bool {
		return reading.answer(question) != v.Questions[question].Right
	})
}

// sheetError returns the error of what the questions of a sheet show.
func sheetError(k api.AnKey, sheet [][]int) api.Errno {
	if len(sheet) != len(k.Questions) {
		return api.ErrLong
	}
	_, e := check.FirstError(sheet, func(question int, list []int) api.Errno {
		switch {
		case len(list) != k.Questions[question].Boxes:
			return api.ErrLong
		case !check.Within(api.AnEmpty, api.AnUnsure, list...):
			return api.ErrRange
		}
		return api.OK
	})
	return e
}

// told reports whether something holds for all that is yielded, and for some of
// it.
func told[T any](yielded iter.Seq[T], holds func(one T) bool) (all, some bool) {
	all = true
	for one := range yielded {
		if holds(one) {
			some = true
		} else {
			all = false
		}
		if some && !all {
			break
		}
	}
	return all, some
}

// sum returns the sum of points.
func sum(points []int) int {
	sum := 0
	for _, n := range points {
		sum += n
	}
	return sum
}
