package paper

import (
	"slices"

	"bitepoint/api"
	"bitepoint/check"
)

// view is a bank that is looked at: the weight of each question, how many
// questions of each part there are from each one on, and how many papers the
// stands become that were asked for.
type view struct {
	api.PaBank
	weights []int
	left    []needs
	known   map[stand]int
}

// stand is how far a paper has come: the question that is next, what is still
// needed, and the level of the questions that it has.
type stand struct {
	question int
	needs    needs
	level    int
}

// needs is how many questions of each part are needed.
type needs [api.MaxPaParts]int

// open returns the view of a bank, and its error.
func open(b api.PaBank) (view, api.Errno) {
	if _, _, e := Check(b); e != api.OK {
		return view{}, e
	}
	v := view{PaBank: b, left: make([]needs, len(b.Questions)+1), known: map[stand]int{}}
	for _, q := range v.Questions {
		v.weights = append(v.weights, weight(q))
	}
	for question, q := range slices.Backward(v.Questions) {
		v.left[question] = v.left[question+1]
		v.left[question][q.Part]++
	}
	return v, api.OK
}

// start returns the stand of a paper without a question.
func (v view) start() stand {
	var s stand
	copy(s.needs[:], v.Wanted)
	return s
}

// with returns the stand behind the next question, if the paper has it.
func (v view) with(s stand) stand {
	s.needs[v.Questions[s.question].Part]--
	s.level += v.weights[s.question]
	s.question++
	return s
}

// without returns the stand behind the next question, if the paper does not
// have it.
func (s stand) without() stand {
	s.question++
	return s
}

// isFull reports whether a paper has just what it needs.
func (s stand) isFull() bool { return s.needs == needs{} }

// isDone reports whether a stand is a paper: it is full, and as hard as it
// should be.
func (v view) isDone(s stand) bool {
	return s.isFull() && check.Within(v.Level.Lo, v.Level.Hi, s.level)
}

// canBeFull reports whether a stand can still become full. At the end just
// those can that are.
func (v view) canBeFull(s stand) bool {
	for part, there := range v.left[s.question] {
		if !check.Within(0, there, s.needs[part]) {
			return false
		}
	}
	return true
}

// count returns how many papers there are.
func (v view) count() int { return v.behind(v.start()) }

// behind returns how many papers a stand can become.
func (v view) behind(s stand) int {
	switch {
	case v.isDone(s):
		return 1
	case s.isFull() || !v.canBeFull(s):
		return 0
	}
	many, is := v.known[s]
	if !is {
		many = v.behind(v.with(s)) + v.behind(s.without())
		v.known[s] = many
	}
	return many
}

// isPaper reports whether a list of questions is a paper. What is next in the
// stand is the lowest question that can come next in the list.
func (v view) isPaper(list []int) bool {
	s := v.start()
	for _, question := range list {
		if !check.Within(s.question, len(v.Questions)-1, question) {
			return false
		}
		s.question = question
		s = v.with(s)
	}
	return v.isDone(s)
}

// nth returns the paper with a number that is below the count. All papers that
// a stand becomes with its next question come before those without it.
func (v view) nth(number int) []int {
	var paper []int
	for s := v.start(); !s.isFull(); {
		with := v.with(s)
		if before := v.behind(with); number < before {
			paper = append(paper, s.question)
			s = with
		} else {
			number -= before
			s = s.without()
		}
	}
	return paper
}

// number returns the number of a paper: whenever it is without a question,
// those with it, and with all else that it has so far, come before it.
func (v view) number(paper []int) int {
	number := 0
	s := v.start()
	for _, question := range paper {
		for s.question < question {
			number += v.behind(v.with(s))
			s = s.without()
		}
		s = v.with(s)
	}
	return number
}

// levels returns the levels of all papers, ascending.
func (v view) levels() []int {
	var levels []int
	var find func(s stand)
	find = func(s stand) {
		switch {
		case v.isDone(s):
			levels = append(levels, s.level)
		case v.behind(s) > 0:
			find(v.with(s))
			find(s.without())
		}
	}
	find(v.start())
	slices.Sort(levels)
	return levels
}
