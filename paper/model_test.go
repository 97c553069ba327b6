package paper_test

import (
	"math/rand"
	"slices"
	"testing"

	"bitepoint/api"
	"bitepoint/paper"
)

// randomBank is a bank without an error. Its weights are few, so that levels
// are often the same, or are any.
func randomBank(r *rand.Rand) api.PaBank {
	parts := 1 + r.Intn(4)
	there, wanted := make([]int, parts), make([]int, parts)
	for part := range parts {
		there[part] = 1 + r.Intn([]int{9, 6, 5, 4}[parts-1])
		wanted[part] = 1 + r.Intn(there[part])
	}
	b := bank(there, wanted)
	r.Shuffle(len(b.Questions), func(i, j int) { b.Questions[i], b.Questions[j] = b.Questions[j], b.Questions[i] })
	few := r.Intn(2) == 0
	for i := range b.Questions {
		q := &b.Questions[i]
		switch {
		case r.Intn(5) == 0:
		case few:
			q.Asked, q.Wrong = 4, r.Intn(5)
		default:
			q.Asked = 1 + r.Intn(100000)
			q.Wrong = r.Intn(q.Asked + 1)
		}
	}
	b.Level = randomLevel(r, b)
	return b
}

// randomLevel is a range of levels, mostly with that of some list of questions
// that has all else that a paper has at one of its ends.
func randomLevel(r *rand.Rand, b api.PaBank) api.Span {
	switch r.Intn(8) {
	case 0:
		lo := r.Intn(16001)
		return api.Span{Lo: lo, Hi: lo + r.Intn(16001-lo)}
	case 1, 2, 3:
		return api.Span{Lo: 0, Hi: 16000}
	}
	level := levelOf(b, randomChoice(r, b))
	if r.Intn(2) == 0 {
		return api.Span{Lo: level, Hi: min(16000, level+r.Intn(1000))}
	}
	return api.Span{Lo: max(0, level-r.Intn(1000)), Hi: level}
}

// randomChoice is a list of questions with all that a paper has, but for the
// level.
func randomChoice(r *rand.Rand, b api.PaBank) []int {
	var list []int
	left := slices.Clone(b.Wanted)
	for _, question := range r.Perm(len(b.Questions)) {
		if part := b.Questions[question].Part; left[part] > 0 {
			left[part]--
			list = append(list, question)
		}
	}
	slices.Sort(list)
	return list
}

// randomList is a list of questions that is often a paper, or nearly one.
func randomList(r *rand.Rand, b api.PaBank) []int {
	list := randomChoice(r, b)
	at := r.Intn(len(list))
	switch r.Intn(10) {
	case 0:
		list[at] = r.Intn(len(b.Questions)+2) - 1
	case 1:
		list = append(list, r.Intn(len(b.Questions)+2)-1)
	case 2:
		list = slices.Insert(list, at, r.Intn(len(b.Questions)))
	case 3:
		list = slices.Delete(list, at, at+1)
	}
	return list
}

// randomHall is a hall for papers of a bank.
func randomHall(r *rand.Rand, b api.PaBank) api.PaHall {
	length := 0
	for _, wanted := range b.Wanted {
		length += wanted
	}
	return api.PaHall{Rows: 1 + r.Intn(5), Seats: 1 + r.Intn(6), Common: r.Intn(length + 1)}
}

// randomNumbers are numbers for the seats of a hall.
func randomNumbers(r *rand.Rand, h api.PaHall) []int {
	numbers := make([]int, h.Rows*h.Seats)
	below := []int{1, 3, 1000, 1000000001}[r.Intn(4)]
	for i := range numbers {
		numbers[i] = r.Intn(below)
	}
	return numbers
}

// weightByTheDocument is the weight of a question: the greatest number that is,
// as often as it was asked, not above a thousand times the wrong answers.
func weightByTheDocument(q api.PaQuestion) int {
	if q.Asked == 0 {
		return 500
	}
	weight := 0
	for (weight+1)*q.Asked <= q.Wrong*1000 {
		weight++
	}
	return weight
}

// levelOf is the level of a list of questions.
func levelOf(b api.PaBank, list []int) int {
	level := 0
	for _, question := range list {
		level += weightByTheDocument(b.Questions[question])
	}
	return level
}

// isPaper reports whether a list has all that a paper has: first that its
// questions ascend and are there, then how many of each part they are, then
// its level.
func isPaper(b api.PaBank, list []int) bool {
	for i, question := range list {
		if question < 0 || question >= len(b.Questions) || i > 0 && question <= list[i-1] {
			return false
		}
	}
	for part, wanted := range b.Wanted {
		has := 0
		for _, question := range list {
			if b.Questions[question].Part == part {
				has++
			}
		}
		if has != wanted {
			return false
		}
	}
	level := levelOf(b, list)
	return b.Level.Lo <= level && level <= b.Level.Hi
}

// papersOf are all papers of a bank, in their order, out of all sets of its
// questions.
func papersOf(b api.PaBank) [][]int {
	var papers [][]int
	for set := range 1 << len(b.Questions) {
		var list []int
		for question := range b.Questions {
			if set>>question&1 == 1 {
				list = append(list, question)
			}
		}
		if isPaper(b, list) {
			papers = append(papers, list)
		}
	}
	slices.SortFunc(papers, slices.Compare[[]int])
	return papers
}

// areNeighbours reports whether two seats are neighbours.
func areNeighbours(h api.PaHall, a, b int) bool {
	rowA, seatA, rowB, seatB := a/h.Seats, a%h.Seats, b/h.Seats, b%h.Seats
	apart := func(x, y int) bool { return x-y == 1 || y-x == 1 }
	return rowA == rowB && apart(seatA, seatB) || seatA == seatB && apart(rowA, rowB)
}

// onBoth is how many questions are on both of two papers.
func onBoth(a, b []int) int {
	many := 0
	for question := range 16 {
		if slices.Contains(a, question) && slices.Contains(b, question) {
			many++
		}
	}
	return many
}

// isAlike reports whether a paper is too much alike with that of a neighbour
// of a seat, out of those who have one.
func isAlike(h api.PaHall, papers [][]int, seat int, list []int) bool {
	for other, theirs := range papers {
		if areNeighbours(h, seat, other) && onBoth(theirs, list) > h.Common {
			return true
		}
	}
	return false
}

// drawOf is a draw of papers for a hall.
func drawOf(papers [][]int, h api.PaHall, numbers []int) ([][]int, api.Errno) {
	if len(papers) == 0 {
		return nil, api.ErrNone
	}
	var drawn [][]int
	for seat, number := range numbers {
		at := number % len(papers)
		tried := 0
		for isAlike(h, drawn, seat, papers[at]) {
			at++
			if at == len(papers) {
				at = 0
			}
			tried++
			if tried == len(papers) {
				return nil, api.ErrDown
			}
		}
		drawn = append(drawn, papers[at])
	}
	return drawn, api.OK
}

// acceptOf is the first seat of a hall with an error, and the error.
func acceptOf(b api.PaBank, h api.PaHall, papers [][]int) (int, api.Errno) {
	for seat, list := range papers {
		if !isPaper(b, list) {
			return seat, api.ErrForm
		}
		if isAlike(h, papers[:seat], seat, list) {
			return seat, api.ErrTwice
		}
	}
	return 0, api.OK
}

// fairOf is the narrowest range of the levels of papers that has so many of
// them, out of all pairs of levels.
func fairOf(b api.PaBank, papers [][]int, many int) (api.Span, api.Errno) {
	if len(papers) < many {
		return api.Span{}, api.ErrDown
	}
	var levels []int
	for _, list := range papers {
		levels = append(levels, levelOf(b, list))
	}
	best := api.Span{Lo: -1, Hi: 100000}
	for _, lo := range levels {
		for _, hi := range levels {
			width := hi - lo
			if width < 0 || width > best.Hi-best.Lo || width == best.Hi-best.Lo && lo >= best.Lo {
				continue
			}
			if inside(levels, lo, hi) >= many {
				best = api.Span{Lo: lo, Hi: hi}
			}
		}
	}
	return best, api.OK
}

// inside is how many levels are in a range.
func inside(levels []int, lo, hi int) int {
	many := 0
	for _, level := range levels {
		if lo <= level && level <= hi {
			many++
		}
	}
	return many
}

// all are all papers of a bank, as Count and Nth tell them.
func all(t *testing.T, b api.PaBank) [][]int {
	t.Helper()
	many, e := paper.Count(b)
	if e != api.OK {
		t.Fatalf("%v: Count = %d, %d", b, many, e)
	}
	var papers [][]int
	for number := range many {
		list, e := paper.Nth(b, number)
		if e != api.OK {
			t.Fatalf("%v: Nth of %d = %v, %d", b, number, list, e)
		}
		papers = append(papers, list)
	}
	return papers
}

// samePapers reports whether two lists of papers are the same.
func samePapers(a, b [][]int) bool {
	return slices.EqualFunc(a, b, func(x, y []int) bool { return slices.Equal(x, y) })
}
