package paper

import (
	"iter"
	"slices"

	"bitepoint/api"
	"bitepoint/check"
)

// Draw returns the paper of each seat of a hall, by numbers.
func Draw(b api.PaBank, h api.PaHall, numbers []int) ([][]int, api.Errno) {
	v, e := enter(b, h, len(numbers))
	switch {
	case e != api.OK:
		return nil, e
	case !check.Within(0, api.MaxPaNumber, numbers...):
		return nil, api.ErrRange
	case v.count() == 0:
		return nil, api.ErrNone
	}
	return v.draw(h, numbers)
}

// Accept returns the first seat with an error, and the error.
func Accept(b api.PaBank, h api.PaHall, papers [][]int) (seat int, e api.Errno) {
	v, e := enter(b, h, len(papers))
	if e != api.OK {
		return 0, e
	}
	return check.FirstError(papers, func(seat int, paper []int) api.Errno {
		switch {
		case !v.isPaper(paper):
			return api.ErrForm
		case isTooMuchAlike(h, papers, seat, paper):
			return api.ErrTwice
		}
		return api.OK
	})
}

// enter returns the view of a bank, and the error of the bank and of a hall
// with so many seats.
func enter(b api.PaBank, h api.PaHall, seats int) (view, api.Errno) {
	v, e := open(b)
	switch {
	case e != api.OK:
		return view{}, e
	case !check.Within(1, api.MaxPaRows, h.Rows) || !check.Within(1, api.MaxPaSeats, h.Seats) || !check.Within(0, api.MaxPaQuestions, h.Common):
		return view{}, api.ErrRange
	case seats != h.Rows*h.Seats:
		return view{}, api.ErrLong
	}
	return v, api.OK
}

// draw returns the paper of each seat, or the error that there is none for a
// seat. There is a paper, and a number for each seat.
func (v view) draw(h api.PaHall, numbers []int) ([][]int, api.Errno) {
	all := v.all()
	var drawn [][]int
seats:
	for seat, number := range numbers {
		for i := range all {
			paper := all[(number+i)%len(all)]
			if !isTooMuchAlike(h, drawn, seat, paper) {
				// The same paper can be that of another seat.
				drawn = append(drawn, slices.Clone(paper))
				continue seats
			}
		}
		return nil, api.ErrDown
	}
	return drawn, api.OK
}

// all returns all papers, by their numbers.
func (v view) all() [][]int {
	all := make([][]int, v.count())
	for number := range all {
		all[number] = v.nth(number)
	}
	return all
}

// isTooMuchAlike reports whether a paper for a seat is too much alike with that
// of a neighbour who had theirs before it.
func isTooMuchAlike(h api.PaHall, papers [][]int, seat int, paper []int) bool {
	for neighbour := range neighboursBefore(h, seat) {
		if common(papers[neighbour], paper) > h.Common {
			return true
		}
	}
	return false
}

// neighboursBefore yields the neighbours of a seat with lower numbers: the one
// in the row before it, and the one next to it.
func neighboursBefore(h api.PaHall, seat int) iter.Seq[int] {
	return func(yield func(neighbour int) bool) {
		if seat >= h.Seats && !yield(seat-h.Seats) {
			return
		}
		if seat%h.Seats > 0 {
			yield(seat - 1)
		}
	}
}

// common returns how many elements of a list are in another one, too.
func common[T comparable](list, other []T) int {
	many := 0
	for _, element := range list {
		if slices.Contains(other, element) {
			many++
		}
	}
	return many
}
