package skill

import (
	"bitepoint/api"
	"bitepoint/check"
)

// level keeps the range in which a level of a learner is. What raises and
// lowers it is known within a range, too.
type level struct {
	raise, lower, narrow func(by api.Span)
	now                  func() api.Span
}

// newLevel returns a level within a range. It panics when it is narrowed to
// levels of which none is in its range: then there is no truth.
func newLevel(at api.Span) level {
	return level{
		raise: func(by api.Span) { at = limited(at.Lo+by.Lo, at.Hi+by.Hi) },
		lower: func(by api.Span) { at = limited(at.Lo-by.Hi, at.Hi-by.Lo) },
		narrow: func(to api.Span) {
			at = both(at, to)
			if isEmpty(at) {
				panic(api.ErrDown)
			}
		},
		now: func() api.Span { return at },
	}
}

// Marks returns which marks an instructor can give for a level.
func Marks(s api.SkSchool, instructor, level int) (api.Span, api.Errno) {
	if e := markError(s, instructor, level); e != api.OK {
		return api.Span{}, e
	}
	bias := s.Instructors[instructor].Bias
	return limited(level+bias.Lo, level+bias.Hi), api.OK
}

// Behind returns which levels can be behind a mark of an instructor.
func Behind(s api.SkSchool, instructor, mark int) (api.Span, api.Errno) {
	if e := markError(s, instructor, mark); e != api.OK {
		return api.Span{}, e
	}
	levels := behind(s.Instructors[instructor].Bias, mark)
	if isEmpty(levels) {
		return api.Span{}, api.ErrDown
	}
	return levels, api.OK
}

// markError returns the error of a school, of an instructor, and of a level or
// a mark.
func markError(s api.SkSchool, instructor, number int) api.Errno {
	if _, _, e := Check(s); e != api.OK {
		return e
	}
	if !isInstructor(s, instructor) {
		return api.ErrNone
	}
	if !check.Within(0, api.All, number) {
		return api.ErrRange
	}
	return api.OK
}

// behind returns the levels for which a mark can be given with a bias; an
// empty range if there are none.
func behind(bias api.Span, mark int) api.Span {
	levels := api.Span{Lo: mark - bias.Hi, Hi: mark - bias.Lo}
	// The least and the greatest mark are given for all that is beyond them,
	// too.
	if mark == 0 {
		levels.Lo = 0
	}
	if mark == api.All {
		levels.Hi = api.All
	}
	return both(levels, api.Span{Lo: 0, Hi: api.All})
}

// limited returns the range whose ends are kept within the limits of levels.
func limited(lo, hi int) api.Span {
	return api.Span{Lo: limit(0, api.All, lo), Hi: limit(0, api.All, hi)}
}

// both returns the numbers that are in both ranges; an empty range if there
// are none.
func both(a, b api.Span) api.Span {
	return api.Span{Lo: max(a.Lo, b.Lo), Hi: min(a.Hi, b.Hi)}
}

// isEmpty reports whether no number is in a range.
func isEmpty(s api.Span) bool { return s.Lo > s.Hi }
