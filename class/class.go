// Package class is layer 1: the calendar, classes of licences and what they
// include, rights and their least form, and rights as text: see
// shared/doc/01-class.md.
package class

import (
	"slices"

	"bitepoint/api"
	"bitepoint/check"
	"bitepoint/sets"
)

// Name reports whether a string is a name.
func Name(s string) bool {
	if !check.Within(1, api.MaxName, len(s)) {
		return false
	}
	for i, r := range s {
		letter := 'a' <= r && r <= 'z'
		digit := '0' <= r && r <= '9'
		if !letter && (!digit || i == 0) {
			return false
		}
	}
	return true
}

// Check returns the part, the index in it and the error of a system.
func Check(s api.ClSystem) (part, at int, e api.Errno) {
	if !check.Within(1, api.MaxClClasses, len(s.Classes)) || len(s.Codes) > api.MaxClCodes {
		return 1, 0, api.ErrLong
	}
	if at, e := check.FirstError(s.Classes, classErrors(s)); e != api.OK {
		return 2, at, e
	}
	if at, e := check.FirstError(s.Codes, codeErrors(s)); e != api.OK {
		return 3, at, e
	}
	if at, e := check.FirstError(s.Classes, look(s).circleError); e != api.OK {
		return 4, at, e
	}
	return 0, 0, api.OK
}

// Covers returns all classes that a class covers.
func Covers(s api.ClSystem, class int) ([]int, api.Errno) {
	v, e := open(s)
	if e != api.OK {
		return nil, e
	}
	if !v.isClass(class) {
		return nil, api.ErrNone
	}
	var all []int
	for other := range v.Classes {
		if v.covers(class, other) {
			all = append(all, other)
		}
	}
	return all, api.OK
}

// view is a system that is looked at. For each class, covered has those that
// it covers, as bits.
type view struct {
	api.ClSystem
	covered []int
}

// open returns the view of a system and the first error: that of the system,
// then that of each list of rights.
func open(s api.ClSystem, lists ...[]api.ClRight) (view, api.Errno) {
	if _, _, e := Check(s); e != api.OK {
		return view{}, e
	}
	v := look(s)
	for _, rights := range lists {
		if e := v.rightsError(rights); e != api.OK {
			return view{}, e
		}
	}
	return v, api.OK
}

// look returns the view of a system. Classes may include each other in a
// circle, but only indices of classes.
func look(s api.ClSystem) view {
	v := view{ClSystem: s, covered: make([]int, len(s.Classes))}
	for class := range v.Classes {
		v.covered[class] = v.reach(class)
	}
	return v
}

// reach returns all classes that a class covers, as bits.
func (v view) reach(class int) int {
	found := 0
	var visit func(next int)
	visit = func(next int) {
		if sets.Has(found, next) {
			return
		}
		found |= 1 << next
		for _, included := range v.Classes[next].Includes {
			visit(included)
		}
	}
	visit(class)
	return found
}

// covers reports whether a class covers another one.
func (v view) covers(class, other int) bool { return sets.Has(v.covered[class], other) }

// isClass reports whether a number is the index of a class.
func (v view) isClass(class int) bool { return check.Within(0, len(v.Classes)-1, class) }

// isSet reports whether a number is a set of codes, or of features.
func (v view) isSet(set int) bool { return check.Within(0, 1<<len(v.Codes)-1, set) }

// circleError returns ErrDown for a class that includes one that covers it.
func (v view) circleError(at int, c api.ClClass) api.Errno {
	for _, included := range c.Includes {
		if v.covers(included, at) {
			return api.ErrDown
		}
	}
	return api.OK
}

// classErrors returns what tells the error of a class of a system, all but
// circles: they can be looked for only when all indices are valid.
func classErrors(s api.ClSystem) func(at int, c api.ClClass) api.Errno {
	last := len(s.Classes) - 1
	return func(at int, c api.ClClass) api.Errno {
		sameName := func(other api.ClClass) bool { return other.Name == c.Name }
		switch {
		case !Name(c.Name):
			return api.ErrForm
		case slices.ContainsFunc(s.Classes[:at], sameName):
			return api.ErrTwice
		case len(c.Includes) > len(s.Classes):
			return api.ErrLong
		case !check.Within(0, last, c.Includes...) || !check.Within(-1, last, c.Needs):
			return api.ErrNone
		case c.Needs == at:
			return api.ErrArg
		case !check.Within(0, api.MaxClYears, c.Age, c.Term):
			return api.ErrRange
		}
		return api.OK
	}
}

// codeErrors returns what tells the error of a code of a system.
func codeErrors(s api.ClSystem) func(at int, code string) api.Errno {
	return func(at int, code string) api.Errno {
		switch {
		case !Name(code):
			return api.ErrForm
		case slices.Contains(s.Codes[:at], code):
			return api.ErrTwice
		}
		return api.OK
	}
}
