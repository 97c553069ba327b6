package class

import (
	"cmp"
	"iter"
	"maps"
	"slices"

	"bitepoint/api"
	"bitepoint/check"
)

// May returns whether rights allow a vehicle.
func May(s api.ClSystem, rights []api.ClRight, class, features int) (bool, api.Errno) {
	v, e := open(s, rights)
	if e != api.OK {
		return false, e
	}
	if !v.isClass(class) {
		return false, api.ErrNone
	}
	if !v.isSet(features) {
		return false, api.ErrRange
	}
	allowing := func(r api.ClRight) bool { return v.covers(r.Class, class) && r.Codes&features == 0 }
	return slices.ContainsFunc(rights, allowing), api.OK
}

// Least returns the least form of rights.
func Least(s api.ClSystem, rights []api.ClRight) ([]api.ClRight, api.Errno) {
	v, e := open(s, rights)
	if e != api.OK {
		return nil, e
	}
	return v.least(slices.Values(rights)), api.OK
}

// Allows returns whether rights allow all that other ones allow.
func Allows(s api.ClSystem, a, b []api.ClRight) (bool, api.Errno) {
	v, e := open(s, a, b)
	if e != api.OK {
		return false, e
	}
	// The vehicle of the class of a right that has all features but those of
	// its codes is allowed only by a right that allows all that this one does.
	// So single rights can be compared, no sums of them.
	for _, r := range b {
		if !slices.ContainsFunc(a, func(other api.ClRight) bool { return v.allowsAll(other, r) }) {
			return false, api.OK
		}
	}
	return true, api.OK
}

// Both returns the rights that allow what both lists allow.
func Both(s api.ClSystem, a, b []api.ClRight) ([]api.ClRight, api.Errno) {
	v, e := open(s, a, b)
	if e != api.OK {
		return nil, e
	}
	both := v.least(v.common(a, b))
	if len(both) > api.MaxClRights {
		return nil, api.ErrLong
	}
	return both, api.OK
}

// rightsError returns the error of rights.
func (v view) rightsError(rights []api.ClRight) api.Errno {
	if len(rights) > api.MaxClRights {
		return api.ErrLong
	}
	_, e := check.FirstError(rights, func(_ int, r api.ClRight) api.Errno {
		if !v.isClass(r.Class) {
			return api.ErrNone
		}
		if !v.isSet(r.Codes) {
			return api.ErrRange
		}
		return api.OK
	})
	return e
}

// allowsAll reports whether a right allows all vehicles that another one does.
func (v view) allowsAll(r, other api.ClRight) bool {
	return v.covers(r.Class, other.Class) && r.Codes&^other.Codes == 0
}

// weaker reports whether a right is weaker than another one.
func (v view) weaker(r, other api.ClRight) bool {
	return r != other && v.allowsAll(other, r)
}

// least returns the least form of rights, of which there may be more than a
// list of rights has.
func (v view) least(rights iter.Seq[api.ClRight]) []api.ClRight {
	kept := map[api.ClRight]bool{}
	for r := range rights {
		kept[r] = true
	}
	once := slices.Collect(maps.Keys(kept))
	for _, r := range once {
		if slices.ContainsFunc(once, func(other api.ClRight) bool { return v.weaker(r, other) }) {
			delete(kept, r)
		}
	}
	return slices.SortedFunc(maps.Keys(kept), compareRights)
}

// common yields, for each right of a and each of b, what both of them allow:
// a right for each class that both cover.
func (v view) common(a, b []api.ClRight) iter.Seq[api.ClRight] {
	return func(yield func(api.ClRight) bool) {
		for _, r := range a {
			for _, other := range b {
				for class := range v.Classes {
					if !v.covers(r.Class, class) || !v.covers(other.Class, class) {
						continue
					}
					if !yield(api.ClRight{Class: class, Codes: r.Codes | other.Codes}) {
						return
					}
				}
			}
		}
	}
}

// compareRights orders rights by Class, then by Codes.
func compareRights(a, b api.ClRight) int {
	return cmp.Or(cmp.Compare(a.Class, b.Class), cmp.Compare(a.Codes, b.Codes))
}
