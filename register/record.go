package register

import (
	"slices"

	"bitepoint/api"
	"bitepoint/class"
)

// record is a person who is looked at, with the events in order and all that
// follows from them.
type record struct {
	view
	api.RgPerson
	offences           map[int]int // the points of each day with offences
	taken              map[int]int // for each of these days the one on which its points were taken
	byCourts, byPoints []api.Span  // bans
	granted            []grant
}

// open returns the record of a person, and the error of the rules, then that
// of the person.
func open(r api.RgRules, p api.RgPerson) (*record, api.Errno) {
	if _, _, e := Check(r); e != api.OK {
		return nil, e
	}
	v := view{r}
	if e := v.personError(p); e != api.OK {
		return nil, e
	}
	return v.record(p), api.OK
}

// record returns the record of a person without an error.
func (v view) record(p api.RgPerson) *record {
	k := &record{view: v, RgPerson: p, offences: map[int]int{}, taken: map[int]int{}}
	k.Events = inOrder(p.Events)
	// No grant can be judged before all bans are known.
	k.findBans()
	k.judgeGrants()
	return k
}

// dayError returns the error of a day on which the person is looked at.
func (k *record) dayError(day int) api.Errno {
	switch {
	case !isDay(day):
		return api.ErrRange
	case day < k.Born:
		return api.ErrArg
	}
	return api.OK
}

// driveError returns the error of a drive. That of its vehicle is the same
// whoever drives it: so it is asked without rights.
func (k *record) driveError(_ int, d api.RgDrive) api.Errno {
	if e := k.dayError(d.Day); e != api.OK {
		return e
	}
	_, e := class.May(k.System, nil, d.Class, d.Features)
	return e
}

// held returns the rights that are held on a day.
func (k *record) held(day int) []api.ClRight {
	if k.isBanned(day) {
		return nil
	}
	var rights []api.ClRight
	for g := range k.grantsUpTo(day) {
		if g.why(day) == api.RgMay {
			rights = append(rights, g.right)
		}
	}
	least, _ := class.Least(k.System, rights)
	return least
}

// why returns why a drive is not allowed.
func (k *record) why(d api.RgDrive) int {
	switch {
	case anyHas(k.byCourts, d.Day):
		return api.RgCourt
	case anyHas(k.byPoints, d.Day):
		return api.RgTaken
	}
	var reasons []int
	for g := range k.grantsUpTo(d.Day) {
		allows, _ := class.May(k.System, []api.ClRight{g.right}, d.Class, d.Features)
		if allows {
			reasons = append(reasons, g.why(d.Day))
		}
	}
	switch {
	case len(reasons) == 0:
		return api.RgNothing
	case slices.Contains(reasons, api.RgMay):
		return api.RgMay
	}
	return slices.Max(reasons)
}
