package register

import (
	"iter"
	"slices"

	"bitepoint/api"
	"bitepoint/class"
)

// never is the end of a grant that has none: it is behind all days.
const never = api.MaxDay + 1

// grant is a pass or an exchange that was judged: its right, the reason of the
// first condition that is not met (or RgMay), and its end.
type grant struct {
	api.RgEvent
	right       api.ClRight
	reason, end int
}

// why returns why a grant allows nothing on a day that is not before its own
// (or RgMay).
func (g grant) why(day int) int {
	if g.reason == api.RgMay && g.end <= day {
		return api.RgOver
	}
	return g.reason
}

// judgeGrants judges all grants, in order: so those of earlier days are judged
// before they are needed.
func (k *record) judgeGrants() {
	for _, event := range k.Events {
		g := grant{RgEvent: event}
		switch event.Kind {
		case api.RgPass:
			g.right = event.Right
		case api.RgExchange:
			g.right = k.Treaties[event.Treaty].Right
		default:
			continue
		}
		g.reason, g.end = k.reason(g), k.end(g)
		k.granted = append(k.granted, g)
	}
}

// grantsUpTo yields all grants up to a day, in order.
func (k *record) grantsUpTo(day int) iter.Seq[grant] {
	return func(yield func(g grant) bool) {
		for _, g := range k.granted {
			if g.Day <= day && !yield(g) {
				return
			}
		}
	}
}

// reason returns the reason of a grant of which all earlier ones are judged:
// that of the first condition that is not met.
func (k *record) reason(g grant) int {
	conditions := [...]func(g grant) bool{k.isNotBanned, k.isInForce, k.isOldEnough, k.hasNeeded}
	for at, isMet := range conditions {
		if !isMet(g) {
			return api.RgThen + at
		}
	}
	return api.RgMay
}

// isNotBanned reports whether the person is not banned on the day of a grant.
func (k *record) isNotBanned(g grant) bool { return !k.isBanned(g.Day) }

// isInForce reports whether a grant needs no treaty, or one that is in force.
func (k *record) isInForce(g grant) bool {
	return g.Kind != api.RgExchange || has(k.Treaties[g.Treaty].Days, g.Day)
}

// isOldEnough reports whether the person has the age of the class of a grant.
func (k *record) isOldEnough(g grant) bool {
	age, _ := class.Age(k.Born, g.Day)
	return age >= k.classOf(g).Age
}

// hasNeeded reports whether the class of a grant needs no other one, or one that
// a grant of an earlier day covers.
func (k *record) hasNeeded(g grant) bool {
	needed := k.classOf(g).Needs
	if needed < 0 {
		return true
	}
	for earlier := range k.grantsUpTo(g.Day - 1) {
		covered, _ := class.Covers(k.System, earlier.right.Class)
		if earlier.why(g.Day) == api.RgMay && slices.Contains(covered, needed) {
			return true
		}
	}
	return false
}

// end returns the end of a grant, if all its conditions are met.
func (k *record) end(g grant) int {
	end := k.endOfTerm(g, g.Day)
	for _, event := range k.Events {
		renews := event.Kind == api.RgRenew && event.Class == g.right.Class && g.Day <= event.Day && event.Day < end
		if renews && !k.isBanned(event.Day) {
			end = k.endOfTerm(g, event.Day)
		}
	}
	return end
}

// endOfTerm returns the end of a term of the class of a grant that begins on a
// day.
func (k *record) endOfTerm(g grant, day int) int {
	term := k.classOf(g).Term
	end, e := class.Plus(day, term, 0)
	if term == 0 || e != api.OK {
		return never
	}
	return end
}

// classOf returns the class of a grant.
func (k *record) classOf(g grant) api.ClClass { return k.System.Classes[g.right.Class] }
