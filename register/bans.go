package register

import (
	"maps"
	"slices"

	"bitepoint/api"
	"bitepoint/check"
)

// findBans goes through all offences, and finds the bans by courts and by points.
func (k *record) findBans() {
	for _, event := range k.Events {
		switch event.Kind {
		case api.RgOffence:
			k.offences[event.Day] += event.Points
		case api.RgBan:
			k.byCourts = append(k.byCourts, api.Span{Lo: event.Day, Hi: event.Until})
		}
	}
	for _, day := range slices.Sorted(maps.Keys(k.offences)) {
		if k.points(day).Counts >= k.Limit {
			k.take(day)
		}
	}
}

// take takes all points that count on a day, and bans the person for them.
func (k *record) take(day int) {
	for offence := range k.offences {
		if k.counts(offence, day) {
			k.taken[offence] = day
		}
	}
	if day < api.MaxDay {
		k.byPoints = append(k.byPoints, api.Span{Lo: day + 1, Hi: min(day+k.Ban, api.MaxDay)})
	}
}

// counts reports whether the points of a day with offences count on a day.
func (k *record) counts(offence, day int) bool {
	return offence <= day && day-offence < k.Fall && !k.isTaken(offence, day)
}

// isTaken reports whether the points of a day with offences were taken on a
// day, or before it.
func (k *record) isTaken(offence, day int) bool {
	on, is := k.taken[offence]
	return is && on <= day
}

// points returns how the points of all offences up to a day stand on it.
func (k *record) points(day int) api.RgPoints {
	var p api.RgPoints
	for offence, points := range k.offences {
		switch {
		case k.counts(offence, day):
			p.Counts += points
		case k.isTaken(offence, day):
			p.Taken += points
		case offence <= day:
			p.Fallen += points
		}
	}
	return p
}

// bans returns all days of bans as spans, ascending, none of which touches
// another one.
func (k *record) bans() []api.Span {
	all := slices.Concat(k.byCourts, k.byPoints)
	slices.SortFunc(all, by(func(s api.Span) int { return s.Lo }))
	var apart []api.Span
	for _, span := range all {
		last := len(apart) - 1
		if last >= 0 && span.Lo <= apart[last].Hi+1 {
			apart[last].Hi = max(apart[last].Hi, span.Hi)
		} else {
			apart = append(apart, span)
		}
	}
	return apart
}

// isBanned reports whether the person is banned on a day.
func (k *record) isBanned(day int) bool {
	return anyHas(k.byCourts, day) || anyHas(k.byPoints, day)
}

// has reports whether a span has a day.
func has(span api.Span, day int) bool { return check.Within(span.Lo, span.Hi, day) }

// anyHas reports whether one of some spans has a day.
func anyHas(spans []api.Span, day int) bool {
	return slices.ContainsFunc(spans, func(span api.Span) bool { return has(span, day) })
}
