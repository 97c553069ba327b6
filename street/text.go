package street

import (
	"slices"
	"strconv"
	"strings"

	"bitepoint/api"
	"bitepoint/check"
)

// The signs that the text of a tour has ahead of each step, and behind the
// number of its street.
const (
	thereSign = "-"
	backSign  = "="
	placeSign = "."
)

// Write returns the text of a tour.
func Write(t api.StTown, from int, steps []api.StStep) (string, api.Errno) {
	v, e := open(t)
	if e != api.OK {
		return "", e
	}
	if !v.arePlaces(from) {
		return "", api.ErrNone
	}
	if e := v.stepsError(from, steps); e != api.OK {
		return "", e
	}
	return v.text(from, steps), api.OK
}

// Read returns where the tour of a text begins, and its steps.
func Read(t api.StTown, text string) (from int, steps []api.StStep, e api.Errno) {
	v, e := open(t)
	if e != api.OK {
		return 0, nil, e
	}
	if len(text) > api.MaxStText {
		return 0, nil, api.ErrLong
	}
	defer func() {
		if recover() != nil {
			from, steps, e = 0, nil, api.ErrForm
		}
	}()
	from, steps = v.read(text)
	return from, steps, api.OK
}

// text returns the text of a tour.
func (v view) text(from int, steps []api.StStep) string {
	var text strings.Builder
	text.WriteString(v.Places[from])
	for _, step := range steps {
		sign := thereSign
		if step.Back {
			sign = backSign
		}
		_, to := v.ends(step)
		text.WriteString(sign + strconv.Itoa(step.Street) + placeSign + v.Places[to])
	}
	return text.String()
}

// read reads the text of a tour. It panics if the text is none.
func (v view) read(text string) (int, []api.StStep) {
	rest := text
	take := func(signs string) string {
		part := rest
		if end := strings.IndexAny(rest, signs); end >= 0 {
			part = rest[:end]
		}
		rest = rest[len(part):]
		return part
	}
	from := slices.Index(v.Places, take(thereSign+backSign))
	check.Demand(from >= 0)
	var steps []api.StStep
	for rest != "" {
		back := strings.HasPrefix(rest, backSign)
		rest = rest[1:]
		steps = append(steps, api.StStep{Street: check.Number(take(placeSign)), Back: back})
		take(thereSign + backSign)
	}
	// What the tour of these steps would be written as is compared as a whole:
	// so the places on the way need no look.
	check.Demand(v.stepsError(from, steps) == api.OK && v.text(from, steps) == text)
	return from, steps
}
