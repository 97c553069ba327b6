package register_test

import (
	"math/rand"
	"reflect"
	"slices"
	"testing"

	"bitepoint/api"
	"bitepoint/class"
	"bitepoint/register"
)

// must is a result without an error.
func must[T any](t *testing.T, value T, e api.Errno) T {
	t.Helper()
	if e != api.OK {
		t.Fatalf("%v with the error %d", value, e)
	}
	return value
}

// licence is all that is asked about a person on a day.
type licence struct {
	bans   []api.Span
	points api.RgPoints
	held   []api.ClRight
	why    []int // of each vehicle
	text   string
}

// vehicles are all vehicles of a system, as they are driven on a day.
func vehicles(s api.ClSystem, day int) []api.RgDrive {
	var all []api.RgDrive
	for class := range s.Classes {
		for features := range 1 << len(s.Codes) {
			all = append(all, drive(day, class, features))
		}
	}
	return all
}

// whyNot are why the vehicles may not be driven on a day.
func whyNot(t *testing.T, r api.RgRules, p api.RgPerson, day int) []int {
	t.Helper()
	var all []int
	for _, d := range vehicles(r.System, day) {
		why, e := register.Why(r, p, d)
		all = append(all, must(t, why, e))
	}
	return all
}

// held are the rights that Held returns.
func held(t *testing.T, r api.RgRules, p api.RgPerson, day int) []api.ClRight {
	t.Helper()
	rights, e := register.Held(r, p, day)
	return must(t, rights, e)
}

// points is what Points returns.
func points(t *testing.T, r api.RgRules, p api.RgPerson, day int) api.RgPoints {
	t.Helper()
	n, e := register.Points(r, p, day)
	return must(t, n, e)
}

// text is what Write returns.
func text(t *testing.T, r api.RgRules, p api.RgPerson) string {
	t.Helper()
	one, e := register.Write(r, p)
	return must(t, one, e)
}

// bans are what Bans returns.
func bans(t *testing.T, r api.RgRules, p api.RgPerson) []api.Span {
	t.Helper()
	all, e := register.Bans(r, p)
	return must(t, all, e)
}

// licenceOf is all that is asked about a person on a day.
func licenceOf(t *testing.T, r api.RgRules, p api.RgPerson, day int) licence {
	t.Helper()
	return licence{bans(t, r, p), points(t, r, p, day), held(t, r, p, day), whyNot(t, r, p, day), text(t, r, p)}
}

// told is a person whose events are told in another order, and some of them
// twice.
func told(r *rand.Rand, p api.RgPerson) api.RgPerson {
	events := slices.Clone(p.Events)
	for len(events) < 30 && len(events) > 0 && r.Intn(4) > 0 {
		events = append(events, events[r.Intn(len(events))])
	}
	r.Shuffle(len(events), func(a, b int) { events[a], events[b] = events[b], events[a] })
	return person(p.Born, events...)
}

// TestAnyOrder checks P11.8: what is told in another order, or twice, is the
// same.
func TestAnyOrder(t *testing.T) {
	r := rand.New(rand.NewSource(118))
	changed := 0
	for range 1500 {
		rules := randomRules(r)
		p := randomPerson(r, rules, 20)
		other, day := told(r, p), randomDay(r, rules, p)
		if a, b := licenceOf(t, rules, p, day), licenceOf(t, rules, other, day); !reflect.DeepEqual(a, b) {
			t.Fatalf("%v: on %d %v for %v, but %v for %v", rules, day, a, p, b, other)
		}
		if !slices.Equal(p.Events, other.Events) {
			changed++
		}
	}
	if changed < 1000 {
		t.Errorf("only %d persons were told in another way", changed)
	}
}

// sameEvents reports whether two persons are the same but for the order of
// events, and for events that are told twice.
func sameEvents(a, b api.RgPerson) bool {
	notIn := func(all []api.RgEvent) func(event api.RgEvent) bool {
		return func(event api.RgEvent) bool { return !slices.Contains(all, event) }
	}
	return a.Born == b.Born && !slices.ContainsFunc(a.Events, notIn(b.Events)) && !slices.ContainsFunc(b.Events, notIn(a.Events))
}

// altered is a person with another day of birth, or an event more, less, or
// with another number; or just told in another way.
func altered(r *rand.Rand, rules api.RgRules, p api.RgPerson) api.RgPerson {
	p = told(r, p)
	at := r.Intn(len(p.Events) + 1)
	switch kind := r.Intn(5); {
	case kind == 0:
		p.Born = max(0, p.Born-r.Intn(3))
	case kind == 1 && len(p.Events) < 30:
		p.Events = append(p.Events, randomEvent(r, rules, p.Born+r.Intn(40001-p.Born)))
	case kind == 2 && at < len(p.Events):
		p.Events = slices.Delete(p.Events, at, at+1)
	case kind == 3 && at < len(p.Events):
		event := &p.Events[at]
		*[]*int{&event.Day, &event.Right.Class, &event.Right.Codes, &event.Treaty, &event.Class, &event.Points, &event.Until, &event.Minute}[r.Intn(8)] += r.Intn(3) - 1
	}
	return p
}

// TestRegistersTellPersonsApart checks P11.8: two persons have the same register
// just if they are the same but for the order of events, and for events that
// are told twice.
func TestRegistersTellPersonsApart(t *testing.T) {
	r := rand.New(rand.NewSource(1108))
	many := map[bool]int{}
	for range 10000 {
		rules := randomRules(r)
		p := randomPerson(r, rules, 12)
		other := altered(r, rules, p)
		theirs, e := register.Write(rules, other)
		if e != api.OK {
			continue
		}
		are := sameEvents(p, other)
		if one := text(t, rules, p); (one == theirs) != are {
			t.Fatalf("%v: %v and %v have the registers %q and %q", rules, p, other, one, theirs)
		}
		many[are]++
	}
	enoughOf(t, many, 1500, true, false)
}

// inSpans reports whether a day is in a span.
func inSpans(spans []api.Span, day int) bool {
	return slices.ContainsFunc(spans, func(s api.Span) bool { return s.Lo <= day && day <= s.Hi })
}

// TestWhyAndHeld checks P11.9: Why, Held, Bans and Wrong say the same.
func TestWhyAndHeld(t *testing.T) {
	r := rand.New(rand.NewSource(119))
	many := map[int]int{}
	for range 2000 {
		rules := randomRules(r)
		p := randomPerson(r, rules, 30)
		day := randomDay(r, rules, p)
		rights, banned := held(t, rules, p, day), inSpans(bans(t, rules, p), day)
		why := whyNot(t, rules, p, day)
		for at, d := range vehicles(rules.System, day) {
			may, e := class.May(rules.System, rights, d.Class, d.Features)
			if must(t, may, e) != (why[at] == api.RgMay) {
				t.Fatalf("%v: Why of %v and %v = %d, but %v is held", rules, p, d, why[at], rights)
			}
			isBan := why[at] == api.RgCourt || why[at] == api.RgTaken
			if isBan != banned || isBan && len(rights) > 0 {
				t.Fatalf("%v: Why of %v and %v = %d, but %v is held, and banned is %t", rules, p, d, why[at], rights, banned)
			}
			many[why[at]]++
		}
		drives := vehicles(rules.System, day)
		drives = drives[:min(30, len(drives))]
		var want []api.RgWrong
		for at := range drives {
			if why[at] != api.RgMay {
				want = append(want, api.RgWrong{Drive: at, Why: why[at]})
			}
		}
		wrong, e := register.Wrong(rules, p, drives)
		if !slices.Equal(must(t, wrong, e), want) {
			t.Fatalf("%v: Wrong of %v and %v = %v, not %v", rules, p, drives, wrong, want)
		}
	}
	enoughOf(t, many, 100, 0, 1, 2, 3, 4, 5, 6, 7, 8)
}

// upTo is a person without the events after a day.
func upTo(p api.RgPerson, day int) api.RgPerson {
	return person(p.Born, slices.DeleteFunc(slices.Clone(p.Events), func(event api.RgEvent) bool { return event.Day > day })...)
}

// TestWhatComesLater checks P11.10.
func TestWhatComesLater(t *testing.T) {
	r := rand.New(rand.NewSource(1110))
	later := 0
	for range 3000 {
		rules := randomRules(r)
		p := randomPerson(r, rules, 30)
		day := randomDay(r, rules, p)
		before := upTo(p, day)
		a, b := licenceOf(t, rules, p, day), licenceOf(t, rules, before, day)
		if !slices.Equal(a.held, b.held) || !slices.Equal(a.why, b.why) || a.points != b.points {
			t.Fatalf("%v: on %d %v for %v, but %v without later events", rules, day, a, p, b)
		}
		if len(before.Events) < len(p.Events) && len(a.held) > 0 {
			later++
		}
	}
	if later < 300 {
		t.Errorf("only %d persons hold rights ahead of an event", later)
	}
}

// more is a person with a further event of a kind that is wanted, on any day.
func more(r *rand.Rand, rules api.RgRules, p api.RgPerson, wanted func(event api.RgEvent) bool) api.RgPerson {
	for {
		event := randomEvent(r, rules, randomDay(r, rules, p))
		if wanted(event) {
			return person(p.Born, append(slices.Clone(p.Events), event)...)
		}
	}
}

// allows reports whether rights allow all that other ones allow.
func allows(t *testing.T, r api.RgRules, a, b []api.ClRight) bool {
	t.Helper()
	is, e := class.Allows(r.System, a, b)
	return must(t, is, e)
}

// TestMore checks P11.11.
func TestMore(t *testing.T) {
	r := rand.New(rand.NewSource(1111))
	gained, lost := 0, 0
	for range 5000 {
		rules := randomRules(r)
		p := randomPerson(r, rules, 29)
		granted := more(r, rules, p, func(event api.RgEvent) bool { return event.Kind == api.RgPass || event.Kind == api.RgExchange })
		banned := more(r, rules, p, func(event api.RgEvent) bool { return event.Kind == api.RgBan })
		for range 3 {
			day := randomDay(r, rules, granted)
			is, now := held(t, rules, p, day), held(t, rules, granted, day)
			if !allows(t, rules, now, is) {
				t.Fatalf("%v: on %d %v holds %v, but %v holds %v", rules, day, p, is, granted, now)
			}
			if !allows(t, rules, is, now) {
				gained++
			}
			day = randomDay(r, rules, banned)
			is, now = held(t, rules, p, day), held(t, rules, banned, day)
			if !allows(t, rules, is, now) {
				t.Fatalf("%v: on %d %v holds %v, but %v holds %v", rules, day, p, is, banned, now)
			}
			if !allows(t, rules, now, is) {
				lost++
			}
		}
	}
	if gained < 300 || lost < 300 {
		t.Errorf("only %d rights were gained, and %d lost", gained, lost)
	}
}

// TestExchanged checks P11.12: a pass instead of an exchange on a day on which
// the treaty is in force, and nothing instead of another one, is the same.
func TestExchanged(t *testing.T) {
	r := rand.New(rand.NewSource(1112))
	many, without := map[bool]int{}, 0
	for range 2000 {
		rules := randomRules(r)
		p := randomPerson(r, rules, 30)
		at := slices.IndexFunc(p.Events, func(event api.RgEvent) bool { return event.Kind == api.RgExchange })
		if at < 0 {
			continue
		}
		event := p.Events[at]
		with := rules.Treaties[event.Treaty]
		inForce := with.Days.Lo <= event.Day && event.Day <= with.Days.Hi
		others := slices.DeleteFunc(slices.Clone(p.Events), func(other api.RgEvent) bool { return other == event })
		if inForce {
			others = append(others, pass(event.Day, with.Right.Class, with.Right.Codes, r.Intn(1440)))
		}
		other := person(p.Born, others...)
		for range 5 {
			day := randomDay(r, rules, p)
			if a, b := held(t, rules, p, day), held(t, rules, other, day); !slices.Equal(a, b) {
				t.Fatalf("%v: on %d %v is held by %v, but %v by %v", rules, day, a, p, b, other)
			}
			if a, b := whyNot(t, rules, p, day), whyNot(t, rules, other, day); inForce && !slices.Equal(a, b) {
				t.Fatalf("%v: on %d %v for %v, but %v for %v", rules, day, a, p, b, other)
			}
			if inForce && !slices.Equal(held(t, rules, p, day), held(t, rules, person(p.Born, others[:len(others)-1]...), day)) {
				without++
			}
		}
		many[inForce]++
	}
	enoughOf(t, many, 200, true, false)
	if without < 100 {
		t.Errorf("only %d times an exchange gave a right", without)
	}
}

// TestAllPoints checks P11.13.
func TestAllPoints(t *testing.T) {
	r := rand.New(rand.NewSource(1113))
	many := map[string]int{}
	for range 4000 {
		rules := randomRules(r)
		p := randomPerson(r, rules, 30)
		for range 4 {
			day := randomDay(r, rules, p)
			sum, seen := 0, map[api.RgEvent]bool{}
			for _, event := range p.Events {
				if event.Kind == api.RgOffence && event.Day <= day && !seen[event] {
					sum += event.Points
				}
				seen[event] = true
			}
			n := points(t, rules, p, day)
			if n.Counts+n.Fallen+n.Taken != sum || n.Counts >= rules.Limit || min(n.Counts, n.Fallen, n.Taken) < 0 {
				t.Fatalf("%v: Points of %v on %d = %v, of %d", rules, p, day, n, sum)
			}
			for kind, points := range map[string]int{"counts": n.Counts, "fallen": n.Fallen, "taken": n.Taken} {
				many[kind] += min(1, points)
			}
		}
	}
	enoughOf(t, many, 2000, "counts", "fallen", "taken")
}

// TestGrants checks P11.14.
func TestGrants(t *testing.T) {
	r := rand.New(rand.NewSource(1114))
	some, banned := 0, 0
	for range 4000 {
		rules := randomRules(r)
		p := randomPerson(r, rules, 30)
		day := randomDay(r, rules, p)
		rights := held(t, rules, p, day)
		for _, one := range rights {
			granted := slices.ContainsFunc(p.Events, func(event api.RgEvent) bool {
				passed := event.Kind == api.RgPass && event.Right == one
				exchanged := event.Kind == api.RgExchange && rules.Treaties[event.Treaty].Right == one
				return event.Day <= day && (passed || exchanged)
			})
			age, e := class.Age(p.Born, day)
			if !granted || must(t, age, e) < rules.System.Classes[one.Class].Age {
				t.Fatalf("%v: on %d %v holds %v", rules, day, p, rights)
			}
			some++
		}
		if inSpans(bans(t, rules, p), day) {
			if len(rights) > 0 {
				t.Fatalf("%v: on %d %v is banned, and holds %v", rules, day, p, rights)
			}
			banned++
		}
		nothing := slices.DeleteFunc(slices.Clone(p.Events), func(event api.RgEvent) bool { return event.Kind < api.RgRenew })
		if rights := held(t, rules, person(p.Born, nothing...), day); len(rights) > 0 {
			t.Fatalf("%v: on %d %v holds %v", rules, day, nothing, rights)
		}
	}
	if some < 1000 || banned < 300 {
		t.Errorf("only %d rights were held, only %d persons were banned", some, banned)
	}
}

// TestTexts checks P11.15.
func TestTexts(t *testing.T) {
	r := rand.New(rand.NewSource(1115))
	again, none := 0, 0
	for range 5000 {
		rules := randomRules(r)
		p := randomPerson(r, rules, 30)
		one := text(t, rules, p)
		ordered, e := register.Sorted(rules, p)
		if is, f := register.Read(rules, one); !same(is, ordered) || e != api.OK || f != api.OK {
			t.Fatalf("%v: Read of %q = %v, %d, not %v", rules, one, is, f, ordered)
		}
		for range 4 {
			other := mutated(r, one)
			switch is, e := register.Read(rules, other); e {
			case api.OK:
				if same := text(t, rules, is); same != other {
					t.Fatalf("%v: Read of %q = %v, but Write of it = %q", rules, other, is, same)
				}
				again++
			case api.ErrForm:
				none++
			default:
				t.Fatalf("%v: Read of %q = %v, %d", rules, other, is, e)
			}
		}
	}
	if again < 300 || none < 5000 {
		t.Errorf("%d texts were read, %d were not", again, none)
	}
}
