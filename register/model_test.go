package register_test

import (
	"math/rand"
	"slices"
	"strconv"
	"testing"

	"bitepoint/api"
	"bitepoint/class"
	"bitepoint/register"
)

// randomRules are valid rules, with classes that include and need each other.
func randomRules(r *rand.Rand) api.RgRules {
	var rules api.RgRules
	many := 1 + r.Intn(5)
	if r.Intn(20) == 0 {
		many = 12
	}
	for n := range many {
		c := api.ClClass{Name: "c" + strconv.Itoa(n), Needs: -1}
		if n > 0 && r.Intn(2) == 0 {
			c.Includes = append(c.Includes, r.Intn(n))
		}
		if other := r.Intn(many); other != n && r.Intn(2) == 0 {
			c.Needs = other
		}
		if r.Intn(2) == 0 {
			c.Age = r.Intn(20)
		}
		if r.Intn(3) > 0 {
			c.Term = r.Intn(8)
		}
		rules.System.Classes = append(rules.System.Classes, c)
	}
	for n := range r.Intn(3) {
		rules.System.Codes = append(rules.System.Codes, "k"+strconv.Itoa(n))
	}
	for n := range r.Intn(4) {
		lo := r.Intn(9000)
		rules.Treaties = append(rules.Treaties, api.RgTreaty{Name: "t" + strconv.Itoa(n), Right: randomRight(r, rules.System), Days: api.Span{Lo: lo, Hi: lo + r.Intn(9000)}})
	}
	rules.Limit, rules.Fall, rules.Ban = 1+r.Intn(25), 1+r.Intn(2000), 1+r.Intn(400)
	return rules
}

// randomRight is a right, mostly without codes.
func randomRight(r *rand.Rand, s api.ClSystem) api.ClRight {
	return right(r.Intn(len(s.Classes)), r.Intn(2)*r.Intn(1<<len(s.Codes)))
}

// randomPerson is a person of some rules with at most so many events, on days
// that are near each other or not, mostly grants.
func randomPerson(r *rand.Rand, rules api.RgRules, events int) api.RgPerson {
	p := person(r.Intn(4000))
	first := p.Born + r.Intn(6000)
	within := []int{3, 300, 3000, 9000}[r.Intn(4)]
	if r.Intn(10) == 0 {
		first, within = 39000, 1001
	}
	if r.Intn(10) == 0 {
		p.Born = first
	}
	for range r.Intn(events + 1) {
		p.Events = append(p.Events, randomEvent(r, rules, first+r.Intn(within)))
	}
	return p
}

// randomEvent is an event on a day.
func randomEvent(r *rand.Rand, rules api.RgRules, day int) api.RgEvent {
	switch kind := r.Intn(12); {
	case kind < 2 && len(rules.Treaties) > 0:
		return exchange(day, r.Intn(len(rules.Treaties)))
	case kind < 4:
		return renew(day, r.Intn(len(rules.System.Classes)))
	case kind < 7:
		return offence(day, 1+r.Intn(20))
	case kind < 8:
		return court(day, day+r.Intn(min(200, 40001-day)))
	default:
		one := randomRight(r, rules.System)
		return pass(day, one.Class, one.Codes, r.Intn(24)*60)
	}
}

// randomDay is a day on which a person is looked at: mostly near an event, or
// near the end of a term or of a ban.
func randomDay(r *rand.Rand, rules api.RgRules, p api.RgPerson) int {
	day := p.Born + r.Intn(40001-p.Born)
	if len(p.Events) > 0 && r.Intn(10) > 0 {
		event := p.Events[r.Intn(len(p.Events))]
		day = event.Day + r.Intn(3) - 1
		switch r.Intn(6) {
		case 0:
			day += rules.Ban
		case 1:
			day += rules.Fall
		case 2:
			years := rules.System.Classes[r.Intn(len(rules.System.Classes))].Term
			if end, e := class.Plus(event.Day, years, 0); e == api.OK {
				day = end - r.Intn(2)
			}
		case 3:
			day += r.Intn(500)
		}
	}
	return min(max(day, p.Born), 40000)
}

// model is a person of some rules, by the words of the document: nothing is
// known but what the events say.
type model struct {
	rules  api.RgRules
	born   int
	events []api.RgEvent // each once, in any order
	met    map[api.RgEvent]int
}

// newModel is the model of a person.
func newModel(rules api.RgRules, p api.RgPerson) *model {
	m := &model{rules: rules, born: p.Born, met: map[api.RgEvent]int{}}
	for _, event := range p.Events {
		if !slices.Contains(m.events, event) {
			m.events = append(m.events, event)
		}
	}
	return m
}

// daysOf are the days of all events of a kind, ascending.
func (m *model) daysOf(kind int) []int {
	var days []int
	for _, event := range m.events {
		if event.Kind == kind {
			days = append(days, event.Day)
		}
	}
	slices.Sort(days)
	return days
}

// takings are the days on which points are taken, ascending, each with the
// offences whose points these are.
func (m *model) takings() (days []int, of [][]api.RgEvent) {
	done := map[api.RgEvent]bool{}
	for _, day := range m.daysOf(api.RgOffence) {
		var counting []api.RgEvent
		sum := 0
		for _, event := range m.events {
			if event.Kind == api.RgOffence && event.Day <= day && !done[event] && day-event.Day < m.rules.Fall {
				counting = append(counting, event)
				sum += event.Points
			}
		}
		if sum < m.rules.Limit {
			continue
		}
		for _, event := range counting {
			done[event] = true
		}
		days, of = append(days, day), append(of, counting)
	}
	return days, of
}

// byPoints are the days on which there is a ban by points.
func (m *model) byPoints() map[int]bool {
	banned := map[int]bool{}
	days, _ := m.takings()
	for _, day := range days {
		for n := 1; n <= m.rules.Ban && day+n <= 40000; n++ {
			banned[day+n] = true
		}
	}
	return banned
}

// byCourts are the days on which there is a court's ban.
func (m *model) byCourts() map[int]bool {
	banned := map[int]bool{}
	for _, event := range m.events {
		for day := event.Day; event.Kind == api.RgBan && day <= event.Until; day++ {
			banned[day] = true
		}
	}
	return banned
}

// bans are the spans of days on which there is a ban.
func (m *model) bans() []api.Span {
	var all []api.Span
	points, courts := m.byPoints(), m.byCourts()
	before := false
	for day := range 40001 {
		now := points[day] || courts[day]
		if now && !before {
			all = append(all, api.Span{Lo: day})
		}
		if now {
			all[len(all)-1].Hi = day
		}
		before = now
	}
	return all
}

// points is how the points stand on a day.
func (m *model) points(day int) api.RgPoints {
	var p api.RgPoints
	days, of := m.takings()
	for _, event := range m.events {
		if event.Kind != api.RgOffence || event.Day > day {
			continue
		}
		taken := false
		for n := range days {
			taken = taken || days[n] <= day && slices.Contains(of[n], event)
		}
		switch {
		case taken:
			p.Taken += event.Points
		case day-event.Day < m.rules.Fall:
			p.Counts += event.Points
		default:
			p.Fallen += event.Points
		}
	}
	return p
}

// facts are a model and its bans, which are looked for once.
type facts struct {
	*model
	points, courts map[int]bool
}

// newFacts are the facts of a person.
func newFacts(rules api.RgRules, p api.RgPerson) facts {
	m := newModel(rules, p)
	return facts{m, m.byPoints(), m.byCourts()}
}

// banned reports whether there is a ban on a day.
func (f facts) banned(day int) bool { return f.points[day] || f.courts[day] }

// right is the right of an event, and whether it is a grant.
func (f facts) right(event api.RgEvent) (api.ClRight, bool) {
	switch event.Kind {
	case api.RgPass:
		return event.Right, true
	case api.RgExchange:
		return f.rules.Treaties[event.Treaty].Right, true
	}
	return api.ClRight{}, false
}

// reason is the reason of a grant, or 0 if all conditions are met.
func (f facts) reason(event api.RgEvent) int {
	if _, known := f.met[event]; !known {
		f.met[event] = f.look(event)
	}
	return f.met[event]
}

// look looks at the conditions of a grant.
func (f facts) look(event api.RgEvent) int {
	right, _ := f.right(event)
	c := f.rules.System.Classes[right.Class]
	if f.banned(event.Day) {
		return 4
	}
	if event.Kind == api.RgExchange {
		if days := f.rules.Treaties[event.Treaty].Days; event.Day < days.Lo || event.Day > days.Hi {
			return 5
		}
	}
	if age, _ := class.Age(f.born, event.Day); age < c.Age {
		return 6
	}
	if c.Needs == -1 {
		return 0
	}
	for _, other := range f.events {
		with, grants := f.right(other)
		if !grants || other.Day >= event.Day || f.reason(other) != 0 || f.ended(other, event.Day) {
			continue
		}
		if covered, _ := class.Covers(f.rules.System, with.Class); slices.Contains(covered, c.Needs) {
			return 0
		}
	}
	return 7
}

// ended reports whether a grant has ended on a day.
func (f facts) ended(event api.RgEvent, day int) bool {
	right, _ := f.right(event)
	term := f.rules.System.Classes[right.Class].Term
	if term == 0 {
		return false
	}
	end, e := class.Plus(event.Day, term, 0)
	for _, at := range f.daysOf(api.RgRenew) {
		renewed := at >= event.Day && slices.Contains(f.events, renew(at, right.Class)) && !f.banned(at)
		if renewed && (e != api.OK || at < end) {
			end, e = class.Plus(at, term, 0)
		}
	}
	return e == api.OK && day >= end
}

// held are the rights that are held on a day.
func (f facts) held(day int) []api.ClRight {
	var all []api.ClRight
	for _, event := range f.events {
		right, grants := f.right(event)
		if grants && event.Day <= day && !f.banned(day) && f.reason(event) == 0 && !f.ended(event, day) {
			all = append(all, right)
		}
	}
	least, _ := class.Least(f.rules.System, all)
	return least
}

// why is why a drive is not allowed.
func (f facts) why(d api.RgDrive) int {
	if f.courts[d.Day] {
		return 1
	}
	if f.points[d.Day] {
		return 2
	}
	why := 3
	for _, event := range f.events {
		right, grants := f.right(event)
		if !grants || event.Day > d.Day {
			continue
		}
		if may, _ := class.May(f.rules.System, []api.ClRight{right}, d.Class, d.Features); !may {
			continue
		}
		switch reason := f.reason(event); {
		case reason != 0:
			why = max(why, reason)
		case f.ended(event, d.Day):
			why = max(why, 8)
		default:
			return 0
		}
	}
	return why
}

// enoughOf fails if some kind of cases came too seldom.
func enoughOf[K comparable](t *testing.T, many map[K]int, least int, kinds ...K) {
	t.Helper()
	for _, kind := range kinds {
		if many[kind] < least {
			t.Errorf("only %d cases of the kind %v", many[kind], kind)
		}
	}
}

// randomDrive is a drive of a person.
func randomDrive(r *rand.Rand, rules api.RgRules, p api.RgPerson) api.RgDrive {
	one := randomRight(r, rules.System)
	return drive(randomDay(r, rules, p), one.Class, one.Codes)
}

// TestLicencesAgainstTheModel checks P11.4 and P11.5 against the words of the
// document.
func TestLicencesAgainstTheModel(t *testing.T) {
	r := rand.New(rand.NewSource(114))
	why, many := map[int]int{}, map[int]int{}
	for range 1200 {
		rules := randomRules(r)
		p := randomPerson(r, rules, 30)
		f := newFacts(rules, p)
		var drives []api.RgDrive
		var wrongs []api.RgWrong
		for at := range 12 {
			day := randomDay(r, rules, p)
			want := f.held(day)
			if held, e := register.Held(rules, p, day); !slices.Equal(held, want) || e != api.OK {
				t.Fatalf("%v: Held of %v on %d = %v, %d, not %v", rules, p, day, held, e, want)
			}
			many[len(want)]++
			d := randomDrive(r, rules, p)
			reason := f.why(d)
			if is, e := register.Why(rules, p, d); is != reason || e != api.OK {
				t.Fatalf("%v: Why of %v and %v = %d, %d, not %d", rules, p, d, is, e, reason)
			}
			why[reason]++
			drives = append(drives, d)
			if reason != 0 {
				wrongs = append(wrongs, api.RgWrong{Drive: at, Why: reason})
			}
		}
		if wrong, e := register.Wrong(rules, p, drives); !slices.Equal(wrong, wrongs) || e != api.OK {
			t.Fatalf("%v: Wrong of %v and %v = %v, %d, not %v", rules, p, drives, wrong, e, wrongs)
		}
	}
	enoughOf(t, why, 80, 0, 1, 2, 3, 4, 5, 6, 7, 8)
	enoughOf(t, many, 50, 0, 1, 2, 3)
}

// TestBansAgainstTheModel checks P11.3 against the words of the document.
func TestBansAgainstTheModel(t *testing.T) {
	r := rand.New(rand.NewSource(113))
	bans, many := map[int]int{}, map[string]int{}
	for range 1200 {
		rules := randomRules(r)
		p := randomPerson(r, rules, 30)
		m := newModel(rules, p)
		want := m.bans()
		if is, e := register.Bans(rules, p); !slices.Equal(is, want) || e != api.OK {
			t.Fatalf("%v: Bans of %v = %v, %d, not %v", rules, p, is, e, want)
		}
		bans[len(want)]++
		for range 3 {
			day := randomDay(r, rules, p)
			want := m.points(day)
			if is, e := register.Points(rules, p, day); is != want || e != api.OK {
				t.Fatalf("%v: Points of %v on %d = %v, %d, not %v", rules, p, day, is, e, want)
			}
			for kind, points := range map[string]int{"counts": want.Counts, "fallen": want.Fallen, "taken": want.Taken} {
				many[kind] += min(1, points)
			}
		}
	}
	enoughOf(t, bans, 50, 0, 1, 2, 3, 4)
	enoughOf(t, many, 500, "counts", "fallen", "taken")
}

// TestPersonsAgainstTheModel checks P11.2 and P11.6 against the words of the
// document.
func TestPersonsAgainstTheModel(t *testing.T) {
	r := rand.New(rand.NewSource(112))
	less, many := 0, 0
	for range 3000 {
		rules := randomRules(r)
		p := randomPerson(r, rules, 30)
		for n := range p.Events {
			if p.Events[n].Kind == api.RgPass {
				p.Events[n].Minute = r.Intn(1440) / (1 + r.Intn(40))
			}
		}
		ordered, e := register.Sorted(rules, p)
		for at, event := range ordered.Events {
			if at > 0 && !before(ordered.Events[at-1], event) || !slices.Contains(p.Events, event) {
				t.Fatalf("Sorted of %v = %v", p, ordered)
			}
		}
		if e != api.OK || ordered.Born != p.Born || len(ordered.Events) != len(newModel(rules, p).events) {
			t.Fatalf("Sorted of %v = %v, %d", p, ordered, e)
		}
		less += len(p.Events) - len(ordered.Events)
		var want []api.RgPair
		for x, first := range ordered.Events {
			for y, second := range ordered.Events {
				passes := first.Kind == api.RgPass && second.Kind == api.RgPass
				if x < y && passes && first.Day == second.Day && first.Minute < second.Minute+60 && second.Minute < first.Minute+60 {
					want = append(want, api.RgPair{A: x, B: y})
				}
			}
		}
		if found, e := register.Impostors(rules, p); !slices.Equal(found, want) || e != api.OK {
			t.Fatalf("Impostors of %v = %v, %d, not %v", p, found, e, want)
		}
		many += min(1, len(want))
	}
	if less < 500 || many < 300 {
		t.Errorf("only %d events were twice, only %d persons have impostors", less, many)
	}
}

// before reports whether an event is before another one, by the words of the
// document.
func before(a, b api.RgEvent) bool {
	numbers := func(e api.RgEvent) []int {
		return []int{e.Day, e.Kind, e.Right.Class, e.Right.Codes, e.Treaty, e.Class, e.Points, e.Until, e.Minute}
	}
	return slices.Compare(numbers(a), numbers(b)) < 0
}
