package lesson_test

import (
	"math"
	"math/rand"
	"slices"
	"testing"

	"bitepoint/api"
	"bitepoint/class"
	"bitepoint/lesson"
)

// The classes and the features of the example.
const (
	am, b, be     = 0, 1, 2
	manual, night = 1, 2
)

// system has three classes, each of which includes the one before, and two
// codes.
func system() api.ClSystem {
	return api.ClSystem{
		Classes: []api.ClClass{{Name: "am", Needs: -1}, {Name: "b", Includes: of(am), Needs: -1}, {Name: "be", Includes: of(b), Needs: b}},
		Codes:   []string{"manual", "night"},
	}
}

// right is a right.
func right(class, codes int) api.ClRight { return api.ClRight{Class: class, Codes: codes} }

// teacher is a teacher who is there from a minute to another one.
func teacher(begin, end int, rights ...api.ClRight) api.LeTeacher {
	return api.LeTeacher{Rights: rights, Begin: begin, End: end}
}

// given is a lesson with somebody at the place 0.
func given(learner, teacher, car, begin, end int) api.LeLesson {
	return api.LeLesson{Learner: learner, Teacher: teacher, Car: car, Begin: begin, End: end}
}

// examplePlan is the plan of the document's examples: one teacher gives all
// lessons of D, to learners and in cars of their own.
func examplePlan() api.LePlan {
	p := api.LePlan{
		System:   system(),
		Learners: of(b, b, b, b),
		Teachers: []api.LeTeacher{teacher(0, 1440, right(b, 0))},
		Cars:     slices.Repeat([]api.LeCar{{Class: b}}, 4),
		Day:      example(),
	}
	for i := range p.Day.Lessons {
		p.Day.Lessons[i].Learner, p.Day.Lessons[i].Car = i, i
	}
	return p
}

// goodPlan is a plan that breaks no rule, with two of all, at one place.
func goodPlan() api.LePlan {
	return api.LePlan{
		System:   system(),
		Learners: of(b, am),
		Teachers: []api.LeTeacher{teacher(100, 500, right(b, night)), teacher(0, 1440, right(am, 0), right(be, manual))},
		Cars:     []api.LeCar{{Class: b, Features: manual}, {Class: am, Features: manual | night}},
		Day: api.LeDay{Minutes: [][]int{{0, 5}, {5, 0}}, Lessons: []api.LeLesson{
			given(0, 0, 0, 400, 500), given(1, 1, 1, 400, 460), given(0, 0, 0, 100, 150), given(1, 1, 1, 300, 400), given(0, 0, 0, 150, 155),
		}},
	}
}

// clonePlan is a copy of a plan, without shared memory.
func clonePlan(p api.LePlan) api.LePlan {
	p.System.Classes, p.System.Codes = slices.Clone(p.System.Classes), slices.Clone(p.System.Codes)
	for i := range p.System.Classes {
		p.System.Classes[i].Includes = slices.Clone(p.System.Classes[i].Includes)
	}
	p.Learners, p.Teachers, p.Cars, p.Day = slices.Clone(p.Learners), slices.Clone(p.Teachers), slices.Clone(p.Cars), cloneDay(p.Day)
	for i := range p.Teachers {
		p.Teachers[i].Rights = slices.Clone(p.Teachers[i].Rights)
	}
	return p
}

// whose is the learner (0), the teacher (1) and the car (2) of a lesson.
func whose(l api.LeLesson) [3]int { return [3]int{l.Learner, l.Teacher, l.Car} }

// brokenByTheDocument is the first rule that is broken, literally.
func brokenByTheDocument(t *testing.T, p api.LePlan) api.LeBroken {
	t.Helper()
	lessons := p.Day.Lessons
	for a, l := range lessons {
		if p.Cars[l.Car].Class != p.Learners[l.Learner] {
			return api.LeBroken{Rule: 1, A: a}
		}
	}
	for a, l := range lessons {
		may, e := class.May(p.System, p.Teachers[l.Teacher].Rights, p.Cars[l.Car].Class, p.Cars[l.Car].Features)
		if e != api.OK {
			t.Fatalf("May for %v, %d = %d", p, a, e)
		}
		if !may {
			return api.LeBroken{Rule: 2, A: a}
		}
	}
	for a, l := range lessons {
		if l.Begin < p.Teachers[l.Teacher].Begin || l.End > p.Teachers[l.Teacher].End {
			return api.LeBroken{Rule: 3, A: a}
		}
	}
	var inOrder []int
	for minute := range 1441 {
		for a, l := range lessons {
			if l.Begin == minute {
				inOrder = append(inOrder, a)
			}
		}
	}
	for kind := range 3 {
		for who := range 8 {
			before := -1
			for _, a := range inOrder {
				if whose(lessons[a])[kind] != who {
					continue
				}
				if before >= 0 && !canFollow(p.Day, before, a) {
					return api.LeBroken{Rule: 4 + kind, A: before, B: a}
				}
				before = a
			}
		}
	}
	return api.LeBroken{}
}

// randomPlan is a plan that breaks some rules, or none, as it may be.
func randomPlan(r *rand.Rand, lessons int) api.LePlan {
	p := api.LePlan{System: system(), Day: randomDay(r, lessons, 100+r.Intn(1341))}
	for range 1 + r.Intn(4) {
		p.Learners = append(p.Learners, b-r.Intn(8)/7)
	}
	for range 1 + r.Intn(4) {
		p.Teachers = append(p.Teachers, teacher(r.Intn(8)/7*60, 1440-r.Intn(8)/7*700, right(b, r.Intn(8)/7), right(am, 0)))
	}
	for range 1 + r.Intn(4) {
		p.Cars = append(p.Cars, api.LeCar{Class: b - r.Intn(12)/11, Features: r.Intn(6) / 5})
	}
	for i := range p.Day.Lessons {
		l := &p.Day.Lessons[i]
		l.Learner, l.Teacher, l.Car = r.Intn(len(p.Learners)), r.Intn(len(p.Teachers)), r.Intn(len(p.Cars))
	}
	return p
}

func TestBrokenAndHoursOfTheExample(t *testing.T) {
	if x, e := lesson.Broken(examplePlan()); x != (api.LeBroken{Rule: 5, A: 1, B: 2}) || e != api.OK {
		t.Errorf("Broken = %v, %d", x, e)
	}
	x, e := lesson.Hours(examplePlan())
	if !slices.Equal(x.Learners, of(60, 60, 45, 60)) || !slices.Equal(x.Teachers, of(225)) || !slices.Equal(x.Cars, of(60, 60, 45, 60)) || e != api.OK {
		t.Errorf("Hours = %v, %d", x, e)
	}
}

func TestBroken(t *testing.T) {
	for _, c := range []struct {
		what   string
		change func(p *api.LePlan)
		want   api.LeBroken
	}{
		{"nothing", func(p *api.LePlan) {}, api.LeBroken{}},
		{"nobody and nothing", func(p *api.LePlan) { *p = api.LePlan{System: system(), Day: at()} }, api.LeBroken{}},
		{"no lessons", func(p *api.LePlan) { p.Day.Lessons = nil }, api.LeBroken{}},
		{"the car of another class", func(p *api.LePlan) { p.Day.Lessons[3].Car = 0 }, api.LeBroken{Rule: 1, A: 3}},
		{"the learner of another class", func(p *api.LePlan) { p.Learners[0] = am }, api.LeBroken{Rule: 1, A: 0}},
		{"a car of a class that is included", func(p *api.LePlan) { p.Learners[0] = be }, api.LeBroken{Rule: 1, A: 0}},
		{"a learner without a lesson", func(p *api.LePlan) { p.Learners = append(p.Learners, be) }, api.LeBroken{}},
		{"a code against a feature", func(p *api.LePlan) { p.Teachers[0].Rights[0].Codes = manual }, api.LeBroken{Rule: 2, A: 0}},
		{"a feature against a code", func(p *api.LePlan) { p.Cars[0].Features = night }, api.LeBroken{Rule: 2, A: 0}},
		{"a right for another class", func(p *api.LePlan) { p.Teachers[0].Rights[0].Class = am }, api.LeBroken{Rule: 2, A: 0}},
		{"no rights", func(p *api.LePlan) { p.Teachers[1].Rights = nil }, api.LeBroken{Rule: 2, A: 1}},
		{"one right of two is enough", func(p *api.LePlan) { p.Teachers[1].Rights[1].Codes = night }, api.LeBroken{}},
		{"a right that covers the class", func(p *api.LePlan) { p.Teachers[1].Rights = []api.ClRight{right(be, 0)} }, api.LeBroken{}},
		{"begins before the hours", func(p *api.LePlan) { p.Teachers[0].Begin = 101 }, api.LeBroken{Rule: 3, A: 2}},
		{"ends behind the hours", func(p *api.LePlan) { p.Teachers[0].End = 499 }, api.LeBroken{Rule: 3, A: 0}},
		{"begins behind the hours", func(p *api.LePlan) { p.Teachers[1].End = 200 }, api.LeBroken{Rule: 3, A: 1}},
		{"ends before the hours", func(p *api.LePlan) { p.Teachers[1].Begin = 410 }, api.LeBroken{Rule: 3, A: 1}},
		{"no hours", func(p *api.LePlan) { p.Teachers[1].Begin, p.Teachers[1].End = 300, 300 }, api.LeBroken{Rule: 3, A: 1}},
		{"a learner in two lessons", func(p *api.LePlan) { p.Day.Lessons[4].Begin = 149 }, api.LeBroken{Rule: 4, A: 2, B: 4}},
		{"a learner in two lessons at once", func(p *api.LePlan) { p.Day.Lessons[3] = p.Day.Lessons[1] }, api.LeBroken{Rule: 4, A: 1, B: 3}},
		{"a learner who is too far away", func(p *api.LePlan) { p.Day.Lessons[3].To = 1 }, api.LeBroken{Rule: 4, A: 3, B: 1}},
		{"a learner who goes fast enough", func(p *api.LePlan) { p.Day.Lessons[3].To, p.Day.Lessons[3].End = 1, 395 }, api.LeBroken{}},
		{"a teacher in two lessons", func(p *api.LePlan) {
			p.Learners = append(p.Learners, b)
			p.Day.Lessons[4].Learner, p.Day.Lessons[4].Begin = 2, 149
		}, api.LeBroken{Rule: 5, A: 2, B: 4}},
		{"a car in two lessons", func(p *api.LePlan) {
			p.Learners = append(p.Learners, b)
			p.Teachers = append(p.Teachers, p.Teachers[0])
			p.Day.Lessons[4].Learner, p.Day.Lessons[4].Teacher, p.Day.Lessons[4].Begin = 2, 2, 149
		}, api.LeBroken{Rule: 6, A: 2, B: 4}},
		{"1 before 2", func(p *api.LePlan) { p.Teachers[0].Rights, p.Day.Lessons[3].Car = nil, 0 }, api.LeBroken{Rule: 1, A: 3}},
		{"2 before 3", func(p *api.LePlan) { p.Teachers[1].Rights, p.Teachers[0].End = nil, 499 }, api.LeBroken{Rule: 2, A: 1}},
		{"3 before 4", func(p *api.LePlan) { p.Teachers[1].End, p.Day.Lessons[4].Begin = 450, 149 }, api.LeBroken{Rule: 3, A: 1}},
		{"the first learner", func(p *api.LePlan) { p.Day.Lessons[3].To, p.Day.Lessons[4].Begin = 1, 149 }, api.LeBroken{Rule: 4, A: 2, B: 4}},
		{"the first lessons of a learner", func(p *api.LePlan) { p.Day.Lessons[4].Begin, p.Day.Lessons[4].End = 120, 450 }, api.LeBroken{Rule: 4, A: 2, B: 4}},
	} {
		p := goodPlan()
		c.change(&p)
		if x, e := lesson.Broken(p); x != c.want || e != api.OK {
			t.Errorf("%s: Broken = %v, %d", c.what, x, e)
		}
	}
}

// TestBrokenBetweenNeighbours has lessons of somebody of which only those next
// to each other are looked at: the way from the first one to the third one
// takes longer than that by the second one.
func TestBrokenBetweenNeighbours(t *testing.T) {
	p := goodPlan()
	p.Day.Minutes = [][]int{{0, 0, 100}, {0, 0, 0}, {0, 0, 0}}
	p.Day.Lessons = []api.LeLesson{given(0, 0, 0, 100, 110), given(0, 0, 0, 110, 120), given(0, 0, 0, 120, 130)}
	p.Day.Lessons[1].From, p.Day.Lessons[1].To, p.Day.Lessons[2].From = 1, 1, 2
	if x, e := lesson.Broken(p); x != (api.LeBroken{}) || e != api.OK {
		t.Errorf("Broken = %v, %d", x, e)
	}
	p.Day.Lessons[1], p.Day.Lessons[0] = p.Day.Lessons[0], p.Day.Lessons[1]
	p.Day.Minutes[1][2] = 1
	if x, e := lesson.Broken(p); x != (api.LeBroken{Rule: 4, A: 0, B: 2}) || e != api.OK {
		t.Errorf("Broken in another order = %v, %d", x, e)
	}
}

func TestBrokenOfRandomPlans(t *testing.T) {
	r := rand.New(rand.NewSource(413))
	var rules [7]int
	for range 6000 {
		p := randomPlan(r, r.Intn(8))
		x, e := lesson.Broken(p)
		if want := brokenByTheDocument(t, p); x != want || e != api.OK {
			t.Fatalf("Broken of %v = %v, %d, not %v", p, x, e, want)
		}
		rules[x.Rule]++
		if x.Rule == 0 {
			checkGoodPlan(t, p)
		}
	}
	if slices.Contains(rules[:], 0) {
		t.Errorf("some rule is never broken: %v", rules)
	}
}

// checkGoodPlan checks a plan that breaks no rule: nobody is at two places,
// there are teachers enough, and they may drive what they teach in.
func checkGoodPlan(t *testing.T, p api.LePlan) {
	t.Helper()
	teaching := map[int]bool{}
	for a, l := range p.Day.Lessons {
		teaching[l.Teacher] = true
		may, e := class.May(p.System, p.Teachers[l.Teacher].Rights, p.Cars[l.Car].Class, p.Cars[l.Car].Features)
		if !may || e != api.OK {
			t.Fatalf("%v: the teacher may not drive in %d", p, a)
		}
		for c, other := range p.Day.Lessons {
			if c == a || l.End <= other.Begin || other.End <= l.Begin {
				continue
			}
			if l.Learner == other.Learner || l.Teacher == other.Teacher || l.Car == other.Car {
				t.Fatalf("%v: somebody is in %d and %d", p, a, c)
			}
		}
	}
	if chains := chainsOf(t, p.Day); len(teaching) < len(chains) {
		t.Fatalf("%v: %d teachers, %v", p, len(teaching), chains)
	}
}

func TestHoursOfRandomPlans(t *testing.T) {
	r := rand.New(rand.NewSource(414))
	for range 500 {
		p := randomPlan(r, r.Intn(13))
		x, e := lesson.Hours(p)
		if len(x.Learners) != len(p.Learners) || len(x.Teachers) != len(p.Teachers) || len(x.Cars) != len(p.Cars) || e != api.OK {
			t.Fatalf("Hours of %v = %v, %d", p, x, e)
		}
		all := 0
		for _, l := range p.Day.Lessons {
			all += l.End - l.Begin
		}
		for kind, hours := range [][]int{x.Learners, x.Teachers, x.Cars} {
			sum := 0
			for who, minutes := range hours {
				sum += minutes
				for _, l := range p.Day.Lessons {
					if whose(l)[kind] == who {
						minutes -= l.End - l.Begin
					}
				}
				if minutes != 0 {
					t.Fatalf("Hours of %v = %v", p, x)
				}
			}
			if sum != all {
				t.Fatalf("Hours of %v = %v, not %d together", p, x, all)
			}
		}
	}
	x, e := lesson.Hours(api.LePlan{System: system(), Learners: of(b), Day: at()})
	if !slices.Equal(x.Learners, of(0)) || len(x.Teachers) != 0 || len(x.Cars) != 0 || e != api.OK {
		t.Errorf("Hours of nobody = %v, %d", x, e)
	}
}

// planErrors are changes of the good plan, and the error that it has then.
var planErrors = []struct {
	what   string
	change func(p *api.LePlan)
	e      api.Errno
}{
	{"nothing", func(p *api.LePlan) {}, api.OK},
	{"no classes", func(p *api.LePlan) { p.System.Classes = nil }, api.ErrLong},
	{"a class without a name", func(p *api.LePlan) { p.System.Classes[1].Name = "" }, api.ErrForm},
	{"a code twice", func(p *api.LePlan) { p.System.Codes[1] = "manual" }, api.ErrTwice},
	{"a circle of classes", func(p *api.LePlan) { p.System.Classes[0].Includes = of(b) }, api.ErrDown},
	{"no places", func(p *api.LePlan) { p.Day.Minutes = nil }, api.ErrLong},
	{"a minute to itself", func(p *api.LePlan) { p.Day.Minutes[0][0] = 1 }, api.ErrArg},
	{"a lesson without a minute", func(p *api.LePlan) { p.Day.Lessons[0].End = 400 }, api.ErrArg},
	{"the car 8", func(p *api.LePlan) { p.Day.Lessons[0].Car = 8 }, api.ErrRange},
	{"9 learners", func(p *api.LePlan) { p.Learners = make([]int, 9) }, api.ErrLong},
	{"9 teachers", func(p *api.LePlan) { p.Teachers = make([]api.LeTeacher, 9) }, api.ErrLong},
	{"9 cars", func(p *api.LePlan) { p.Cars = make([]api.LeCar, 9) }, api.ErrLong},
	{"8 of all", func(p *api.LePlan) {
		p.Learners, p.Teachers, p.Cars = append(p.Learners, make([]int, 6)...), append(p.Teachers, make([]api.LeTeacher, 6)...), append(p.Cars, make([]api.LeCar, 6)...)
	}, api.OK},
	{"a learner of no class", func(p *api.LePlan) { p.Learners[1] = 3 }, api.ErrNone},
	{"a learner of less than a class", func(p *api.LePlan) { p.Learners[1] = -1 }, api.ErrNone},
	{"a learner far beyond all classes", func(p *api.LePlan) { p.Learners[0] = math.MaxInt }, api.ErrNone},
	{"too many rights", func(p *api.LePlan) { p.Teachers[1].Rights = make([]api.ClRight, 41) }, api.ErrLong},
	{"a right for no class", func(p *api.LePlan) { p.Teachers[1].Rights[1].Class = 3 }, api.ErrNone},
	{"a right without a set of codes", func(p *api.LePlan) { p.Teachers[1].Rights[1].Codes = 4 }, api.ErrRange},
	{"there before the day", func(p *api.LePlan) { p.Teachers[1].Begin = -1 }, api.ErrRange},
	{"there behind the day", func(p *api.LePlan) { p.Teachers[1].End = 1441 }, api.ErrRange},
	{"comes behind the day", func(p *api.LePlan) { p.Teachers[1].Begin = 1441 }, api.ErrRange},
	{"leaves before the day", func(p *api.LePlan) { p.Teachers[1].End = -1 }, api.ErrRange},
	{"comes far behind the day", func(p *api.LePlan) { p.Teachers[1].Begin, p.Teachers[1].End = math.MaxInt, math.MinInt }, api.ErrRange},
	{"leaves before they come", func(p *api.LePlan) { p.Teachers[0].End = 99 }, api.ErrArg},
	{"leaves at once", func(p *api.LePlan) { p.Teachers[0].End = 100 }, api.OK},
	{"a car of no class", func(p *api.LePlan) { p.Cars[0].Class = 3 }, api.ErrNone},
	{"a car of less than a class", func(p *api.LePlan) { p.Cars[0].Class = math.MinInt }, api.ErrNone},
	{"a car without a set of features", func(p *api.LePlan) { p.Cars[1].Features = 4 }, api.ErrRange},
	{"a car with less than no features", func(p *api.LePlan) { p.Cars[1].Features = -1 }, api.ErrRange},
	{"a learner that there is not", func(p *api.LePlan) { p.Day.Lessons[2].Learner = 2 }, api.ErrNone},
	{"a teacher that there is not", func(p *api.LePlan) { p.Day.Lessons[2].Teacher = 2 }, api.ErrNone},
	{"a car that there is not", func(p *api.LePlan) { p.Day.Lessons[2].Car = 7 }, api.ErrNone},
	{"nobody", func(p *api.LePlan) { p.Learners, p.Teachers, p.Cars = nil, nil, nil }, api.ErrNone},
	// Which one is first.
	{"the system before the day", func(p *api.LePlan) { p.System.Codes[0], p.Day.Minutes = "", nil }, api.ErrForm},
	{"the day before numbers of all", func(p *api.LePlan) { p.Day.Lessons[4].End, p.Cars = 1, make([]api.LeCar, 9) }, api.ErrArg},
	{"numbers of all before learners", func(p *api.LePlan) { p.Learners[0], p.Cars = 9, make([]api.LeCar, 9) }, api.ErrLong},
	{"learners before teachers", func(p *api.LePlan) { p.Learners[1], p.Teachers[0].Begin = 9, -1 }, api.ErrNone},
	{"teachers before cars", func(p *api.LePlan) { p.Teachers[1].Begin, p.Teachers[1].End, p.Cars[0].Class = 9, 8, 9 }, api.ErrArg},
	{"cars before lessons", func(p *api.LePlan) { p.Cars[1].Features, p.Day.Lessons[0].Car = 4, 2 }, api.ErrRange},
	{"the first teacher", func(p *api.LePlan) { p.Teachers[0].End, p.Teachers[1].Rights[0].Class = 99, 9 }, api.ErrArg},
	{"rights before hours", func(p *api.LePlan) { p.Teachers[0].Begin, p.Teachers[0].Rights[0].Class = -1, 9 }, api.ErrNone},
	{"a range of hours before their order", func(p *api.LePlan) { p.Teachers[0].Begin, p.Teachers[0].End = 1441, 8 }, api.ErrRange},
	{"the first car", func(p *api.LePlan) { p.Cars[0].Features, p.Cars[1].Class = 4, 9 }, api.ErrRange},
	{"the class of a car before its features", func(p *api.LePlan) { p.Cars[0].Features, p.Cars[0].Class = 4, 9 }, api.ErrNone},
}

func TestBrokenAndHoursOfErrors(t *testing.T) {
	for _, c := range planErrors {
		p := goodPlan()
		c.change(&p)
		x, e := lesson.Broken(p)
		hours, f := lesson.Hours(p)
		if e != c.e || f != c.e {
			t.Errorf("%s: Broken = %d, Hours = %d", c.what, e, f)
		}
		if c.e != api.OK && (x != (api.LeBroken{}) || hours.Learners != nil || hours.Teachers != nil || hours.Cars != nil) {
			t.Errorf("%s: Broken = %v, Hours = %v", c.what, x, hours)
		}
	}
}
