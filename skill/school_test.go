package skill_test

import (
	"fmt"
	"math"
	"math/rand"
	"slices"
	"strings"
	"testing"

	"bitepoint/api"
	"bitepoint/skill"
)

// span is a range.
func span(lo, hi int) api.Span { return api.Span{Lo: lo, Hi: hi} }

// example is S of the document's examples.
func example() api.SkSchool {
	return api.SkSchool{
		Skills: []api.SkSkill{
			{Name: "steer", Gain: span(20, 40), Fade: span(5, 10)},
			{Name: "watch", Gain: span(10, 30), Fade: span(0, 5)},
		},
		Instructors: []api.SkInstructor{
			{Name: "ada", Bias: span(-20, 0)},
			{Name: "bo", Bias: span(0, 30)},
		},
	}
}

// flat is a school with so many skills and instructors, and without ranges.
func flat(skills, instructors int) api.SkSchool {
	var s api.SkSchool
	for i := range skills {
		s.Skills = append(s.Skills, api.SkSkill{Name: fmt.Sprint("s", i)})
	}
	for i := range instructors {
		s.Instructors = append(s.Instructors, api.SkInstructor{Name: fmt.Sprint("i", i)})
	}
	return s
}

// randomSpan is a range of numbers from lo to hi, of at most so many.
func randomSpan(r *rand.Rand, lo, hi, most int) api.Span {
	first := lo + r.Intn(hi-lo+1)
	return span(first, min(hi, first+r.Intn(most)))
}

// randomSchool is a school with at most so many skills, and from 1 to 3
// instructors. Its ranges are narrow, and some reach the limits of levels.
func randomSchool(r *rand.Rand, most int) api.SkSchool {
	s := flat(1+r.Intn(most), 1+r.Intn(3))
	for i := range s.Skills {
		s.Skills[i].Gain, s.Skills[i].Fade = randomSpan(r, 0, 60, 20), randomSpan(r, 0, 20, 10)
		if r.Intn(8) == 0 {
			s.Skills[i].Gain = randomSpan(r, 0, 1000, 400)
		}
		if r.Intn(8) == 0 {
			s.Skills[i].Fade = randomSpan(r, 0, 1000, 100)
		}
	}
	for i := range s.Instructors {
		s.Instructors[i].Bias = randomSpan(r, -40, 40, 30)
		if r.Intn(8) == 0 {
			s.Instructors[i].Bias = randomSpan(r, -300, 300, 60)
		}
	}
	return s
}

// randomRanges is a range for each skill of a school.
func randomRanges(r *rand.Rand, s api.SkSchool, most int) []api.Span {
	var ranges []api.Span
	for range s.Skills {
		ranges = append(ranges, randomSpan(r, 0, api.All, most))
	}
	return ranges
}

// checkCase is a change of the example, and what Check returns for it.
type checkCase struct {
	what     string
	change   func(s *api.SkSchool)
	part, at int
	e        api.Errno
}

func TestCheckOfNumbersOfSkillsAndInstructors(t *testing.T) {
	for _, c := range []struct {
		skills, instructors int
		e                   api.Errno
	}{{1, 0, api.OK}, {5, 6, api.OK}, {0, 0, api.ErrLong}, {0, 6, api.ErrLong}, {6, 0, api.ErrLong}, {1, 7, api.ErrLong}, {6, 7, api.ErrLong}} {
		wantPart := 1
		if c.e == api.OK {
			wantPart = 0
		}
		if part, at, e := skill.Check(flat(c.skills, c.instructors)); part != wantPart || at != 0 || e != c.e {
			t.Errorf("%d skills, %d instructors: Check = %d, %d, %d", c.skills, c.instructors, part, at, e)
		}
	}
}

func TestCheck(t *testing.T) {
	checkAll(t, []checkCase{
		{"the example", func(s *api.SkSchool) {}, 0, 0, api.OK},
		{"no instructors", func(s *api.SkSchool) { s.Instructors = nil }, 0, 0, api.OK},
		{"no name", func(s *api.SkSchool) { s.Skills[1].Name = "Watch" }, 2, 1, api.ErrForm},
		{"empty name", func(s *api.SkSchool) { s.Skills[0].Name = "" }, 2, 0, api.ErrForm},
		{"long name", func(s *api.SkSchool) { s.Skills[0].Name = strings.Repeat("a", 17) }, 2, 0, api.ErrForm},
		{"longest name", func(s *api.SkSchool) { s.Skills[0].Name = strings.Repeat("a", 16) }, 0, 0, api.OK},
		{"same name", func(s *api.SkSchool) { s.Skills[1].Name = "steer" }, 2, 1, api.ErrTwice},
		{"least gain -1", func(s *api.SkSchool) { s.Skills[1].Gain.Lo = -1 }, 2, 1, api.ErrRange},
		{"greatest gain 1001", func(s *api.SkSchool) { s.Skills[1].Gain.Hi = 1001 }, 2, 1, api.ErrRange},
		{"least gain 1001", func(s *api.SkSchool) { s.Skills[0].Gain = span(1001, 1000) }, 2, 0, api.ErrRange},
		{"greatest gain -1", func(s *api.SkSchool) { s.Skills[0].Gain = span(0, -1) }, 2, 0, api.ErrRange},
		{"least fade -1", func(s *api.SkSchool) { s.Skills[1].Fade.Lo = -1 }, 2, 1, api.ErrRange},
		{"greatest fade 1001", func(s *api.SkSchool) { s.Skills[0].Fade.Hi = 1001 }, 2, 0, api.ErrRange},
		{"least fade far above", func(s *api.SkSchool) { s.Skills[0].Fade.Lo = math.MaxInt }, 2, 0, api.ErrRange},
		{"greatest fade far below", func(s *api.SkSchool) { s.Skills[0].Fade.Hi = math.MinInt }, 2, 0, api.ErrRange},
		{"gain from 41 to 40", func(s *api.SkSchool) { s.Skills[0].Gain.Lo = 41 }, 2, 0, api.ErrArg},
		{"gain from 40 to 40", func(s *api.SkSchool) { s.Skills[0].Gain.Lo = 40 }, 0, 0, api.OK},
		{"fade from 6 to 5", func(s *api.SkSchool) { s.Skills[1].Fade.Lo = 6 }, 2, 1, api.ErrArg},
		{"fade from 5 to 5", func(s *api.SkSchool) { s.Skills[1].Fade.Lo = 5 }, 0, 0, api.OK},
		{"widest skill", func(s *api.SkSchool) { s.Skills[0].Gain, s.Skills[0].Fade = span(0, 1000), span(0, 1000) }, 0, 0, api.OK},
		{"greatest skill", func(s *api.SkSchool) { s.Skills[0].Gain, s.Skills[0].Fade = span(1000, 1000), span(1000, 1000) }, 0, 0, api.OK},
		{"instructor without a name", func(s *api.SkSchool) { s.Instructors[1].Name = "1" }, 3, 1, api.ErrForm},
		{"same instructor", func(s *api.SkSchool) { s.Instructors[1].Name = "ada" }, 3, 1, api.ErrTwice},
		{"instructor named as a skill", func(s *api.SkSchool) { s.Instructors[1].Name = "steer" }, 0, 0, api.OK},
		{"least bias -301", func(s *api.SkSchool) { s.Instructors[0].Bias.Lo = -301 }, 3, 0, api.ErrRange},
		{"greatest bias 301", func(s *api.SkSchool) { s.Instructors[1].Bias.Hi = 301 }, 3, 1, api.ErrRange},
		{"least bias 301", func(s *api.SkSchool) { s.Instructors[1].Bias = span(301, 300) }, 3, 1, api.ErrRange},
		{"greatest bias -301", func(s *api.SkSchool) { s.Instructors[1].Bias = span(-300, -301) }, 3, 1, api.ErrRange},
		{"bias far below", func(s *api.SkSchool) { s.Instructors[0].Bias.Lo = math.MinInt }, 3, 0, api.ErrRange},
		{"bias from 1 to 0", func(s *api.SkSchool) { s.Instructors[0].Bias.Lo = 1 }, 3, 0, api.ErrArg},
		{"bias from 0 to 0", func(s *api.SkSchool) { s.Instructors[0].Bias.Lo = 0 }, 0, 0, api.OK},
		{"widest bias", func(s *api.SkSchool) { s.Instructors[0].Bias = span(-300, 300) }, 0, 0, api.OK},
		{"least bias", func(s *api.SkSchool) { s.Instructors[0].Bias = span(-300, -300) }, 0, 0, api.OK},
		{"greatest bias", func(s *api.SkSchool) { s.Instructors[0].Bias = span(300, 300) }, 0, 0, api.OK},
	})
}

func TestCheckNamesTheFirstError(t *testing.T) {
	checkAll(t, []checkCase{
		{"1 before 2", func(s *api.SkSchool) { s.Instructors, s.Skills[0].Name = make([]api.SkInstructor, 7), "" }, 1, 0, api.ErrLong},
		{"2 before 3", func(s *api.SkSchool) { s.Skills[1].Fade.Lo, s.Instructors[0].Name = 6, "" }, 2, 1, api.ErrArg},
		{"the first skill", func(s *api.SkSchool) { s.Skills[0].Gain.Lo, s.Skills[1].Name = 41, "" }, 2, 0, api.ErrArg},
		{"the first instructor", func(s *api.SkSchool) { s.Instructors[0].Bias.Lo, s.Instructors[1].Name = 1, "" }, 3, 0, api.ErrArg},
		{"form before twice", func(s *api.SkSchool) { s.Skills[0].Name, s.Skills[1].Name = "a", "A" }, 2, 1, api.ErrForm},
		{"form before range", func(s *api.SkSchool) { s.Skills[1].Name, s.Skills[1].Gain.Lo = "", -1 }, 2, 1, api.ErrForm},
		{"form before arg", func(s *api.SkSchool) { s.Skills[1].Name, s.Skills[1].Gain.Lo = "", 31 }, 2, 1, api.ErrForm},
		{"twice before range", func(s *api.SkSchool) { s.Skills[1].Name, s.Skills[1].Gain.Lo = "steer", -1 }, 2, 1, api.ErrTwice},
		{"twice before arg", func(s *api.SkSchool) { s.Skills[1].Name, s.Skills[1].Fade.Lo = "steer", 6 }, 2, 1, api.ErrTwice},
		{"range of gain before its arg", func(s *api.SkSchool) { s.Skills[1].Gain = span(5, -1) }, 2, 1, api.ErrRange},
		{"range of fade before arg of gain", func(s *api.SkSchool) { s.Skills[1].Gain, s.Skills[1].Fade = span(5, 4), span(0, 1001) }, 2, 1, api.ErrRange},
		{"range of gain before arg of fade", func(s *api.SkSchool) { s.Skills[1].Gain, s.Skills[1].Fade = span(-1, 4), span(5, 4) }, 2, 1, api.ErrRange},
		{"form before range of bias", func(s *api.SkSchool) { s.Instructors[1].Name, s.Instructors[1].Bias.Lo = "", -301 }, 3, 1, api.ErrForm},
		{"twice before range of bias", func(s *api.SkSchool) { s.Instructors[1].Name, s.Instructors[1].Bias.Lo = "ada", -301 }, 3, 1, api.ErrTwice},
		{"twice before arg of bias", func(s *api.SkSchool) { s.Instructors[1].Name, s.Instructors[1].Bias.Lo = "ada", 31 }, 3, 1, api.ErrTwice},
		{"range before arg of bias", func(s *api.SkSchool) { s.Instructors[1].Bias = span(301, 0) }, 3, 1, api.ErrRange},
	})
}

// checkAll checks changes of the example, and that all functions return the
// error of the school first.
func checkAll(t *testing.T, cases []checkCase) {
	t.Helper()
	events := make([]api.SkEvent, 61)
	for _, c := range cases {
		s := example()
		c.change(&s)
		part, at, e := skill.Check(s)
		if part != c.part || at != c.at || e != c.e {
			t.Errorf("%s: Check = %d, %d, %d", c.what, part, at, e)
		}
		if c.e == api.OK {
			continue
		}
		marks, e1 := skill.Marks(s, -1, -1)
		behind, e2 := skill.Behind(s, -1, -1)
		after, e3 := skill.After(s, nil, events, -1)
		severity, e4 := skill.Severity(s, nil, events, -1)
		chance, e5 := skill.Chance(s, api.SkTest{}, nil)
		ready, least, most, e6 := skill.Ready(s, api.SkTest{}, nil, -1)
		plan, e7 := skill.Fewest(s, api.SkTest{}, nil, -1)
		if errors := []api.Errno{e1, e2, e3, e4, e5, e6, e7}; slices.ContainsFunc(errors, func(e api.Errno) bool { return e != c.e }) {
			t.Errorf("%s: errors %v", c.what, errors)
		}
		none := api.Span{}
		if marks != none || behind != none || after != nil || severity != none || chance != 0 || ready || least != 0 || most != 0 || plan != nil {
			t.Errorf("%s: results with an error", c.what)
		}
	}
}
