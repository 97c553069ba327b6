package class_test

import (
	"math"
	"math/rand"
	"slices"
	"testing"

	"bitepoint/api"
	"bitepoint/class"
)

// list is rights: a class and its codes, one after the other.
func list(numbers ...int) []api.ClRight {
	var rights []api.ClRight
	for i := 0; i < len(numbers); i += 2 {
		rights = append(rights, api.ClRight{Class: numbers[i], Codes: numbers[i+1]})
	}
	return rights
}

// exampleRights is R of the document's examples.
func exampleRights() []api.ClRight { return list(1, 1, 2, 3, 0, 0) }

// randomRights is at most as many rights of a system.
func randomRights(r *rand.Rand, s api.ClSystem, most int) []api.ClRight {
	var rights []api.ClRight
	for range r.Intn(most + 1) {
		rights = append(rights, api.ClRight{Class: r.Intn(len(s.Classes)), Codes: r.Intn(1 << len(s.Codes))})
	}
	return rights
}

// allowed tells for each class and each set of features whether rights allow
// the vehicle, as the document defines it.
func allowed(s api.ClSystem, rights []api.ClRight) []bool {
	table := coverTable(s)
	var all []bool
	for c := range s.Classes {
		for features := range 1 << len(s.Codes) {
			all = append(all, slices.ContainsFunc(rights, func(r api.ClRight) bool {
				return table[r.Class][c] && r.Codes&features == 0
			}))
		}
	}
	return all
}

// least is the least form, or a failure.
func least(t *testing.T, s api.ClSystem, rights []api.ClRight) []api.ClRight {
	t.Helper()
	l, e := class.Least(s, rights)
	if e != api.OK {
		t.Fatalf("Least of %v = %d", rights, e)
	}
	return l
}

// allows is what Allows returns, or a failure.
func allows(t *testing.T, s api.ClSystem, a, b []api.ClRight) bool {
	t.Helper()
	is, e := class.Allows(s, a, b)
	if e != api.OK {
		t.Fatalf("Allows of %v, %v = %d", a, b, e)
	}
	return is
}

func TestMay(t *testing.T) {
	for _, c := range []struct {
		rights          []api.ClRight
		class, features int
		want            bool
	}{
		{exampleRights(), 0, 1, true}, {exampleRights(), 1, 1, false}, {exampleRights(), 1, 2, true}, {exampleRights(), 2, 2, false}, {exampleRights(), 2, 0, true},
		{exampleRights(), 3, 0, false}, {nil, 0, 0, false}, {list(3, 0), 0, 3, true}, {list(3, 0), 2, 0, false}, {list(0, 0), 3, 0, false}, {list(3, 2), 0, 2, false}, {list(3, 2), 0, 1, true},
	} {
		if is, e := class.May(example(), c.rights, c.class, c.features); is != c.want || e != api.OK {
			t.Errorf("May of %v, %d, %d = %t, %d", c.rights, c.class, c.features, is, e)
		}
	}
}

func TestMayErrors(t *testing.T) {
	for _, c := range []struct {
		rights          []api.ClRight
		class, features int
		e               api.Errno
	}{
		{make([]api.ClRight, 40), 0, 0, api.OK}, {make([]api.ClRight, 41), 9, 9, api.ErrLong}, {list(4, 4), 9, 9, api.ErrNone}, {list(0, 4), 9, 9, api.ErrRange},
		{nil, 4, 0, api.ErrNone}, {nil, -1, 4, api.ErrNone}, {nil, math.MinInt, 0, api.ErrNone}, {nil, math.MaxInt, 0, api.ErrNone},
		{nil, 3, 3, api.OK}, {nil, 3, 4, api.ErrRange}, {nil, 0, -1, api.ErrRange}, {nil, 0, math.MinInt, api.ErrRange}, {nil, 0, math.MaxInt, api.ErrRange},
	} {
		is, e := class.May(example(), c.rights, c.class, c.features)
		if e != c.e || e != api.OK && is {
			t.Errorf("May of %v, %d, %d = %t, %d", c.rights, c.class, c.features, is, e)
		}
	}
	if _, e := class.May(flat(1, 0), nil, 0, 1); e != api.ErrRange {
		t.Errorf("without codes there is no feature 1: %d", e)
	}
	if _, e := class.May(flat(1, 8), list(0, 255), 0, 255); e != api.OK {
		t.Errorf("with 8 codes there is the set 255: %d", e)
	}
	if _, e := class.May(flat(1, 8), list(0, 256), 0, 0); e != api.ErrRange {
		t.Errorf("with 8 codes there is no set 256: %d", e)
	}
}

// TestErrorsOfRights checks them for all functions with rights, and that no
// function has another result with them.
func TestErrorsOfRights(t *testing.T) {
	first := []struct {
		rights []api.ClRight
		e      api.Errno
	}{
		{append(make([]api.ClRight, 40), list(9, 9)...), api.ErrLong}, {list(0, 0, 4, 4), api.ErrNone}, {list(0, 4, 4, 0), api.ErrRange}, {list(4, 0, 0, 4), api.ErrNone},
		{list(-1, 0), api.ErrNone}, {list(math.MaxInt, 0), api.ErrNone}, {list(math.MinInt, 0), api.ErrNone}, {list(0, -1), api.ErrRange}, {list(0, math.MaxInt), api.ErrRange}, {list(0, math.MinInt), api.ErrRange},
	}
	s, good := example(), exampleRights()
	for _, c := range first {
		may, e1 := class.May(s, c.rights, 0, 0)
		form, e2 := class.Least(s, c.rights)
		is, e3 := class.Allows(s, c.rights, good)
		back, e4 := class.Allows(s, good, c.rights)
		both, e5 := class.Both(s, c.rights, good)
		other, e6 := class.Both(s, good, c.rights)
		text, e7 := class.Write(s, c.rights)
		if errors := []api.Errno{e1, e2, e3, e4, e5, e6, e7}; slices.ContainsFunc(errors, func(e api.Errno) bool { return e != c.e }) {
			t.Errorf("%v: errors %v", c.rights, errors)
		}
		if may || form != nil || is || back || both != nil || other != nil || text != "" {
			t.Errorf("%v: results with an error", c.rights)
		}
		for _, d := range first {
			_, e := class.Allows(s, c.rights, d.rights)
			_, f := class.Both(s, c.rights, d.rights)
			if e != c.e || f != c.e {
				t.Errorf("%v before %v: Allows %d, Both %d", c.rights, d.rights, e, f)
			}
		}
	}
}

func TestLeast(t *testing.T) {
	for _, c := range []struct{ rights, want []api.ClRight }{
		{append(exampleRights(), list(0, 2, 1, 3)...), list(0, 0, 1, 1, 2, 3)}, {nil, nil}, {list(3, 3), list(3, 3)}, {list(1, 2, 1, 2, 1, 2), list(1, 2)},
		{list(1, 3, 1, 2, 1, 1), list(1, 1, 1, 2)}, {list(3, 0, 2, 0, 1, 0, 0, 0), list(2, 0, 3, 0)}, {list(2, 0, 0, 0, 1, 3), list(2, 0)},
		{list(0, 3, 3, 3), list(3, 3)}, {list(0, 0, 3, 3), list(0, 0, 3, 3)}, {list(3, 1, 0, 2), list(0, 2, 3, 1)}, {make([]api.ClRight, 40), list(0, 0)},
	} {
		if l := least(t, example(), c.rights); !slices.Equal(l, c.want) {
			t.Errorf("Least of %v = %v", c.rights, l)
		}
	}
}

func TestAllows(t *testing.T) {
	for _, c := range []struct {
		a, b   []api.ClRight
		ab, ba bool
	}{
		{list(3, 0), list(1, 2), true, false}, {exampleRights(), list(1, 0), false, false}, {nil, nil, true, true}, {list(0, 3), nil, true, false},
		{list(1, 1, 1, 2), list(1, 3), true, false}, {list(1, 1, 1, 2), list(1, 0), false, true}, {list(2, 0), list(3, 0), false, false}, {list(1, 0, 0, 3), list(1, 0), true, true},
	} {
		if ab, ba := allows(t, example(), c.a, c.b), allows(t, example(), c.b, c.a); ab != c.ab || ba != c.ba {
			t.Errorf("Allows of %v, %v = %t, %t", c.a, c.b, ab, ba)
		}
	}
}

func TestBoth(t *testing.T) {
	for _, c := range []struct{ a, b, want []api.ClRight }{
		{exampleRights(), list(3, 0), list(0, 0, 1, 1)}, {list(2, 1), list(3, 2), list(1, 3)}, {list(2, 1), nil, nil}, {nil, nil, nil}, {list(0, 1), list(0, 2), list(0, 3)}, {list(3, 0, 2, 3), list(2, 0), list(1, 0, 2, 3)},
	} {
		ab, e := class.Both(example(), c.a, c.b)
		ba, f := class.Both(example(), c.b, c.a)
		if !slices.Equal(ab, c.want) || !slices.Equal(ba, c.want) || e != api.OK || f != api.OK {
			t.Errorf("Both of %v, %v = %v, %d; %v, %d", c.a, c.b, ab, e, ba, f)
		}
	}
	if l, e := class.Both(flat(2, 2), list(0, 0), list(1, 0)); len(l) != 0 || e != api.OK {
		t.Errorf("Both without a common class = %v, %d", l, e)
	}
}

func TestBothOfMany(t *testing.T) {
	s := flat(12, 8)
	s.Classes[11].Includes = []int{0, 1, 2, 3, 4, 5, 6, 7, 8, 9, 10}
	a := list(11, 1, 11, 2, 11, 4, 11, 8)
	var b, want []api.ClRight
	for c := range 10 {
		b = append(b, api.ClRight{Class: c})
		want = append(want, list(c, 1, c, 2, c, 4, c, 8)...)
	}
	if l, e := class.Both(s, a, b); !slices.Equal(l, want) || e != api.OK {
		t.Errorf("Both with 40 rights: %v, %d", l, e)
	}
	if l, e := class.Both(s, b, a); !slices.Equal(l, want) || e != api.OK {
		t.Errorf("Both with 40 rights, the other way round: %v, %d", l, e)
	}
	b = append(b, api.ClRight{Class: 10})
	if l, e := class.Both(s, a, b); l != nil || e != api.ErrLong {
		t.Errorf("Both with 44 rights: %v, %d", l, e)
	}
	if l, e := class.Both(s, list(11, 0), list(11, 0)); !slices.Equal(l, list(11, 0)) || e != api.OK {
		t.Errorf("Both of one right: %v, %d", l, e)
	}
	many := make([]api.ClRight, 40)
	if l, e := class.Both(s, many, many); !slices.Equal(l, list(0, 0)) || e != api.OK {
		t.Errorf("Both of 40 same rights: %v, %d", l, e)
	}
}

func TestRandomRightsAllowWhatTheDefinitionSays(t *testing.T) {
	r := rand.New(rand.NewSource(3))
	for range 1000 {
		s := randomSystem(r, 5, 3)
		a, b := randomRights(r, s, 6), randomRights(r, s, 6)
		forA, forB := allowed(s, a), allowed(s, b)
		for i, want := range forA {
			c, features := i>>len(s.Codes), i&(1<<len(s.Codes)-1)
			if is, e := class.May(s, a, c, features); is != want || e != api.OK {
				t.Fatalf("%v: May of %v, %d, %d = %t, %d", s, a, c, features, is, e)
			}
		}
		if l := least(t, s, a); !slices.Equal(allowed(s, l), forA) {
			t.Fatalf("%v: Least of %v = %v", s, a, l)
		}
		all := true
		for i := range forA {
			all = all && (forA[i] || !forB[i])
		}
		if allows(t, s, a, b) != all {
			t.Fatalf("%v: Allows of %v, %v = %t", s, a, b, !all)
		}
		if same := slices.Equal(least(t, s, a), least(t, s, b)); same != slices.Equal(forA, forB) {
			t.Fatalf("%v: the least forms of %v and %v: %t", s, a, b, same)
		}
	}
}

func TestLeastFormIsWhatTheDefinitionSays(t *testing.T) {
	r := rand.New(rand.NewSource(4))
	for range 1000 {
		s := randomSystem(r, 6, 3)
		rights, table := randomRights(r, s, 10), coverTable(s)
		var want []api.ClRight
		for c := range s.Classes {
			for codes := range 1 << len(s.Codes) {
				right := api.ClRight{Class: c, Codes: codes}
				stronger := func(o api.ClRight) bool { return o != right && table[o.Class][c] && o.Codes|codes == codes }
				if slices.Contains(rights, right) && !slices.ContainsFunc(rights, stronger) {
					want = append(want, right)
				}
			}
		}
		if l := least(t, s, rights); !slices.Equal(l, want) {
			t.Fatalf("%v: Least of %v = %v, not %v", s, rights, l, want)
		}
	}
}

func TestNoFewerRightsThanTheLeastForm(t *testing.T) {
	r := rand.New(rand.NewSource(5))
	for range 60 {
		s := randomSystem(r, 3, 2)
		for len(s.Codes) == 0 {
			s = randomSystem(r, 3, 2)
		}
		var each []api.ClRight
		for c := range s.Classes {
			for codes := range 1 << len(s.Codes) {
				each = append(each, api.ClRight{Class: c, Codes: codes})
			}
		}
		rights := randomRights(r, s, 6)
		want, form := allowed(s, rights), least(t, s, rights)
		for set := range 1 << len(each) {
			var some []api.ClRight
			for i, right := range each {
				if set>>i&1 == 1 {
					some = append(some, right)
				}
			}
			if len(some) < len(form) && slices.Equal(allowed(s, some), want) {
				t.Fatalf("%v: %v has fewer rights than Least of %v: %v", s, some, rights, form)
			}
		}
	}
}

func TestEachRightOfTheLeastFormIsNeeded(t *testing.T) {
	r := rand.New(rand.NewSource(6))
	for range 500 {
		s := randomSystem(r, 12, 8)
		rights := randomRights(r, s, 40)
		form := least(t, s, rights)
		for i := range form {
			less := slices.Delete(slices.Clone(form), i, i+1)
			if allows(t, s, less, form) {
				t.Fatalf("%v: Least of %v = %v, of which %d is not needed", s, rights, form, i)
			}
		}
		if !allows(t, s, form, rights) || !allows(t, s, rights, form) {
			t.Fatalf("%v: Least of %v = %v", s, rights, form)
		}
	}
}

func TestLeastFormInAnyOrder(t *testing.T) {
	r := rand.New(rand.NewSource(7))
	for range 500 {
		s := randomSystem(r, 6, 4)
		rights := randomRights(r, s, 12)
		want := least(t, s, rights)
		more := slices.Clone(rights)
		for _, right := range rights {
			covered, _ := class.Covers(s, right.Class)
			weaker := api.ClRight{Class: covered[r.Intn(len(covered))], Codes: right.Codes | r.Intn(1<<len(s.Codes))}
			more = append(more, right, weaker)
		}
		r.Shuffle(len(more), func(i, j int) { more[i], more[j] = more[j], more[i] })
		if got := least(t, s, more); !slices.Equal(got, want) {
			t.Fatalf("%v: Least of %v = %v, but of %v = %v", s, rights, want, more, got)
		}
		if got := least(t, s, want); !slices.Equal(got, want) {
			t.Fatalf("%v: Least of %v = %v", s, want, got)
		}
	}
}

func TestWithMoreRightsAndFewerCodesAndFeatures(t *testing.T) {
	r := rand.New(rand.NewSource(8))
	for range 2000 {
		s := randomSystem(r, 5, 4)
		rights := append(randomRights(r, s, 4), api.ClRight{Class: r.Intn(len(s.Classes)), Codes: r.Intn(1 << len(s.Codes))})
		c, features := r.Intn(len(s.Classes)), r.Intn(1<<len(s.Codes))
		if is, _ := class.May(s, rights, c, features); !is {
			continue
		}
		more := append(randomRights(r, s, 3), rights...)
		fewer := slices.Clone(rights)
		fewer[r.Intn(len(fewer))].Codes &= r.Intn(1 << len(s.Codes))
		if is, e := class.May(s, more, c, features); !is || e != api.OK {
			t.Fatalf("%v: %v allow %d, %d, but not %v", s, rights, c, features, more)
		}
		if is, e := class.May(s, fewer, c, features); !is || e != api.OK {
			t.Fatalf("%v: %v allow %d, %d, but not %v", s, rights, c, features, fewer)
		}
		if is, e := class.May(s, rights, c, features&r.Intn(1<<len(s.Codes))); !is || e != api.OK {
			t.Fatalf("%v: %v allow %d, %d, but not with a feature less", s, rights, c, features)
		}
	}
}

func TestCompared(t *testing.T) {
	r := rand.New(rand.NewSource(9))
	for range 2000 {
		s := randomSystem(r, 4, 2)
		a, b, c := randomRights(r, s, 4), randomRights(r, s, 3), randomRights(r, s, 2)
		together := least(t, s, slices.Concat(a, b))
		if allows(t, s, a, b) != slices.Equal(together, least(t, s, a)) {
			t.Fatalf("%v: Allows of %v, %v, together %v", s, a, b, together)
		}
		if !allows(t, s, a, a) {
			t.Fatalf("%v: %v do not allow what they allow", s, a)
		}
		if allows(t, s, a, b) && allows(t, s, b, c) && !allows(t, s, a, c) {
			t.Fatalf("%v: Allows of %v, %v, %v", s, a, b, c)
		}
	}
}

func TestBothOfRandomRights(t *testing.T) {
	r := rand.New(rand.NewSource(10))
	for range 1000 {
		s := randomSystem(r, 5, 3)
		a, b := randomRights(r, s, 6), randomRights(r, s, 6)
		both, e := class.Both(s, a, b)
		back, f := class.Both(s, b, a)
		if e != api.OK || f != api.OK || !slices.Equal(both, back) || !slices.Equal(both, least(t, s, both)) {
			t.Fatalf("%v: Both of %v, %v = %v, %d; %v, %d", s, a, b, both, e, back, f)
		}
		forA, forB, forBoth := allowed(s, a), allowed(s, b), allowed(s, both)
		for i := range forBoth {
			if forBoth[i] != (forA[i] && forB[i]) {
				t.Fatalf("%v: Both of %v, %v = %v", s, a, b, both)
			}
		}
		if same, e := class.Both(s, a, a); e != api.OK || !slices.Equal(same, least(t, s, a)) {
			t.Fatalf("%v: Both of %v and itself = %v, %d", s, a, same, e)
		}
	}
}
