package class_test

import (
	"math"
	"math/rand"
	"reflect"
	"slices"
	"testing"

	"bitepoint/api"
	"bitepoint/class"
)

// wild are numbers that are at the ends of ranges, or far beyond them.
var wild = []int{0, 1, -1, 2, 3, 7, 8, 12, 13, 40, 41, 100, 101, 255, 256, 1200, 40000, 40001, math.MinInt, math.MinInt + 1, math.MaxInt, math.MaxInt - 1, 1 << 32, -1 << 31}

// wildNumber is one of them.
func wildNumber(r *rand.Rand) int { return wild[r.Intn(len(wild))] }

// wildString is a name, or no string of the required form.
func wildString(r *rand.Rand) string {
	words := []string{"", "a", "b", "c", "am", "c1e", "-", "A", "\xff", "a.b", "a b", "a.a", "b.a b", "abcdefghijklmnopq"}
	return words[r.Intn(len(words))]
}

// wildSystem is a system that is mostly not valid.
func wildSystem(r *rand.Rand) api.ClSystem {
	s := randomSystem(r, 12, 8)
	for range r.Intn(3) {
		c := &s.Classes[r.Intn(len(s.Classes))]
		switch r.Intn(6) {
		case 0:
			c.Name = wildString(r)
		case 1:
			c.Includes = append(c.Includes, wildNumber(r))
		case 2:
			c.Needs = wildNumber(r)
		case 3:
			c.Age, c.Term = wildNumber(r), wildNumber(r)
		case 4:
			s.Codes = append(s.Codes, wildString(r))
		case 5:
			s.Classes = append(s.Classes, *c)
		}
	}
	if r.Intn(20) == 0 {
		s = api.ClSystem{}
	}
	return s
}

// wildRights are rights that are sometimes not valid.
func wildRights(r *rand.Rand, s api.ClSystem) []api.ClRight {
	if len(s.Classes) == 0 {
		return make([]api.ClRight, r.Intn(45))
	}
	rights := randomRights(r, s, 42)
	if len(rights) > 0 && r.Intn(3) == 0 {
		rights[r.Intn(len(rights))] = api.ClRight{Class: wildNumber(r), Codes: wildNumber(r)}
	}
	return rights
}

// cloneSystem is a copy of a system, without shared memory.
func cloneSystem(s api.ClSystem) api.ClSystem {
	s.Classes, s.Codes = slices.Clone(s.Classes), slices.Clone(s.Codes)
	for i := range s.Classes {
		s.Classes[i].Includes = slices.Clone(s.Classes[i].Includes)
	}
	return s
}

// results are the results of all functions for some arguments, in order.
func results(s api.ClSystem, a, b []api.ClRight, numbers [3]int, text string) []any {
	var all []any
	keep := func(results ...any) { all = append(all, results...) }
	x, y, z := numbers[0], numbers[1], numbers[2]
	keep(class.Name(text))
	day, e := class.Day(api.ClDate{Year: x, Month: y, Day: z})
	keep(day, e)
	d, e := class.Date(x)
	keep(d, e)
	day, e = class.Plus(x, y, z)
	keep(day, e)
	age, e := class.Age(x, y)
	keep(age, e)
	part, at, e := class.Check(s)
	keep(part, at, e)
	covers, e := class.Covers(s, x)
	keep(covers, e)
	may, e := class.May(s, a, x, y)
	keep(may, e)
	form, e := class.Least(s, a)
	keep(form, e)
	is, e := class.Allows(s, a, b)
	keep(is, e)
	both, e := class.Both(s, a, b)
	keep(both, e)
	written, e := class.Write(s, a)
	keep(written, e)
	read, e := class.Read(s, text)
	keep(read, e)
	return all
}

// TestAnyArguments checks that all functions accept any arguments, do not
// change them, and return the same for the same ones.
func TestAnyArguments(t *testing.T) {
	r := rand.New(rand.NewSource(12))
	for range 5000 {
		s := wildSystem(r)
		a, b := wildRights(r, s), wildRights(r, s)
		numbers := [3]int{wildNumber(r), wildNumber(r), wildNumber(r)}
		text := wildString(r)
		oldSystem, oldA, oldB := cloneSystem(s), slices.Clone(a), slices.Clone(b)
		first := results(s, a, b, numbers, text)
		if !reflect.DeepEqual(s, oldSystem) || !slices.Equal(a, oldA) || !slices.Equal(b, oldB) {
			t.Fatalf("arguments have changed: %v, %v, %v", oldSystem, oldA, oldB)
		}
		if second := results(s, a, b, numbers, text); !reflect.DeepEqual(first, second) {
			t.Fatalf("%v, %v, %v, %v, %q: %v, then %v", s, a, b, numbers, text, first, second)
		}
	}
}

// TestAnyNumbers checks the functions of the calendar for all wild numbers.
func TestAnyNumbers(t *testing.T) {
	for _, x := range wild {
		for _, y := range wild {
			for _, z := range wild {
				day, e := class.Day(api.ClDate{Year: x, Month: y, Day: z})
				sum, f := class.Plus(x, y, z)
				if e != api.OK && day != 0 || f != api.OK && sum != 0 {
					t.Errorf("%d, %d, %d: Day %d, %d; Plus %d, %d", x, y, z, day, e, sum, f)
				}
			}
		}
	}
}

// TestResultsAreNewMemory overwrites results, and all that may lie behind
// them in the same memory: neither arguments nor further results change.
func TestResultsAreNewMemory(t *testing.T) {
	s := example()
	a, b := list(0, 0, 1, 1, 2, 3), list(1, 0, 3, 0)
	oldSystem, oldA, oldB := cloneSystem(s), slices.Clone(a), slices.Clone(b)
	ruin := func(rights []api.ClRight) {
		rights = rights[:cap(rights)]
		for i := range rights {
			rights[i] = api.ClRight{Class: 99, Codes: 99}
		}
	}
	var first []any
	for range 2 {
		form, _ := class.Least(s, a)
		both, _ := class.Both(s, a, b)
		same, _ := class.Both(s, a, a)
		read, _ := class.Read(s, "b.manual be.manual.night am")
		covers, _ := class.Covers(s, 3)
		now := []any{slices.Clone(form), slices.Clone(both), slices.Clone(same), slices.Clone(read), slices.Clone(covers)}
		if first != nil && !reflect.DeepEqual(first, now) {
			t.Fatalf("%v, then %v", first, now)
		}
		first = now
		for _, rights := range [][]api.ClRight{form, both, same, read} {
			ruin(rights)
		}
		covers = covers[:cap(covers)]
		for i := range covers {
			covers[i] = 99
		}
		if !reflect.DeepEqual(s, oldSystem) || !slices.Equal(a, oldA) || !slices.Equal(b, oldB) {
			t.Fatalf("a result shares the memory of an argument")
		}
	}
}
