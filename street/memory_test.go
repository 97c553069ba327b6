package street_test

import (
	"math"
	"math/rand"
	"reflect"
	"slices"
	"testing"

	"bitepoint/api"
	"bitepoint/street"
)

// wild are numbers that are at the ends of ranges, or far beyond them.
var wild = []int{0, 1, -1, 2, 3, 4, 15, 16, 39, 40, 41, 60, 61, 63, 64, 10000, 10001, 20000000, 20000001, math.MinInt, math.MinInt + 1, math.MaxInt, math.MaxInt - 1, 1 << 32, -1 << 31}

// wildNumber is one of them.
func wildNumber(r *rand.Rand) int { return wild[r.Intn(len(wild))] }

// wildNames are names, some of which may be none.
func wildNames(r *rand.Rand) []string {
	words := []string{"a", "b", "", "A", "1a", "\xff", "a b", "-", "abcdefghijklmnopq"}
	list := named("n", r.Intn(18))
	if len(list) > 0 && r.Intn(2) == 0 {
		list[r.Intn(len(list))] = words[r.Intn(len(words))]
	}
	return list
}

// wildTown is a town that is often not valid.
func wildTown(r *rand.Rand) api.StTown {
	t := randomTown(r, 5, 3, 12, 5)
	if len(t.Streets) == 0 {
		return api.StTown{Places: wildNames(r), Shows: wildNames(r), Times: wildNames(r)}
	}
	s := &t.Streets[r.Intn(len(t.Streets))]
	switch r.Intn(16) {
	case 0:
		t.Places = wildNames(r)
	case 1:
		t.Shows = wildNames(r)
	case 2:
		t.Times = wildNames(r)
	case 3:
		s.From = wildNumber(r)
	case 4:
		s.To = wildNumber(r)
	case 5:
		s.Metres = wildNumber(r)
	case 6:
		s.Minutes = span(wildNumber(r), wildNumber(r))
	case 7:
		s.Shows[0] = wildNumber(r)
	case 8:
		s.Shows = append(s.Shows, wildNumber(r))
	}
	return t
}

// arguments are what the functions are called with.
type arguments struct {
	town       api.StTown
	task       api.StTask
	from, time int
	steps      []api.StStep
	table      [][]int
	text       string
}

// wildArguments are arguments that are often not valid.
func wildArguments(r *rand.Rand) arguments {
	a := arguments{town: randomTown(r, 5, 3, 12, 5)}
	a.task = randomTask(r, a.town)
	a.from, a.time = a.task.From, a.task.Time
	a.steps = randomSteps(r, a.town, a.from, 6)
	a.table, _ = street.Table(a.town, a.task)
	a.table = changed(r, a.table)
	a.text, _ = street.Write(a.town, a.from, a.steps)
	switch r.Intn(12) {
	case 0:
		a.town = wildTown(r)
	case 1:
		a.task.From, a.from = wildNumber(r), wildNumber(r)
	case 2:
		a.task.To, a.time = wildNumber(r), wildNumber(r)
	case 3:
		a.task.Show = wildNumber(r)
	case 4:
		a.task.Time = wildNumber(r)
	case 5:
		a.task.Closed = append(a.task.Closed, wildNumber(r))
	case 6:
		a.task.Closed = make([]int, 39+r.Intn(4))
	case 7:
		a.steps = append(a.steps, api.StStep{Street: wildNumber(r), Back: r.Intn(2) == 0})
	case 8:
		a.steps = make([]api.StStep, 1099+r.Intn(4))
	case 9:
		a.table[r.Intn(len(a.table))][0] = wildNumber(r)
	case 10:
		a.table[r.Intn(len(a.table))] = make([]int, r.Intn(9))
	case 11:
		a.text += "-0.p" + string(rune('0'+r.Intn(10)))
	}
	return a
}

// clone is a copy of arguments, without shared memory.
func (a arguments) clone() arguments {
	a.town, a.steps, a.table = cloneTown(a.town), slices.Clone(a.steps), cloneTable(a.table)
	a.task.Closed = slices.Clone(a.task.Closed)
	return a
}

// result is what a function returns, and its error.
type result struct {
	values []any
	e      api.Errno
}

// results are the results of all functions but Check.
func (a arguments) results() []result {
	tour, to, e1 := street.Drive(a.town, a.from, a.time, a.steps)
	best, e2 := street.Find(a.town, a.task)
	table, e3 := street.Table(a.town, a.task)
	proves, e4 := street.Proves(a.town, a.task, a.table)
	text, e5 := street.Write(a.town, a.from, a.steps)
	from, steps, e6 := street.Read(a.town, a.text)
	return []result{
		{[]any{tour, to}, e1}, {[]any{best}, e2}, {[]any{table}, e3},
		{[]any{proves}, e4}, {[]any{text}, e5}, {[]any{from, steps}, e6},
	}
}

// TestAnyArguments checks that all functions accept any arguments, do not
// change them, return the same for the same ones, and nothing with an error.
func TestAnyArguments(t *testing.T) {
	r := rand.New(rand.NewSource(14))
	for range 4000 {
		a := wildArguments(r)
		old := a.clone()
		first := a.results()
		if !reflect.DeepEqual(a, old) {
			t.Fatalf("arguments have changed: %v", old)
		}
		if second := a.results(); !reflect.DeepEqual(first, second) {
			t.Fatalf("%v: %v, then %v", a, first, second)
		}
		_, _, e := street.Check(a.town)
		for i, one := range first {
			if e != api.OK && one.e != e {
				t.Fatalf("%v: %d returns %d, not the error %d of the town", a, i, one.e, e)
			}
			for _, value := range one.values {
				if one.e != api.OK && !reflect.ValueOf(value).IsZero() {
					t.Fatalf("%v: %d returns %v with the error %d", a, i, one.values, one.e)
				}
			}
		}
	}
}

// spoil overwrites a slice, and all that lies behind it in the same memory.
func spoil[T any](list []T, with T) {
	list = list[:cap(list)]
	for i := range list {
		list[i] = with
	}
}

// TestResultsAreNewMemory overwrites results: neither arguments nor further
// results, nor other parts of the same result, change.
func TestResultsAreNewMemory(t *testing.T) {
	a := arguments{town: example(), task: exampleTask(), steps: by(0, -1, 2), table: exampleTable(), text: "home-0.hill=0.home-2.ring"}
	a.task.Closed = make([]int, 0, 8)
	a.steps = slices.Grow(a.steps, 8)
	old := a.clone()
	for range 2 {
		tour, _, e := street.Drive(a.town, a.from, a.time, a.steps)
		if !slices.Equal(tour.Steps, old.steps) || e != api.OK {
			t.Fatalf("Drive = %v, %d", tour, e)
		}
		best, e := street.Find(a.town, a.task)
		if !slices.Equal(best.Steps, by(2, 3)) || e != api.OK {
			t.Fatalf("Find = %v, %d", best, e)
		}
		_, steps, e := street.Read(a.town, a.text)
		if !slices.Equal(steps, old.steps) || e != api.OK {
			t.Fatalf("Read = %v, %d", steps, e)
		}
		for _, all := range [][]api.StStep{tour.Steps, best.Steps, steps} {
			spoil(all, api.StStep{Street: 99, Back: true})
		}
		table, e := street.Table(a.town, a.task)
		for place, numbers := range table {
			if !slices.Equal(numbers, exampleTable()[place]) || e != api.OK {
				t.Fatalf("Table = %v, %d", table, e)
			}
			spoil(numbers, -99)
		}
		spoil(table, nil)
		if !reflect.DeepEqual(a, old) {
			t.Fatalf("a result shares the memory of an argument: %v, not %v", a, old)
		}
	}
}
