package sheet_test

import (
	"math"
	"math/rand"
	"reflect"
	"slices"
	"strings"
	"testing"

	"bitepoint/api"
	"bitepoint/sheet"
)

// wild are numbers that are at the ends of ranges, or far beyond them.
var wild = []int{0, 1, -1, 2, 3, 4, 5, 6, 7, 8, 9, 11, 12, 13, 20, 21, 240, 241, math.MinInt, math.MinInt + 1, math.MaxInt, math.MaxInt - 1, 1 << 32, -1 << 31}

// wildNumber is one of them.
func wildNumber(r *rand.Rand) int { return wild[r.Intn(len(wild))] }

// arguments are what the functions are called with.
type arguments struct {
	c                 api.ShCode
	test, lost, lines []int
	s                 api.ShSheet
	passed            bool
	text              string
}

// wildArguments are arguments that are often not valid.
func wildArguments(r *rand.Rand) arguments {
	z := []size{small, great}[r.Intn(2)]
	a := arguments{c: randomCode(r, z), passed: r.Intn(2) == 0}
	a.test, a.s = randomTest(r, a.c, z), randomSheet(r, a.c, z)
	a.lost, a.lines = randomLost(r, a.test), modelLost(a.s)
	a.text, _ = sheet.Write(a.c, a.s)
	for _, list := range []*[]int{&a.test, &a.lost, &a.lines} {
		switch r.Intn(12) {
		case 0:
			*list = nil
		case 1:
			*list = slices.Repeat(*list, 1+r.Intn(20))
		case 2:
			*list = append(*list, wildNumber(r))
		case 3:
			*list = []int{1, 2, 3, 4}
		case 4:
			if len(*list) > 0 {
				(*list)[r.Intn(len(*list))] = wildNumber(r)
			}
		}
	}
	if r.Intn(4) == 0 {
		a.text = mutated(r, a.text)
	}
	if r.Intn(12) == 0 {
		a.text = strings.Repeat(a.text, r.Intn(50))
	}
	if r.Intn(3) == 0 {
		spoilSheet(r, &a.s)
	}
	if r.Intn(4) == 0 {
		spoilCode(r, &a.c)
	}
	return a
}

// mutated is a text with another byte, a further one, or one less.
func mutated(r *rand.Rand, text string) string {
	at, with := r.Intn(len(text)+1), string([]byte{" \n0123456789+-fmx\x00\xff"[r.Intn(19)]})
	switch before, behind := text[:at], text[at:]; {
	case behind == "" || r.Intn(3) == 0:
		return before + with + behind
	case r.Intn(2) == 0:
		return before + behind[1:]
	default:
		return before + with + behind[1:]
	}
}

// spoilSheet makes a sheet mostly not valid.
func spoilSheet(r *rand.Rand, s *api.ShSheet) {
	switch r.Intn(4) {
	case 0:
		s.Lines = wildNumber(r)
	case 1:
		s.Kept = nil
	case 2:
		s.Kept = slices.Repeat(s.Kept, r.Intn(4))
	case 3:
		if len(s.Kept) > 0 {
			kept := &s.Kept[r.Intn(len(s.Kept))]
			*[]*int{&kept.No, &kept.What, &kept.Sum}[r.Intn(3)] = wildNumber(r)
		}
	}
}

// spoilCode makes a code mostly not valid.
func spoilCode(r *rand.Rand, c *api.ShCode) {
	f := &c.Faults[r.Intn(len(c.Faults))]
	switch r.Intn(8) {
	case 0:
		*c = api.ShCode{}
	case 1:
		c.Faults = slices.Repeat(c.Faults, r.Intn(5))
	case 2:
		c.Manoeuvres = []string{"", "a", "b", "c"}[r.Intn(4):]
	case 3:
		c.Manoeuvres = []string{"a", []string{"a", f.Name, "-"}[r.Intn(3)]}
	case 4:
		f.Name = []string{"", "x y", "m0", strings.Repeat("n", 17)}[r.Intn(4)]
	case 5:
		f.Points = wildNumber(r)
	case 6:
		f.Limit = wildNumber(r)
	case 7:
		c.All = wildNumber(r)
	}
}

// clone is a copy of arguments, without shared memory.
func (a arguments) clone() arguments {
	a.c.Faults, a.c.Manoeuvres, a.s.Kept = slices.Clone(a.c.Faults), slices.Clone(a.c.Manoeuvres), slices.Clone(a.s.Kept)
	a.test, a.lost, a.lines = slices.Clone(a.test), slices.Clone(a.lost), slices.Clone(a.lines)
	return a
}

// result is what a function returns, and its error.
type result struct {
	values []any
	e      api.Errno
}

// Which result is of which function.
const (
	judgeIs = iota
	keepIs
	fitsIs
	outcomeIs
	showIs
	enoughIs
	fewestIs
	appealIs
	writeIs
	readIs
)

// results are the results of all functions but Check, whose indices are not
// zero with an error.
func (a arguments) results() []result {
	points, passes, e1 := sheet.Judge(a.c, a.test)
	kept, e2 := sheet.Keep(a.c, a.test, a.lost)
	fits, e3 := sheet.Fits(a.c, a.s)
	outcome, e4 := sheet.Outcome(a.c, a.s)
	shown, e5 := sheet.Show(a.c, a.s, a.passed)
	enough, e6 := sheet.Enough(a.c, a.s, a.lines)
	fewest, e7 := sheet.Fewest(a.c, a.s)
	appeal, e8 := sheet.Appeal(a.c, a.test)
	text, e9 := sheet.Write(a.c, a.s)
	read, e10 := sheet.Read(a.c, a.text)
	return []result{{[]any{points, passes}, e1}, {[]any{kept}, e2}, {[]any{fits}, e3}, {[]any{outcome}, e4}, {[]any{shown}, e5}, {[]any{enough}, e6}, {[]any{fewest}, e7}, {[]any{appeal}, e8}, {[]any{text}, e9}, {[]any{read}, e10}}
}

// errorsOf are the errors that each of these functions returns of its own.
var errorsOf = [][]api.Errno{
	judgeIs:   {api.ErrLong, api.ErrNone},
	keepIs:    {api.ErrLong, api.ErrNone, api.ErrArg},
	fitsIs:    {api.ErrRange, api.ErrArg, api.ErrNone, api.ErrLong},
	outcomeIs: {api.ErrRange, api.ErrArg, api.ErrNone, api.ErrLong, api.ErrDown},
	showIs:    {api.ErrRange, api.ErrArg, api.ErrNone, api.ErrLong, api.ErrDown},
	enoughIs:  {api.ErrRange, api.ErrArg, api.ErrNone, api.ErrLong, api.ErrDown},
	fewestIs:  {api.ErrRange, api.ErrArg, api.ErrNone, api.ErrLong, api.ErrDown},
	appealIs:  {api.ErrLong, api.ErrNone, api.ErrDown},
	writeIs:   {api.ErrRange, api.ErrArg, api.ErrNone, api.ErrLong},
	readIs:    {api.ErrLong, api.ErrForm},
}

// TestAnyArguments checks P10.16 and P1: all functions accept any arguments, do
// not change them, return the same for the same ones, and nothing with an
// error; with an error of the code, this one.
func TestAnyArguments(t *testing.T) {
	r := rand.New(rand.NewSource(1016))
	returned := make([]map[api.Errno]int, len(errorsOf))
	for i := range returned {
		returned[i] = map[api.Errno]int{}
	}
	parts := map[int]int{}
	for range 8000 {
		a := wildArguments(r)
		old := a.clone()
		first := a.results()
		if second := a.results(); !reflect.DeepEqual(first, second) {
			t.Fatalf("%v: %v, then %v", a, first, second)
		}
		part, at, of := sheet.Check(a.c)
		if !reflect.DeepEqual(a, old) {
			t.Fatalf("arguments have changed: %v, not %v", a, old)
		}
		if of == api.OK && (part != 0 || at != 0) || of != api.OK && (part < 1 || part > 4) {
			t.Fatalf("%v: Check = %d, %d, %d", a, part, at, of)
		}
		parts[part]++
		for i, one := range first {
			for _, value := range one.values {
				if one.e != api.OK && !reflect.ValueOf(value).IsZero() {
					t.Fatalf("%v: the function %d returns %v with the error %d", a, i, one.values, one.e)
				}
			}
			if of != api.OK && one.e != of || of == api.OK && one.e != api.OK && !slices.Contains(errorsOf[i], one.e) {
				t.Fatalf("%v: the function %d returns the error %d, and Check %d", a, i, one.e, of)
			}
			if of == api.OK {
				returned[i][one.e]++
			}
		}
	}
	for i, many := range returned {
		for _, e := range append(errorsOf[i], api.OK) {
			if many[e] < 30 {
				t.Errorf("the function %d returns %d only %d times", i, e, many[e])
			}
		}
	}
	for part := range 5 {
		if parts[part] < 30 {
			t.Errorf("Check returns the part %d only %d times", part, parts[part])
		}
	}
}

// spoil overwrites a slice, and all that lies behind it in the same memory.
func spoil[T any](list []T, with T) {
	list = list[:cap(list)]
	for i := range list {
		list[i] = with
	}
}

// TestResultsAreNewMemory checks P10.16: it overwrites results, and neither
// arguments nor further results change.
func TestResultsAreNewMemory(t *testing.T) {
	c, test, lost, s := example(), slices.Grow([]int{signal, speed, park, redlight}, 8), slices.Grow([]int{2, 4}, 8), left()
	c.Faults, c.Manoeuvres, s.Kept = slices.Grow(c.Faults, 8), slices.Grow(c.Manoeuvres, 8), slices.Grow(s.Kept, 8)
	for range 2 {
		kept, e := sheet.Keep(c, test, lost)
		if !same(kept, left()) || e != api.OK {
			t.Fatalf("Keep = %v, %d", kept, e)
		}
		spoil(kept.Kept, line(-99, -99, -99))
		for passed, last := range map[bool]int{true: signal, false: speed} {
			shown, e := sheet.Show(c, s, passed)
			if !slices.Equal(shown, []int{signal, speed, park, last}) || e != api.OK {
				t.Fatalf("Show of %t = %v, %d", passed, shown, e)
			}
			spoil(shown, -99)
		}
		fewest, e := sheet.Fewest(c, s)
		if !slices.Equal(fewest, []int{4}) || e != api.OK {
			t.Fatalf("Fewest = %v, %d", fewest, e)
		}
		spoil(fewest, -99)
		appeal, e := sheet.Appeal(c, test)
		if !slices.Equal(appeal, []int{4}) || e != api.OK {
			t.Fatalf("Appeal = %v, %d", appeal, e)
		}
		spoil(appeal, -99)
		read, e := sheet.Read(c, "4\n1 signal 1\n3 park 3\n")
		if !same(read, left()) || e != api.OK {
			t.Fatalf("Read = %v, %d", read, e)
		}
		spoil(read.Kept, line(-99, -99, -99))
		if !reflect.DeepEqual(c, example()) || !slices.Equal(test, []int{signal, speed, park, redlight}) || !slices.Equal(lost, []int{2, 4}) || !same(s, left()) {
			t.Fatalf("a result shares the memory of an argument: %v, %v, %v, %v", c, test, lost, s)
		}
	}
}
