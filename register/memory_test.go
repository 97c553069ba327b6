package register_test

import (
	"math"
	"math/rand"
	"reflect"
	"slices"
	"strings"
	"testing"

	"bitepoint/api"
	"bitepoint/register"
)

// wild are numbers that are at the ends of ranges, or far beyond them.
var wild = []int{0, 1, -1, 2, 3, 4, 5, 8, 12, 20, 21, 100, 101, 1439, 1440, 39999, 40000, 40001, math.MinInt, math.MinInt + 1, math.MaxInt, math.MaxInt - 1, 1 << 32, -1 << 31}

// wildNumber is one of them.
func wildNumber(r *rand.Rand) int { return wild[r.Intn(len(wild))] }

// arguments are what the functions are called with.
type arguments struct {
	r      api.RgRules
	p      api.RgPerson
	day    int
	drive  api.RgDrive
	drives []api.RgDrive
	text   string
}

// wildArguments are arguments that are often not valid.
func wildArguments(r *rand.Rand) arguments {
	a := arguments{r: randomRules(r)}
	a.p = randomPerson(r, a.r, 30)
	a.day, a.drive = randomDay(r, a.r, a.p), randomDrive(r, a.r, a.p)
	for range r.Intn(8) {
		a.drives = append(a.drives, randomDrive(r, a.r, a.p))
	}
	a.text, _ = register.Write(a.r, a.p)
	if r.Intn(4) == 0 {
		a.text = mutated(r, a.text)
	}
	if r.Intn(12) == 0 {
		a.text = strings.Repeat(a.text, r.Intn(40))
	}
	if r.Intn(5) == 0 {
		a.day = wildNumber(r)
	}
	if r.Intn(5) == 0 {
		spoilDrive(r, &a.drive)
	}
	if len(a.drives) > 0 && r.Intn(3) == 0 {
		spoilDrive(r, &a.drives[r.Intn(len(a.drives))])
	}
	if r.Intn(12) == 0 {
		a.drives = slices.Repeat(a.drives, r.Intn(60))
	}
	if r.Intn(3) == 0 {
		spoilPerson(r, &a.p)
	}
	if r.Intn(4) == 0 {
		spoilRules(r, &a.r)
	}
	return a
}

// mutated is a text with another byte, a further one, or one less.
func mutated(r *rand.Rand, text string) string {
	const bytes = " \n0123456789-:.bcdeknoprstwx\x00\xff"
	at, with := r.Intn(len(text)+1), string([]byte{bytes[r.Intn(len(bytes))]})
	switch before, behind := text[:at], text[at:]; {
	case behind == "" || r.Intn(3) == 0:
		return before + with + behind
	case r.Intn(2) == 0:
		return before + behind[1:]
	default:
		return before + with + behind[1:]
	}
}

// spoilDrive makes a drive mostly not valid.
func spoilDrive(r *rand.Rand, d *api.RgDrive) {
	*[]*int{&d.Day, &d.Class, &d.Features}[r.Intn(3)] = wildNumber(r)
}

// spoilPerson makes a person mostly not valid.
func spoilPerson(r *rand.Rand, p *api.RgPerson) {
	switch r.Intn(6) {
	case 0:
		p.Born = wildNumber(r)
	case 1:
		p.Events = slices.Repeat(p.Events, r.Intn(6))
	default:
		if len(p.Events) > 0 {
			e := &p.Events[r.Intn(len(p.Events))]
			*[]*int{&e.Kind, &e.Day, &e.Right.Class, &e.Right.Codes, &e.Treaty, &e.Class, &e.Points, &e.Until, &e.Minute}[r.Intn(9)] = wildNumber(r)
		}
	}
}

// spoilRules makes rules mostly not valid.
func spoilRules(r *rand.Rand, rules *api.RgRules) {
	c := &rules.System.Classes[r.Intn(len(rules.System.Classes))]
	switch r.Intn(6) {
	case 0:
		*[]*int{&c.Needs, &c.Age, &c.Term}[r.Intn(3)] = wildNumber(r)
	case 1:
		c.Name = []string{"", "x y", "c0", strings.Repeat("n", 17)}[r.Intn(4)]
	case 2:
		rules.System.Codes = []string{"", "a", "b", "c"}[r.Intn(4):]
	case 3:
		rules.Treaties = slices.Repeat(rules.Treaties, r.Intn(9))
	case 4:
		*[]*int{&rules.Limit, &rules.Fall, &rules.Ban}[r.Intn(3)] = wildNumber(r)
	case 5:
		if len(rules.Treaties) > 0 {
			t := &rules.Treaties[r.Intn(len(rules.Treaties))]
			*[]*int{&t.Right.Class, &t.Right.Codes, &t.Days.Lo, &t.Days.Hi}[r.Intn(4)] = wildNumber(r)
		}
	}
}

// clone is a copy of arguments, without shared memory.
func (a arguments) clone() arguments {
	a.r.System.Classes, a.r.System.Codes, a.r.Treaties = slices.Clone(a.r.System.Classes), slices.Clone(a.r.System.Codes), slices.Clone(a.r.Treaties)
	for n := range a.r.System.Classes {
		a.r.System.Classes[n].Includes = slices.Clone(a.r.System.Classes[n].Includes)
	}
	a.p.Events, a.drives = slices.Clone(a.p.Events), slices.Clone(a.drives)
	return a
}

// result is what a function returns, and its error.
type result struct {
	value any
	e     api.Errno
}

// Which result is of which function.
const (
	sortedIs = iota
	bansIs
	pointsIs
	heldIs
	whyIs
	wrongIs
	impostorsIs
	writeIs
	readIs
)

// results are the results of all functions but Check, whose indices are not
// zero with an error.
func (a arguments) results() []result {
	ordered, e1 := register.Sorted(a.r, a.p)
	bans, e2 := register.Bans(a.r, a.p)
	points, e3 := register.Points(a.r, a.p, a.day)
	held, e4 := register.Held(a.r, a.p, a.day)
	why, e5 := register.Why(a.r, a.p, a.drive)
	wrong, e6 := register.Wrong(a.r, a.p, a.drives)
	impostors, e7 := register.Impostors(a.r, a.p)
	text, e8 := register.Write(a.r, a.p)
	read, e9 := register.Read(a.r, a.text)
	return []result{{ordered, e1}, {bans, e2}, {points, e3}, {held, e4}, {why, e5}, {wrong, e6}, {impostors, e7}, {text, e8}, {read, e9}}
}

// errorsOf are the errors that each of these functions returns of its own.
func errorsOf(function int) []api.Errno {
	if function == readIs {
		return []api.Errno{api.ErrLong, api.ErrForm}
	}
	return []api.Errno{api.ErrRange, api.ErrLong, api.ErrArg, api.ErrNone}
}

// TestAnyArguments checks P11.16 and P1: all functions accept any arguments, do
// not change them, return the same for the same ones, and nothing with an
// error; with an error of the rules, this one, and then that of the person.
func TestAnyArguments(t *testing.T) {
	r := rand.New(rand.NewSource(1116))
	returned := make([]map[api.Errno]int, readIs+1)
	for i := range returned {
		returned[i] = map[api.Errno]int{}
	}
	parts := map[int]int{}
	for range 9000 {
		a := wildArguments(r)
		old := a.clone()
		first := a.results()
		if second := a.results(); !reflect.DeepEqual(first, second) {
			t.Fatalf("%v: %v, then %v", a, first, second)
		}
		part, at, of := register.Check(a.r)
		if !reflect.DeepEqual(a, old) {
			t.Fatalf("arguments have changed: %v, not %v", a, old)
		}
		if of == api.OK && (part != 0 || at != 0) || of != api.OK && (part < 1 || part > 3) {
			t.Fatalf("%v: Check = %d, %d, %d", a, part, at, of)
		}
		parts[part]++
		for i, one := range first {
			if one.e != api.OK && !reflect.ValueOf(one.value).IsZero() {
				t.Fatalf("%v: the function %d returns %v with the error %d", a, i, one.value, one.e)
			}
			if of != api.OK && one.e != of || of == api.OK && one.e != api.OK && !slices.Contains(errorsOf(i), one.e) {
				t.Fatalf("%v: the function %d returns the error %d, and Check %d", a, i, one.e, of)
			}
			if i != readIs && first[sortedIs].e != api.OK && one.e != first[sortedIs].e {
				t.Fatalf("%v: the function %d returns the error %d, and Sorted %d", a, i, one.e, first[sortedIs].e)
			}
			if of == api.OK {
				returned[i][one.e]++
			}
		}
	}
	for i, many := range returned {
		enoughOf(t, many, 30, append(errorsOf(i), api.OK)...)
	}
	enoughOf(t, parts, 30, 0, 1, 2, 3)
}

// spoil overwrites a slice, and all that lies behind it in the same memory.
func spoil[T any](list []T, with T) {
	list = list[:cap(list)]
	for i := range list {
		list[i] = with
	}
}

// roomy are arguments of the example with room behind all slices.
func roomy() arguments {
	a := arguments{r: example(), p: ann(), day: 8500, drives: []api.RgDrive{drive(6550, b, 0)}, text: annText}
	a.p.Events = append(a.p.Events, pass(6000, am, 0, 30))
	a.p.Events, a.drives = slices.Grow(a.p.Events, 9), slices.Grow(a.drives, 9)
	a.r.Treaties, a.r.System.Classes = slices.Grow(a.r.Treaties, 9), slices.Grow(a.r.System.Classes, 9)
	return a
}

// TestResultsAreNewMemory checks P11.16: it overwrites results, and neither
// arguments nor further results change.
func TestResultsAreNewMemory(t *testing.T) {
	a := roomy()
	want := a.results()
	for i, one := range want {
		if one.e != api.OK || i != whyIs && i != pointsIs && reflect.ValueOf(one.value).IsZero() {
			t.Fatalf("the function %d returns %v, %d", i, one.value, one.e)
		}
	}
	for range 2 {
		for i, one := range a.results() {
			if !reflect.DeepEqual(one, want[i]) {
				t.Fatalf("the function %d returns %v, not %v", i, one, want[i])
			}
		}
		for _, one := range a.results() {
			switch value := one.value.(type) {
			case api.RgPerson:
				spoil(value.Events, offence(-99, -99))
			case []api.Span:
				spoil(value, api.Span{Lo: -99, Hi: -99})
			case []api.ClRight:
				spoil(value, right(-99, -99))
			case []api.RgWrong:
				spoil(value, api.RgWrong{Drive: -99, Why: -99})
			case []api.RgPair:
				spoil(value, api.RgPair{A: -99, B: -99})
			}
		}
		if is := roomy(); !reflect.DeepEqual(a, is) {
			t.Fatalf("a result shares the memory of an argument: %v, not %v", a, is)
		}
	}
	// Neither do results share memory with what lies behind the arguments.
	if events := a.p.Events[:cap(a.p.Events)]; slices.Contains(events, offence(-99, -99)) {
		t.Fatalf("a result shares the memory behind an argument: %v", events)
	}
}
