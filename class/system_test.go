package class_test

import (
	"math/rand"
	"slices"
	"strings"
	"testing"

	"bitepoint/api"
	"bitepoint/class"
)

// newClass is a class without Needs, Age and Term.
func newClass(name string, includes ...int) api.ClClass {
	return api.ClClass{Name: name, Includes: includes, Needs: -1}
}

// example is S of the document's examples.
func example() api.ClSystem {
	return api.ClSystem{
		Classes: []api.ClClass{newClass("am"), newClass("b", 0), newClass("be", 1), newClass("c", 1)},
		Codes:   []string{"manual", "night"},
	}
}

// flat is a system with as many classes and codes, of which none includes another one.
func flat(classes, codes int) api.ClSystem {
	var s api.ClSystem
	for i := range classes {
		s.Classes = append(s.Classes, newClass("class"+string(rune('a'+i))))
	}
	for i := range codes {
		s.Codes = append(s.Codes, "code"+string(rune('a'+i)))
	}
	return s
}

// randomSystem is a system with at most as many classes and codes. A class
// includes only such ones as come before it in a shuffled order.
func randomSystem(r *rand.Rand, classes, codes int) api.ClSystem {
	s := flat(1+r.Intn(classes), r.Intn(codes+1))
	order := r.Perm(len(s.Classes))
	for i, c := range order {
		for _, other := range order[:i] {
			if r.Intn(3) == 0 {
				s.Classes[c].Includes = append(s.Classes[c].Includes, other)
			}
		}
	}
	return s
}

// coverTable tells which classes cover which, without the package: links are
// closed until no path of two adds another one.
func coverTable(s api.ClSystem) [][]bool {
	table := make([][]bool, len(s.Classes))
	for c := range s.Classes {
		table[c] = make([]bool, len(s.Classes))
		table[c][c] = true
		for _, other := range s.Classes[c].Includes {
			table[c][other] = true
		}
	}
	for k := range table {
		for i := range table {
			for j := range table {
				table[i][j] = table[i][j] || table[i][k] && table[k][j]
			}
		}
	}
	return table
}

func TestName(t *testing.T) {
	good := []string{"a", "z", "am", "c1e", "b96", "a0", "z9", strings.Repeat("q", 16)}
	bad := []string{"", "1", "1c", "A", "aB", "a-b", "a.b", "a b", " a", "a ", "a\n", "a\x00", "-", "ä", "aä", "a\xff", "\xff", "a/", "a:", "a`", "a{", "`", "{", strings.Repeat("q", 17), strings.Repeat("q", 100000)}
	for _, s := range good {
		if !class.Name(s) {
			t.Errorf("%q is a name", s)
		}
	}
	for _, s := range bad {
		if class.Name(s) {
			t.Errorf("%q is no name", s)
		}
	}
}

func TestNameOfEachByte(t *testing.T) {
	for b := range 256 {
		letter := b >= 'a' && b <= 'z'
		digit := b >= '0' && b <= '9'
		if s := string([]byte{byte(b)}); class.Name(s) != letter {
			t.Errorf("Name of %q = %t", s, !letter)
		}
		if s := string([]byte{'a', byte(b)}); class.Name(s) != (letter || digit) {
			t.Errorf("Name of %q = %t", s, !(letter || digit))
		}
	}
}

// checkCase is a change of the example, and what Check returns for it.
type checkCase struct {
	what     string
	change   func(s *api.ClSystem)
	part, at int
	e        api.Errno
}

func TestCheckOfNumbersOfClassesAndCodes(t *testing.T) {
	for _, c := range []struct {
		classes, codes int
		e              api.Errno
	}{{1, 0, api.OK}, {12, 8, api.OK}, {0, 0, api.ErrLong}, {0, 8, api.ErrLong}, {13, 0, api.ErrLong}, {1, 9, api.ErrLong}} {
		part, at, e := class.Check(flat(c.classes, c.codes))
		wantPart := 0
		if c.e != api.OK {
			wantPart = 1
		}
		if part != wantPart || at != 0 || e != c.e {
			t.Errorf("%d classes, %d codes: Check = %d, %d, %d", c.classes, c.codes, part, at, e)
		}
	}
}

func TestCheck(t *testing.T) {
	cases := []checkCase{
		{"the example", func(s *api.ClSystem) {}, 0, 0, api.OK},
		{"no name", func(s *api.ClSystem) { s.Classes[2].Name = "BE" }, 2, 2, api.ErrForm},
		{"empty name", func(s *api.ClSystem) { s.Classes[0].Name = "" }, 2, 0, api.ErrForm},
		{"same name", func(s *api.ClSystem) { s.Classes[3].Name = "am" }, 2, 3, api.ErrTwice},
		{"class named as a code", func(s *api.ClSystem) { s.Classes[3].Name = "night" }, 0, 0, api.OK},
		{"many includes", func(s *api.ClSystem) { s.Classes[3].Includes = []int{0, 0, 0, 0, 0} }, 2, 3, api.ErrLong},
		{"as many includes as classes", func(s *api.ClSystem) { s.Classes[3].Includes = []int{0, 0, 1, 1} }, 0, 0, api.OK},
		{"includes 4 of 4", func(s *api.ClSystem) { s.Classes[3].Includes = []int{0, 4} }, 2, 3, api.ErrNone},
		{"includes -1", func(s *api.ClSystem) { s.Classes[3].Includes = []int{-1} }, 2, 3, api.ErrNone},
		{"needs -2", func(s *api.ClSystem) { s.Classes[1].Needs = -2 }, 2, 1, api.ErrNone},
		{"needs 4 of 4", func(s *api.ClSystem) { s.Classes[1].Needs = 4 }, 2, 1, api.ErrNone},
		{"needs the first", func(s *api.ClSystem) { s.Classes[1].Needs = 0 }, 0, 0, api.OK},
		{"needs the last", func(s *api.ClSystem) { s.Classes[1].Needs = 3 }, 0, 0, api.OK},
		{"need each other", func(s *api.ClSystem) { s.Classes[0].Needs, s.Classes[1].Needs = 1, 0 }, 0, 0, api.OK},
		{"needs itself", func(s *api.ClSystem) { s.Classes[1].Needs = 1 }, 2, 1, api.ErrArg},
		{"first needs itself", func(s *api.ClSystem) { s.Classes[0].Needs = 0 }, 2, 0, api.ErrArg},
		{"age -1", func(s *api.ClSystem) { s.Classes[1].Age = -1 }, 2, 1, api.ErrRange},
		{"age 101", func(s *api.ClSystem) { s.Classes[1].Age = 101 }, 2, 1, api.ErrRange},
		{"term -1", func(s *api.ClSystem) { s.Classes[1].Term = -1 }, 2, 1, api.ErrRange},
		{"term 101", func(s *api.ClSystem) { s.Classes[1].Term = 101 }, 2, 1, api.ErrRange},
		{"age and term 100", func(s *api.ClSystem) { s.Classes[1].Age, s.Classes[1].Term = 100, 100 }, 0, 0, api.OK},
		{"code without a name", func(s *api.ClSystem) { s.Codes[1] = "1" }, 3, 1, api.ErrForm},
		{"same code", func(s *api.ClSystem) { s.Codes[1] = "manual" }, 3, 1, api.ErrTwice},
		{"no codes", func(s *api.ClSystem) { s.Codes = nil }, 0, 0, api.OK},
		{"includes itself", func(s *api.ClSystem) { s.Classes[2].Includes = []int{1, 2} }, 4, 2, api.ErrDown},
		{"include each other", func(s *api.ClSystem) { s.Classes[0].Includes = []int{1} }, 4, 0, api.ErrDown},
		{"circle of three", func(s *api.ClSystem) { s.Classes[0].Includes = []int{3} }, 4, 0, api.ErrDown},
		{"circle behind the first", func(s *api.ClSystem) { s.Classes[1].Includes = []int{0, 2} }, 4, 1, api.ErrDown},
		{"includes a circle", func(s *api.ClSystem) {
			s.Classes[0].Includes, s.Classes[1].Includes = []int{1}, []int{2, 3}
			s.Classes[2].Includes, s.Classes[3].Includes = []int{3}, []int{2}
		}, 4, 2, api.ErrDown},
		{"two ways to one class", func(s *api.ClSystem) { s.Classes[3].Includes = []int{2, 1, 0} }, 0, 0, api.OK},
	}
	checkAll(t, cases)
}

func TestCheckNamesTheFirstError(t *testing.T) {
	cases := []checkCase{
		{"1 before 2", func(s *api.ClSystem) { s.Codes, s.Classes[0].Name = make([]string, 9), "" }, 1, 0, api.ErrLong},
		{"form before twice and range", func(s *api.ClSystem) { s.Classes[0].Name, s.Classes[1].Name, s.Classes[1].Age = "b", "", -1 }, 2, 1, api.ErrForm},
		{"twice before long", func(s *api.ClSystem) { s.Classes[1].Name, s.Classes[1].Includes = "am", make([]int, 5) }, 2, 1, api.ErrTwice},
		{"long before none", func(s *api.ClSystem) { s.Classes[1].Includes = []int{9, 9, 9, 9, 9} }, 2, 1, api.ErrLong},
		{"none of includes before arg", func(s *api.ClSystem) { s.Classes[1].Includes, s.Classes[1].Needs = []int{0, 9}, 1 }, 2, 1, api.ErrNone},
		{"none of needs before range", func(s *api.ClSystem) { s.Classes[1].Needs, s.Classes[1].Age = 9, -1 }, 2, 1, api.ErrNone},
		{"arg before range", func(s *api.ClSystem) { s.Classes[1].Needs, s.Classes[1].Term = 1, -1 }, 2, 1, api.ErrArg},
		{"the first class", func(s *api.ClSystem) { s.Classes[1].Age, s.Classes[2].Name = -1, "" }, 2, 1, api.ErrRange},
		{"2 before 3", func(s *api.ClSystem) { s.Classes[3].Term, s.Codes[0] = -1, "" }, 2, 3, api.ErrRange},
		{"the first code", func(s *api.ClSystem) { s.Codes = []string{"a", "a", ""} }, 3, 1, api.ErrTwice},
		{"3 before 4", func(s *api.ClSystem) { s.Codes[1], s.Classes[0].Includes = "manual", []int{0} }, 3, 1, api.ErrTwice},
		{"2 before 4", func(s *api.ClSystem) { s.Classes[3].Age, s.Classes[0].Includes = -1, []int{0} }, 2, 3, api.ErrRange},
	}
	checkAll(t, cases)
}

// checkAll checks changes of the example, and that all functions return the
// error of the system first.
func checkAll(t *testing.T, cases []checkCase) {
	t.Helper()
	many := make([]api.ClRight, 41)
	for _, c := range cases {
		s := example()
		c.change(&s)
		part, at, e := class.Check(s)
		if part != c.part || at != c.at || e != c.e {
			t.Errorf("%s: Check = %d, %d, %d", c.what, part, at, e)
		}
		if c.e == api.OK {
			continue
		}
		covers, e1 := class.Covers(s, -1)
		may, e2 := class.May(s, many, -1, -1)
		least, e3 := class.Least(s, many)
		allows, e4 := class.Allows(s, many, many)
		both, e5 := class.Both(s, many, many)
		text, e6 := class.Write(s, many)
		rights, e7 := class.Read(s, strings.Repeat("a", 7001))
		if errors := []api.Errno{e1, e2, e3, e4, e5, e6, e7}; slices.ContainsFunc(errors, func(e api.Errno) bool { return e != c.e }) {
			t.Errorf("%s: errors %v", c.what, errors)
		}
		if covers != nil || may || least != nil || allows || both != nil || text != "" || rights != nil {
			t.Errorf("%s: results with an error", c.what)
		}
	}
}

func TestCovers(t *testing.T) {
	for c, want := range [][]int{{0}, {0, 1}, {0, 1, 2}, {0, 1, 3}} {
		if got, e := class.Covers(example(), c); !slices.Equal(got, want) || e != api.OK {
			t.Errorf("Covers of %d = %v, %d", c, got, e)
		}
	}
	for _, c := range []int{-1, 4, -1 << 63, 1<<63 - 1} {
		if got, e := class.Covers(example(), c); got != nil || e != api.ErrNone {
			t.Errorf("Covers of %d = %v, %d", c, got, e)
		}
	}
}

func TestCoversOfRandomSystems(t *testing.T) {
	r := rand.New(rand.NewSource(1))
	for range 300 {
		s := randomSystem(r, 12, 0)
		table := coverTable(s)
		for c := range s.Classes {
			var want []int
			for other, covered := range table[c] {
				if covered {
					want = append(want, other)
				}
			}
			if got, e := class.Covers(s, c); !slices.Equal(got, want) || e != api.OK {
				t.Fatalf("%v: Covers of %d = %v, %d, not %v", s, c, got, e, want)
			}
		}
	}
}

func TestCheckOfRandomIncludes(t *testing.T) {
	r := rand.New(rand.NewSource(2))
	for range 2000 {
		s := flat(1+r.Intn(6), 0)
		for range r.Intn(6) {
			c := &s.Classes[r.Intn(len(s.Classes))]
			if len(c.Includes) < len(s.Classes) {
				c.Includes = append(c.Includes, r.Intn(len(s.Classes)))
			}
		}
		table := coverTable(s)
		first := slices.IndexFunc(s.Classes, func(c api.ClClass) bool {
			at := slices.IndexFunc(s.Classes, func(other api.ClClass) bool { return other.Name == c.Name })
			return slices.ContainsFunc(c.Includes, func(other int) bool { return table[other][at] })
		})
		wantPart, wantAt, wantError := 4, first, api.ErrDown
		if first < 0 {
			wantPart, wantAt, wantError = 0, 0, api.OK
		}
		if part, at, e := class.Check(s); part != wantPart || at != wantAt || e != wantError {
			t.Fatalf("%v: Check = %d, %d, %d, not %d, %d, %d", s, part, at, e, wantPart, wantAt, wantError)
		}
	}
}
