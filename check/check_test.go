package check_test

import (
	"math"
	"testing"

	"bitepoint/api"
	"bitepoint/check"
)

func TestWithin(t *testing.T) {
	for _, c := range []struct {
		lo, hi  int
		numbers []int
		want    bool
	}{
		{0, 3, nil, true}, {0, 3, []int{0, 3, 1}, true}, {0, 3, []int{4}, false}, {0, 3, []int{-1}, false}, {0, 3, []int{1, 4, 2}, false}, {0, 3, []int{1, 2, -1}, false},
		{0, -1, []int{0}, false}, {0, -1, nil, true}, {-300, 300, []int{-300, 300}, true}, {0, 3, []int{math.MinInt}, false}, {0, 3, []int{math.MaxInt}, false},
	} {
		if is := check.Within(c.lo, c.hi, c.numbers...); is != c.want {
			t.Errorf("Within of %d, %d, %v = %t", c.lo, c.hi, c.numbers, is)
		}
	}
}

func TestFirstError(t *testing.T) {
	errorOf := func(at int, e api.Errno) api.Errno {
		if at == 3 {
			return api.ErrTwice
		}
		return e
	}
	for _, c := range []struct {
		list []api.Errno
		at   int
		e    api.Errno
	}{
		{nil, 0, api.OK}, {[]api.Errno{0, 0, 0}, 0, api.OK}, {[]api.Errno{0, api.ErrForm, api.ErrArg}, 1, api.ErrForm},
		{[]api.Errno{api.ErrDown}, 0, api.ErrDown}, {[]api.Errno{0, 0, 0, api.ErrForm}, 3, api.ErrTwice},
	} {
		if at, e := check.FirstError(c.list, errorOf); at != c.at || e != c.e {
			t.Errorf("FirstError of %v = %d, %d", c.list, at, e)
		}
	}
}

// panics reports whether a call panics.
func panics(call func()) bool { return panicOf(call) != nil }

// panicOf is what a call panics with, or nil.
func panicOf(call func()) (with any) {
	defer func() { with = recover() }()
	call()
	return nil
}

func TestNeed(t *testing.T) {
	for _, e := range []api.Errno{api.OK, api.ErrArg, api.ErrDown} {
		if with := panicOf(func() { check.Need(true, e) }); with != nil {
			t.Errorf("Need of true, %d panics with %v", e, with)
		}
		if with := panicOf(func() { check.Need(false, e) }); with != e {
			t.Errorf("Need of false, %d panics with %v", e, with)
		}
	}
}

func TestDemand(t *testing.T) {
	if with := panicOf(func() { check.Demand(true) }); with != nil {
		t.Errorf("Demand of true panics with %v", with)
	}
	if with := panicOf(func() { check.Demand(false) }); with != api.ErrForm {
		t.Errorf("Demand of false panics with %v", with)
	}
}

func TestNumber(t *testing.T) {
	for digits, want := range map[string]int{"0": 0, "7": 7, "10": 10, "240": 240, "-1": -1, "9223372036854775807": math.MaxInt, "-9223372036854775808": math.MinInt} {
		if n := check.Number(digits); n != want {
			t.Errorf("Number of %q = %d", digits, n)
		}
	}
	for _, digits := range []string{"", "-", "00", "07", "+7", "-0", "-07", " 7", "7 ", "7\n", "x", "7x", "0x7", "1_0", "1e2", "1.0", "٣", "9223372036854775808"} {
		if !panics(func() { check.Number(digits) }) {
			t.Errorf("Number of %q does not panic", digits)
		}
	}
}
