package check_test

import (
	"math"
	"testing"

	"bitepoint/api"
	"bitepoint/check"
)

func TestWithin(t *testing.T) {
	for _, c := range []struct {
		lo, hi  int
		numbers []int
		want    bool
	}{
		{0, 3, nil, true}, {0, 3, []int{0, 3, 1}, true}, {0, 3, []int{4}, false}, {0, 3, []int{-1}, false}, {0, 3, []int{1, 4, 2}, false}, {0, 3, []int{1, 2, -1}, false},
		{0, -1, []int{0}, false}, {0, -1, nil, true}, {-300, 300, []int{-300, 300}, true}, {0, 3, []int{math.MinInt}, false}, {0, 3, []int{math.MaxInt}, false},
	} {
		if is := check.Within(c.lo, c.hi, c.numbers...); is != c.want {
			t.Errorf("Within of %d, %d, %v = %t", c.lo, c.hi, c.numbers, is)
		}
	}
}

func TestFirstError(t *testing.T) {
	errorOf := func(at int, e api.Errno) api.Errno {
		if at == 3 {
			return api.ErrTwice
		}
		return e
	}
	for _, c := range []struct {
		list []api.Errno
		at   int
		e    api.Errno
	}{
		{nil, 0, api.OK}, {[]api.Errno{0, 0, 0}, 0, api.OK}, {[]api.Errno{0, api.ErrForm, api.ErrArg}, 1, api.ErrForm},
		{[]api.Errno{api.ErrDown}, 0, api.ErrDown}, {[]api.Errno{0, 0, 0, api.ErrForm}, 3, api.ErrTwice},
	} {
		if at, e := check.FirstError(c.list, errorOf); at != c.at || e != c.e {
			t.Errorf("FirstError of %v = %d, %d", c.list, at, e)
		}
	}
}

func TestDemand(t *testing.T) {
	panics := func(holds bool) (does bool) {
		defer func() { does = recover() != nil }()
		check.Demand(holds)
		return false
	}
	if panics(true) || !panics(false) {
		t.Errorf("Demand panics with true: %t, with false: %t", panics(true), panics(false))
	}
}
