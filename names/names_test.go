package names_test

import (
	"strings"
	"testing"

	"bitepoint/api"
	"bitepoint/names"
)

// cases are lists, and where their first error is.
var cases = []struct {
	list []string
	at   int
	e    api.Errno
}{
	{nil, 0, api.OK},
	{[]string{"a", "b", "a1"}, 0, api.OK},
	{[]string{"a", ""}, 1, api.ErrForm},
	{[]string{"1a", "a", "a"}, 0, api.ErrForm},
	{[]string{"a", "b", "A"}, 2, api.ErrForm},
	{[]string{"A", "A"}, 0, api.ErrForm},
	{[]string{"a", "b", "a", ""}, 2, api.ErrTwice},
	{[]string{"a", "a", "a"}, 1, api.ErrTwice},
	{[]string{strings.Repeat("a", 16)}, 0, api.OK},
	{[]string{strings.Repeat("a", 17)}, 0, api.ErrForm},
}

func TestFirstError(t *testing.T) {
	for _, c := range cases {
		if at, e := names.FirstError(c.list); at != c.at || e != c.e {
			t.Errorf("FirstError of %q = %d, %d", c.list, at, e)
		}
	}
}

func TestError(t *testing.T) {
	for _, c := range cases {
		var list []api.SkSkill
		for _, name := range c.list {
			list = append(list, api.SkSkill{Name: name})
		}
		for at := range list {
			if c.e != api.OK && at > c.at {
				break
			}
			want := api.OK
			if at == c.at {
				want = c.e
			}
			if e := names.Error(list, at, func(k api.SkSkill) string { return k.Name }); e != want {
				t.Errorf("Error of %q, %d = %d", c.list, at, e)
			}
		}
	}
}
