package sets_test

import (
	"slices"
	"testing"

	"bitepoint/sets"
)

// cases are sets, and what is in them.
var cases = []struct {
	set     int
	indices []int
}{
	{0, nil}, {1, []int{0}}, {2, []int{1}}, {3, []int{0, 1}}, {6, []int{1, 2}}, {9, []int{0, 3}}, {4095, []int{0, 1, 2, 3, 4, 5, 6, 7, 8, 9, 10, 11}},
	{1 << 40, []int{40}}, {1<<40 | 4, []int{2, 40}}, {1 << 62, []int{62}},
}

func TestSets(t *testing.T) {
	for _, c := range cases {
		if set := sets.Of(c.indices); set != c.set {
			t.Errorf("Of %v = %d", c.indices, set)
		}
		if indices := sets.Indices(c.set); !slices.Equal(indices, c.indices) {
			t.Errorf("Indices of %d = %v", c.set, indices)
		}
		for index := range 63 {
			if has := sets.Has(c.set, index); has != slices.Contains(c.indices, index) {
				t.Errorf("Has of %d, %d = %t", c.set, index, has)
			}
		}
	}
	if set := sets.Of([]int{2, 0, 2}); set != 5 {
		t.Errorf("Of indices in any order, some twice = %d", set)
	}
}
