// Package sets contains what the layers share for sets of indices: numbers
// whose bit i is 1 if i is in the set.
package sets

// Has reports whether an index is in a set.
func Has(set, index int) bool { return set>>index&1 == 1 }

// Of returns the set of some indices.
func Of(indices []int) int {
	set := 0
	for _, index := range indices {
		set |= 1 << index
	}
	return set
}

// Indices returns the indices that are in a set, ascending.
func Indices(set int) []int {
	var indices []int
	for index := 0; set>>index > 0; index++ {
		if Has(set, index) {
			indices = append(indices, index)
		}
	}
	return indices
}
