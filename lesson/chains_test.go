package lesson_test

import (
	"math"
	"math/bits"
	"math/rand"
	"reflect"
	"slices"
	"testing"

	"bitepoint/api"
	"bitepoint/lesson"
)

// eachPartition calls a function with all partitions of a day: for each lesson
// the one behind it, or the number of lessons if there is none. The best one of
// as many chains comes first.
func eachPartition(d api.LeDay, do func(behind []int)) {
	n := len(d.Lessons)
	behind, used := make([]int, n), make([]bool, n+1)
	var fill func(at int)
	fill = func(at int) {
		if at == n {
			do(behind)
			return
		}
		for b := range n + 1 {
			if b < n && (used[b] || !canFollow(d, at, b)) {
				continue
			}
			behind[at] = b
			used[b] = true
			fill(at + 1)
			used[b] = false
		}
	}
	fill(0)
}

// chainCount is how many chains a partition has.
func chainCount(behind []int) int {
	chains := 0
	for _, b := range behind {
		if b == len(behind) {
			chains++
		}
	}
	return chains
}

// bestPartition is the best one of all partitions of a day.
func bestPartition(d api.LeDay) [][]int {
	var best []int
	eachPartition(d, func(behind []int) {
		if best == nil || chainCount(behind) < chainCount(best) {
			best = slices.Clone(behind)
		}
	})
	var chains [][]int
	for first := range best {
		if slices.Contains(best, first) {
			continue
		}
		var chain []int
		for at := first; at < len(best); at = best[at] {
			chain = append(chain, at)
		}
		chains = append(chains, chain)
	}
	return chains
}

// isPartition is whether chains are a partition of a day.
func isPartition(d api.LeDay, chains [][]int) bool {
	seen := make([]bool, len(d.Lessons))
	for _, chain := range chains {
		for i, at := range chain {
			if seen[at] || i > 0 && !canFollow(d, chain[i-1], at) {
				return false
			}
			seen[at] = true
		}
		if len(chain) == 0 {
			return false
		}
	}
	return !slices.Contains(seen, false)
}

// members are the lessons of a set, ascending.
func members(set int) []int {
	var all []int
	for i := range 64 {
		if set>>i&1 == 1 {
			all = append(all, i)
		}
	}
	return all
}

// isCover is whether two sets of lessons are a cover, literally.
func isCover(d api.LeDay, before, behind int) bool {
	for a := range d.Lessons {
		for b := range d.Lessons {
			if canFollow(d, a, b) && before>>a&1 == 0 && behind>>b&1 == 0 {
				return false
			}
		}
	}
	return true
}

// bestCover is the best one of all covers of a day.
func bestCover(d api.LeDay) (before, behind int) {
	n := len(d.Lessons)
	before, behind = 1<<n-1, 1<<n-1
	size := func(a, b int) int { return bits.OnesCount(uint(a)) + bits.OnesCount(uint(b)) }
	for a := range 1 << n {
		for b := range 1 << n {
			if isCover(d, a, b) && size(a, b) < size(before, behind) {
				before, behind = a, b
			}
		}
	}
	return before, behind
}

// coverOf is Cover, which must not fail.
func coverOf(t *testing.T, d api.LeDay) (before, behind []int) {
	t.Helper()
	before, behind, e := lesson.Cover(d)
	if e != api.OK {
		t.Fatalf("Cover of %v = %v, %v, %d", d, before, behind, e)
	}
	return before, behind
}

// proves is Proves, which must not fail.
func proves(t *testing.T, d api.LeDay, before, behind []int) int {
	t.Helper()
	n, e := lesson.Proves(d, before, behind)
	if e != api.OK {
		t.Fatalf("Proves of %v, %v, %v = %d, %d", d, before, behind, n, e)
	}
	return n
}

// at is a day at one place with lessons from a minute to the next one.
func at(begins ...int) api.LeDay {
	d := api.LeDay{Minutes: [][]int{{0}}}
	for _, begin := range begins {
		d.Lessons = append(d.Lessons, taught(begin, begin+1, 0, 0))
	}
	return d
}

func TestChains(t *testing.T) {
	// The lesson 1 could be behind 0, but it is the only one that can be behind 3.
	greedy := api.LeDay{Minutes: table(2, 10), Lessons: []api.LeLesson{taught(0, 10, 0, 0), taught(20, 30, 0, 0), taught(20, 30, 1, 0), taught(0, 15, 0, 0)}}
	for i, c := range []struct {
		d    api.LeDay
		want [][]int
	}{
		{example(), [][]int{{0, 1, 3}, {2}}}, {at(), nil}, {at(7), [][]int{{0}}}, {at(3, 3, 3), [][]int{{0}, {1}, {2}}}, {at(3, 2, 1, 0), [][]int{{3, 2, 1, 0}}},
		{at(0, 1, 2, 3), [][]int{{0, 1, 2, 3}}}, {at(0, 0, 1, 1), [][]int{{0, 2}, {1, 3}}}, {at(1, 1, 0, 0), [][]int{{2, 0}, {3, 1}}}, {at(0, 2, 1, 1), [][]int{{0, 2, 1}, {3}}},
		{at(5, 0, 0, 5), [][]int{{1, 0}, {2, 3}}}, {greedy, [][]int{{0, 2}, {3, 1}}},
		{at(11, 10, 9, 8, 7, 6, 5, 4, 3, 2, 1, 0), [][]int{{11, 10, 9, 8, 7, 6, 5, 4, 3, 2, 1, 0}}}, {at(0, 0, 0, 1, 1, 1, 2, 2, 2, 3, 3, 3), [][]int{{0, 3, 6, 9}, {1, 4, 7, 10}, {2, 5, 8, 11}}},
	} {
		if chains, e := lesson.Chains(c.d); !reflect.DeepEqual(chains, c.want) || e != api.OK {
			t.Errorf("%d: Chains = %v, %d", i, chains, e)
		}
	}
}

// TestChainsOfAllPartitions compares with all partitions of small days.
func TestChainsOfAllPartitions(t *testing.T) {
	r := rand.New(rand.NewSource(44))
	several := 0
	for range 2000 {
		d := randomDay(r, r.Intn(8), 20+r.Intn(250))
		chains, want := chainsOf(t, d), bestPartition(d)
		if !reflect.DeepEqual(chains, want) {
			t.Fatalf("Chains of %v = %v, not %v", d, chains, want)
		}
		if len(chains) > 1 && len(chains) < len(d.Lessons)-1 {
			several++
		}
	}
	if several == 0 {
		t.Error("no day has some chains")
	}
}

// TestProofsOfChains looks at great days: Chains is a partition, and what Cover
// returns is a cover that proves that none has fewer chains.
func TestProofsOfChains(t *testing.T) {
	r := rand.New(rand.NewSource(45))
	for range 500 {
		d := randomDay(r, 8+r.Intn(5), 30+r.Intn(1000))
		chains := chainsOf(t, d)
		if !isPartition(d, chains) || !slices.IsSortedFunc(chains, func(a, b []int) int { return a[0] - b[0] }) {
			t.Fatalf("Chains of %v = %v", d, chains)
		}
		before, behind := coverOf(t, d)
		if n := proves(t, d, before, behind); n != len(chains) {
			t.Fatalf("Chains of %v = %v; Cover = %v, %v; Proves = %d", d, chains, before, behind, n)
		}
	}
}

func TestCover(t *testing.T) {
	for i, c := range []struct {
		d              api.LeDay
		before, behind []int
	}{
		{example(), nil, of(1, 3)}, {at(), nil, nil}, {at(1), nil, nil}, {at(1, 1, 1), nil, nil}, {at(0, 1), nil, of(1)}, {at(1, 0), nil, of(0)},
		{at(0, 1, 1), of(0), nil}, {at(1, 0, 1), of(1), nil}, {at(0, 0, 1), nil, of(2)}, {at(0, 0, 1, 1), nil, of(2, 3)}, {at(0, 1, 2), nil, of(1, 2)}, {at(0, 0, 1, 2, 2), nil, of(2, 3, 4)},
		{at(0, 1, 1, 1, 2, 2), of(0), of(4, 5)}, {at(0, 0, 1, 1, 1, 1, 1, 1), of(0, 1), nil}, {at(0, 1, 2, 3, 4, 5, 6, 7, 8, 9, 10, 11), nil, of(1, 2, 3, 4, 5, 6, 7, 8, 9, 10, 11)},
	} {
		if before, behind, e := lesson.Cover(c.d); !slices.Equal(before, c.before) || !slices.Equal(behind, c.behind) || e != api.OK {
			t.Errorf("%d: Cover = %v, %v, %d", i, before, behind, e)
		}
	}
}

// TestCoverOfAllCovers compares with all covers of small days: they prove no
// more chains than any partition has, and the best one as many as the best one.
func TestCoverOfAllCovers(t *testing.T) {
	r := rand.New(rand.NewSource(46))
	for range 300 {
		d := randomDay(r, r.Intn(6), 20+r.Intn(200))
		wantBefore, wantBehind := bestCover(d)
		before, behind := coverOf(t, d)
		if !slices.Equal(before, members(wantBefore)) || !slices.Equal(behind, members(wantBehind)) {
			t.Fatalf("Cover of %v = %v, %v, not %b, %b", d, before, behind, wantBefore, wantBehind)
		}
		least := len(d.Lessons)
		eachPartition(d, func(behind []int) { least = min(least, chainCount(behind)) })
		for a := range 1 << len(d.Lessons) {
			for b := range 1 << len(d.Lessons) {
				n, e := lesson.Proves(d, members(a), members(b))
				is := isCover(d, a, b)
				want := max(0, len(d.Lessons)-bits.OnesCount(uint(a))-bits.OnesCount(uint(b)))
				if is && (n != want || e != api.OK || n > least) || !is && (n != 0 || e != api.ErrArg) {
					t.Fatalf("Proves of %v, %b, %b = %d, %d; %d chains", d, a, b, n, e, least)
				}
			}
		}
		if n := proves(t, d, before, behind); n != least {
			t.Fatalf("Proves of %v, %v, %v = %d, not %d", d, before, behind, n, least)
		}
	}
}

func TestProves(t *testing.T) {
	for i, c := range []struct {
		before, behind []int
		want           int
		e              api.Errno
	}{
		{of(0), of(3), 2, api.OK}, {of(0, 1), nil, 0, api.ErrArg}, {nil, of(1, 3), 2, api.OK}, {of(0, 1, 2), nil, 1, api.OK}, {of(0, 1, 2, 3), nil, 0, api.OK}, {of(0, 1, 2, 3), of(0), 0, api.OK},
		{of(0, 1, 2, 3), of(0, 1, 2, 3), 0, api.OK}, {of(1, 2), of(1, 3), 0, api.OK}, {nil, of(1, 2, 3), 1, api.OK}, {nil, nil, 0, api.ErrArg}, {of(3), of(0, 1), 0, api.ErrArg}, {of(1, 2), of(3), 0, api.ErrArg},
		{of(4), nil, 0, api.ErrNone}, {nil, of(4), 0, api.ErrNone}, {of(-1), of(1, 3), 0, api.ErrNone}, {nil, of(1, 3, -1), 0, api.ErrNone}, {of(math.MaxInt), of(math.MinInt), 0, api.ErrNone}, {of(0, 1, 2, 64), nil, 0, api.ErrNone},
		{of(0, 0), of(3), 0, api.ErrTwice}, {of(0), of(3, 3), 0, api.ErrTwice}, {of(2, 1, 0), nil, 0, api.ErrTwice}, {nil, of(3, 1), 0, api.ErrTwice}, {of(0, 1, 2, 1), nil, 0, api.ErrTwice}, {of(1, 0), of(0, 1, 2, 3), 0, api.ErrTwice}, {make([]int, 100), nil, 0, api.ErrTwice},
		{of(1, 0), of(4), 0, api.ErrNone}, {of(0, 0), nil, 0, api.ErrTwice}, {nil, of(2, 2), 0, api.ErrTwice}, {of(2, 2, 4), of(3), 0, api.ErrNone},
	} {
		if n, e := lesson.Proves(example(), c.before, c.behind); n != c.want || e != c.e {
			t.Errorf("%d: Proves of %v, %v = %d, %d", i, c.before, c.behind, n, e)
		}
	}
	if n, e := lesson.Proves(at(), nil, nil); n != 0 || e != api.OK {
		t.Errorf("Proves of a day without lessons = %d, %d", n, e)
	}
	if n, e := lesson.Proves(at(), of(0), nil); n != 0 || e != api.ErrNone {
		t.Errorf("Proves of no lesson = %d, %d", n, e)
	}
	if n := proves(t, at(1, 1, 1), nil, nil); n != 3 {
		t.Errorf("Proves of lessons at the same time = %d", n)
	}
}
