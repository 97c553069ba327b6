package street_test

import (
	"math"
	"math/rand"
	"reflect"
	"slices"
	"testing"

	"bitepoint/api"
	"bitepoint/street"
)

// exampleTable is the table of the document's examples: for home to home, tram,
// in the am.
func exampleTable() [][]int {
	return [][]int{{0, 1000, -1, -1}, {300, 1100, -1, -1}, {600, 600, -1, -1}, {-1, -1, -1, -1}}
}

// exampleTask is the task that it is for.
func exampleTask() api.StTask { return task(home, home, tram, am) }

// table is Table, which must not fail.
func table(t *testing.T, town api.StTown, k api.StTask) [][]int {
	t.Helper()
	all, e := street.Table(town, k)
	if e != api.OK {
		t.Fatalf("Table of %v, %v = %d", town, k, e)
	}
	return all
}

// proves is Proves, which must not fail.
func proves(t *testing.T, town api.StTown, k api.StTask, all [][]int) bool {
	t.Helper()
	is, e := street.Proves(town, k, all)
	if e != api.OK {
		t.Fatalf("Proves of %v, %v, %v = %d", town, k, all, e)
	}
	return is
}

// cloneTable is a copy of a table, without shared memory.
func cloneTable(all [][]int) [][]int {
	all = slices.Clone(all)
	for i := range all {
		all[i] = slices.Clone(all[i])
	}
	return all
}

// provesByTheDocument is whether a table proves the least metres, literally.
func provesByTheDocument(t api.StTown, k api.StTask, all [][]int) bool {
	for p := range t.Places {
		for set := range 1 << len(t.Shows) {
			if set|k.Show != k.Show {
				continue
			}
			for _, step := range stepsFrom(t, p, k.Closed) {
				_, q := ends(t, step)
				s := t.Streets[step.Street]
				next := all[q][set-set&s.Shows[k.Time]]
				if next != -1 && (all[p][set] == -1 || all[p][set] > next+s.Metres) {
					return false
				}
			}
		}
	}
	return all[k.To][0] == 0
}

func TestTable(t *testing.T) {
	if all, e := street.Table(example(), exampleTask()); !reflect.DeepEqual(all, exampleTable()) || e != api.OK {
		t.Errorf("Table = %v, %d", all, e)
	}
	for i, c := range []struct {
		k    api.StTask
		want [][]int
	}{
		{task(home, home, 0, am), [][]int{{0, -1, -1, -1}, {300, -1, -1, -1}, {600, -1, -1, -1}, {-1, -1, -1, -1}}},
		{task(depot, depot, bend, am), [][]int{{-1, -1, -1, -1}, {-1, -1, -1, -1}, {-1, -1, -1, -1}, {0, -1, -1, -1}}},
		{task(depot, home, bend, am), [][]int{{0, -1, 600, -1}, {300, -1, 300, -1}, {600, -1, 800, -1}, {-1, -1, -1, -1}}},
		{task(home, home, tram|bend, pm, 3), [][]int{{0, 1200, 600, 1200}, {300, 1300, 300, 1300}, {800, 800, 800, 800}, {-1, -1, -1, -1}}},
		{task(home, ring, 0, am, 0, 1, 2, 3), [][]int{{-1, -1, -1, -1}, {-1, -1, -1, -1}, {0, -1, -1, -1}, {-1, -1, -1, -1}}},
	} {
		if all := table(t, example(), c.k); !reflect.DeepEqual(all, c.want) {
			t.Errorf("%d: Table = %v", i, all)
		}
	}
	if all := table(t, plain(1, 0, 1, 0), task(0, 0, 0, 0)); !reflect.DeepEqual(all, [][]int{{0}}) {
		t.Errorf("Table of a place without streets = %v", all)
	}
}

func TestTableAndProvesOfWrongTasks(t *testing.T) {
	for i, c := range taskErrors {
		for _, town := range []api.StTown{example(), wrongTown()} {
			want := c.e
			if town.Shows[1] == "tram" {
				want = api.ErrTwice
			}
			if all, e := street.Table(town, c.k); e != want || all != nil {
				t.Errorf("%d: Table = %v, %d", i, all, e)
			}
			for _, all := range [][][]int{exampleTable(), nil} {
				if is, e := street.Proves(town, c.k, all); e != want || is {
					t.Errorf("%d: Proves = %t, %d", i, is, e)
				}
			}
		}
	}
}

func TestProves(t *testing.T) {
	for _, c := range []struct {
		what   string
		change func(all [][]int)
		want   bool
	}{
		{"the example", func(all [][]int) {}, true},
		{"less for the whole", func(all [][]int) { all[home][tram] = 999 }, true},
		{"more for the whole", func(all [][]int) { all[home][tram] = 1001 }, false},
		{"no way for the whole", func(all [][]int) { all[home][tram] = -1 }, false},
		{"less on the way", func(all [][]int) { all[ring][tram] = 599 }, false},
		{"less on the way, and before it", func(all [][]int) { all[ring][tram], all[hill][tram], all[home][tram] = 599, 1099, 999 }, true},
		{"nothing for the whole", func(all [][]int) { all[home][tram] = 0 }, false},
		{"something at the end", func(all [][]int) { all[home][0] = 1 }, false},
		{"no way at the end", func(all [][]int) { all[home][0] = -1 }, false},
		{"nothing at all", func(all [][]int) {
			for _, numbers := range all {
				clear(numbers)
			}
		}, true},
		{"a way where there is none", func(all [][]int) { all[depot][0], all[depot][tram] = 20000000, 5 }, true},
		{"sets that are not wanted", func(all [][]int) { all[home][bend], all[hill][bend], all[ring][tram|bend] = 7, 20000000, 0 }, true},
		{"no way all over, but at the end", func(all [][]int) { all[hill], all[ring] = []int{-1, -1, -1, -1}, []int{-1, -1, -1, -1} }, false},
	} {
		all := exampleTable()
		c.change(all)
		if is := proves(t, example(), exampleTask(), all); is != c.want {
			t.Errorf("%s: Proves = %t", c.what, is)
		}
	}
	// Streets that are closed, or not driven back, count for nothing.
	closed := exampleTask()
	closed.Closed = []int{3}
	if proves(t, example(), closed, [][]int{{0, -1, -1, -1}, {300, -1, -1, -1}, {800, -1, -1, -1}, {-1, -1, -1, -1}}) != true {
		t.Error("Proves = false, with street 3 closed")
	}
	if proves(t, example(), exampleTask(), [][]int{{0, -1, -1, -1}, {300, -1, -1, -1}, {800, -1, -1, -1}, {-1, -1, -1, -1}}) != false {
		t.Error("Proves = true, as if street 3 was closed")
	}
}

func TestProvesOfWrongTables(t *testing.T) {
	for _, c := range []struct {
		what   string
		change func(all *[][]int)
		e      api.Errno
	}{
		{"no table", func(all *[][]int) { *all = nil }, api.ErrLong},
		{"a list too few", func(all *[][]int) { *all = (*all)[:3] }, api.ErrLong},
		{"a list too many", func(all *[][]int) { *all = append(*all, []int{0, 0, 0, 0}) }, api.ErrLong},
		{"no number", func(all *[][]int) { (*all)[3] = nil }, api.ErrLong},
		{"a number too few", func(all *[][]int) { (*all)[0] = (*all)[0][:3] }, api.ErrLong},
		{"a number too many", func(all *[][]int) { (*all)[2] = append((*all)[2], 0) }, api.ErrLong},
		{"below -1", func(all *[][]int) { (*all)[3][0] = -2 }, api.ErrRange},
		{"above all metres", func(all *[][]int) { (*all)[0][1] = 20000001 }, api.ErrRange},
		{"all metres", func(all *[][]int) { (*all)[3][1] = 20000000 }, api.OK},
		{"far below", func(all *[][]int) { (*all)[1][0] = math.MinInt }, api.ErrRange},
		{"far above, for a set that is not wanted", func(all *[][]int) { (*all)[1][3] = math.MaxInt }, api.ErrRange},
		{"long before range", func(all *[][]int) { (*all)[0][0], (*all)[3] = -2, nil }, api.ErrLong},
		{"lists before range", func(all *[][]int) { (*all)[0][0], *all = -2, (*all)[:3] }, api.ErrLong},
	} {
		all := exampleTable()
		c.change(&all)
		if is, e := street.Proves(example(), exampleTask(), all); e != c.e || is != (c.e == api.OK) {
			t.Errorf("%s: Proves = %t, %d", c.what, is, e)
		}
	}
}

// TestTableAgainstTours checks P3.4 and P3.7: each number is that of the best
// tour, and the table proves the least metres.
func TestTableAgainstTours(t *testing.T) {
	r := rand.New(rand.NewSource(3))
	for range 300 {
		town := randomTown(r, 6, 3, 16, 6)
		k := randomTask(r, town)
		all := table(t, town, k)
		if len(all) != len(town.Places) || !proves(t, town, k, all) {
			t.Fatalf("%v, %v: Table = %v, which proves nothing", town, k, all)
		}
		if _, metres := find(t, town, k); all[k.From][k.Show] != metres {
			t.Fatalf("%v, %v: Table = %v, Find has %d metres", town, k, all, metres)
		}
		for place, numbers := range all {
			if len(numbers) != 1<<len(town.Shows) {
				t.Fatalf("%v, %v: Table = %v", town, k, all)
			}
			from := k
			from.From = place
			tours := bestTours(town, from)
			for set, n := range numbers {
				want := -1
				for at, tour := range tours {
					if at.place == k.To && set&^at.shown == 0 && (want == -1 || length(town, tour) < want) {
						want = length(town, tour)
					}
				}
				if n != want {
					t.Fatalf("%v, %v: Table = %v at %d, %d, not %d", town, k, n, place, set, want)
				}
			}
		}
	}
}

// changed is a table in which some numbers are other ones.
func changed(r *rand.Rand, all [][]int) [][]int {
	all = cloneTable(all)
	if r.Intn(3) == 0 {
		less := r.Intn(4)
		for _, numbers := range all {
			for set, n := range numbers {
				if n > 0 {
					numbers[set] = max(0, n-less)
				}
			}
		}
	}
	for range r.Intn(3) {
		numbers := all[r.Intn(len(all))]
		set := r.Intn(len(numbers))
		numbers[set] = max(-1, numbers[set]+r.Intn(7)-3)
	}
	return all
}

// TestProvesAgainstTheDocument checks P3.7: what Proves accepts is no more than
// the metres of the best tour.
func TestProvesAgainstTheDocument(t *testing.T) {
	r := rand.New(rand.NewSource(4))
	accepted, rejected := 0, 0
	for range 3000 {
		town := randomTown(r, 5, 2, 12, 4)
		k := randomTask(r, town)
		all := changed(r, table(t, town, k))
		is := proves(t, town, k, all)
		if is != provesByTheDocument(town, k, all) {
			t.Fatalf("%v, %v, %v: Proves = %t", town, k, all, is)
		}
		if !is {
			rejected++
			continue
		}
		accepted++
		claim := all[k.From][k.Show]
		if _, metres := find(t, town, k); metres != -1 && (claim == -1 || claim > metres) {
			t.Fatalf("%v, %v: Proves accepts %v, but there is a tour of %d metres", town, k, all, metres)
		}
	}
	if accepted < 500 || rejected < 500 {
		t.Errorf("%d tables accepted, %d not", accepted, rejected)
	}
}
