package lot_test

import (
	"math"
	"math/big"
	"math/rand"
	"slices"
	"testing"

	"bitepoint/api"
	"bitepoint/lot"
)

// below is a number from 0 and below LoPrime: what is left of a number.
func below(x *big.Int) *big.Int { return x.Mod(x, big.NewInt(2147483647)) }

// promiseOf is the promise of a number, in numbers of any size.
func promiseOf(party, number int) int {
	x := big.NewInt(int64(party))
	x.Mul(x, big.NewInt(7)).Add(x, big.NewInt(int64(number))).Add(x, big.NewInt(1))
	for range 2 {
		x = below(x.Mul(x, x).Add(x, big.NewInt(12345)))
	}
	return int(x.Int64())
}

// promisesOf are the promises of all numbers.
func promisesOf(numbers []int) []int {
	promises := make([]int, len(numbers))
	for party, number := range numbers {
		promises[party] = promiseOf(party, number)
	}
	return promises
}

// lotOf is the lot of numbers, in numbers of any size.
func lotOf(numbers []int) int {
	x := big.NewInt(0)
	for _, number := range numbers {
		x = below(x.Mul(x, big.NewInt(1000003)).Add(x, big.NewInt(int64(number))).Add(x, big.NewInt(1)))
	}
	return int(x.Int64())
}

// randomNumber is a number of a party: also one at the ends.
func randomNumber(r *rand.Rand) int {
	return []int{0, 1, r.Intn(3), r.Intn(1000), r.Intn(1000000001), 999999999, 1000000000}[r.Intn(7)]
}

// randomNumbers are the numbers of all parties.
func randomNumbers(r *rand.Rand) []int {
	numbers := make([]int, 1+r.Intn(8))
	for party := range numbers {
		numbers[party] = randomNumber(r)
	}
	return numbers
}

// TestPromise checks what P8.1 says of Promise.
func TestPromise(t *testing.T) {
	for _, c := range []struct {
		party, number, want int
		e                   api.Errno
	}{
		{0, 0, 152436061, api.OK},
		{1, 0, 153995626, api.OK},
		{0, 7, 153995626, api.OK}, // the party 0 begins with 8, too
		{0, 1, 152510146, api.OK},
		{7, 0, promiseOf(7, 0), api.OK},
		{0, 1000000000, promiseOf(0, 1000000000), api.OK},
		{7, 1000000000, promiseOf(7, 1000000000), api.OK},
		{8, 0, 0, api.ErrRange},
		{-1, 0, 0, api.ErrRange},
		{0, -1, 0, api.ErrRange},
		{7, 1000000001, 0, api.ErrRange},
		{8, -1, 0, api.ErrRange},
		{math.MaxInt, 0, 0, api.ErrRange},
		{math.MinInt, 0, 0, api.ErrRange},
		{0, math.MaxInt, 0, api.ErrRange},
		{0, math.MinInt, 0, api.ErrRange},
		{0, 2147483647, 0, api.ErrRange},
	} {
		if is, e := lot.Promise(c.party, c.number); is != c.want || e != c.e {
			t.Errorf("Promise of %d and %d = %d, %d, not %d, %d", c.party, c.number, is, e, c.want, c.e)
		}
	}
	r := rand.New(rand.NewSource(811))
	for range 3000 {
		party, number := r.Intn(8), randomNumber(r)
		if is, e := lot.Promise(party, number); is != promiseOf(party, number) || e != api.OK {
			t.Fatalf("Promise of %d and %d = %d, %d, not %d", party, number, is, e, promiseOf(party, number))
		}
	}
}

// TestLot checks what P8.1 says of Lot.
func TestLot(t *testing.T) {
	most := slices.Repeat([]int{1000000000}, 8)
	for _, c := range []struct {
		numbers []int
		want    int
		e       api.Errno
	}{
		{[]int{0}, 1, api.OK},
		{[]int{1}, 2, api.OK},
		{[]int{1000000000}, 1000000001, api.OK},
		{[]int{0, 0}, 1000004, api.OK},
		{[]int{1, 2}, 2000009, api.OK},
		{[]int{2, 1}, 3000011, api.OK},
		// 2147 times 1000003 and 477206 is LoPrime.
		{[]int{2146, 477204}, 2147483646, api.OK},
		{[]int{2146, 477205}, 0, api.OK},
		{[]int{2146, 477206}, 1, api.OK},
		{most, lotOf(most), api.OK},
		{nil, 0, api.ErrLong},
		{[]int{}, 0, api.ErrLong},
		{make([]int, 9), 0, api.ErrLong},
		{slices.Repeat([]int{-1}, 9), 0, api.ErrLong},
		{[]int{-1}, 0, api.ErrRange},
		{[]int{0, 0, 1000000001}, 0, api.ErrRange},
		{[]int{math.MaxInt, 0}, 0, api.ErrRange},
		{[]int{0, math.MinInt, 0}, 0, api.ErrRange},
	} {
		if is, e := lot.Lot(c.numbers); is != c.want || e != c.e {
			t.Errorf("Lot of %v = %d, %d, not %d, %d", c.numbers, is, e, c.want, c.e)
		}
	}
	r := rand.New(rand.NewSource(812))
	for range 3000 {
		numbers := randomNumbers(r)
		if is, e := lot.Lot(numbers); is != lotOf(numbers) || e != api.OK {
			t.Fatalf("Lot of %v = %d, %d, not %d", numbers, is, e, lotOf(numbers))
		}
	}
}

// cheatCases are promises and numbers, their error, and who cheats.
var cheatCases = []struct {
	promises, numbers, want []int
	e                       api.Errno
}{
	{[]int{152436061, 153995626}, []int{0, 1}, []int{1}, api.OK},
	{[]int{152436061, 153995626}, []int{0, 0}, nil, api.OK},
	{[]int{153995626, 153995626}, []int{7, 0}, nil, api.OK},
	{[]int{153995626, 152436061}, []int{0, 0}, []int{0, 1}, api.OK},
	{[]int{152436061}, []int{0}, nil, api.OK},
	{[]int{0}, []int{0}, []int{0}, api.OK},
	{[]int{2147483646}, []int{0}, []int{0}, api.OK},
	{promisesOf(make([]int, 8)), make([]int, 8), nil, api.OK},
	{make([]int, 8), make([]int, 8), []int{0, 1, 2, 3, 4, 5, 6, 7}, api.OK},
	// Errors of numbers come before those of promises.
	{nil, nil, nil, api.ErrLong},
	{[]int{152436061}, nil, nil, api.ErrLong},
	{[]int{}, []int{}, nil, api.ErrLong},
	{make([]int, 9), make([]int, 9), nil, api.ErrLong},
	{[]int{-1}, slices.Repeat([]int{-1}, 9), nil, api.ErrLong},
	{nil, []int{0, -1}, nil, api.ErrRange},
	{[]int{0}, []int{0, 1000000001}, nil, api.ErrRange},
	{[]int{152436061}, []int{math.MinInt}, nil, api.ErrRange},
	{[]int{152436061}, []int{math.MaxInt}, nil, api.ErrRange},
	{nil, []int{0}, nil, api.ErrLong},
	{[]int{152436061, 0}, []int{0}, nil, api.ErrLong},
	{[]int{152436061}, []int{0, 0}, nil, api.ErrLong},
	{[]int{-1, 0}, []int{0}, nil, api.ErrLong},
	{[]int{-1}, []int{0}, nil, api.ErrRange},
	{[]int{2147483647}, []int{0}, nil, api.ErrRange},
	{[]int{152436061, 2147483647}, []int{0, 0}, nil, api.ErrRange},
	{[]int{152436061, math.MinInt}, []int{0, 0}, nil, api.ErrRange},
	{[]int{math.MaxInt, 0}, []int{0, 0}, nil, api.ErrRange},
}

// TestCheats checks what P8.1 says of Cheats.
func TestCheats(t *testing.T) {
	for i, c := range cheatCases {
		if is, e := lot.Cheats(c.promises, c.numbers); !slices.Equal(is, c.want) || e != c.e {
			t.Errorf("%d: Cheats = %v, %d, not %v, %d", i, is, e, c.want, c.e)
		}
	}
}

// TestAnyCheats checks what P8.8 says of Cheats: it names any party whose
// promise is not the one of its number, and no other one.
func TestAnyCheats(t *testing.T) {
	r := rand.New(rand.NewSource(88))
	for range 2000 {
		numbers := randomNumbers(r)
		promises := make([]int, len(numbers))
		var want []int
		for party, number := range numbers {
			promise, e := lot.Promise(party, number)
			if e != api.OK {
				t.Fatalf("Promise of %d and %d = %d", party, number, e)
			}
			promises[party] = promise
			if r.Intn(3) > 0 {
				continue
			}
			if r.Intn(2) == 0 {
				promises[party] = r.Intn(2147483647)
			} else {
				promises[party], _ = lot.Promise(r.Intn(8), randomNumber(r))
			}
			if promises[party] != promise {
				want = append(want, party)
			}
		}
		if is, e := lot.Cheats(promises, numbers); !slices.Equal(is, want) || e != api.OK {
			t.Fatalf("Cheats of %v, %v = %v, %d, not %v", promises, numbers, is, e, want)
		}
	}
}

// TestLastNumber checks P8.9: different numbers of one party give different
// lots, whatever the other numbers are.
func TestLastNumber(t *testing.T) {
	r := rand.New(rand.NewSource(89))
	for range 3000 {
		numbers := randomNumbers(r)
		party := r.Intn(len(numbers))
		numberOf := map[int]int{}
		for _, number := range []int{0, 1, 999999999, 1000000000, randomNumber(r), randomNumber(r), r.Intn(1000000001)} {
			numbers[party] = number
			is, e := lot.Lot(numbers)
			if e != api.OK {
				t.Fatalf("Lot of %v = %d, %d", numbers, is, e)
			}
			if other, there := numberOf[is]; there && other != number {
				t.Fatalf("%v: the lot is %d with %d and with %d of the party %d", numbers, is, other, number, party)
			}
			numberOf[is] = number
		}
	}
}
