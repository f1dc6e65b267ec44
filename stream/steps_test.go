package stream

import (
	"math"
	"slices"
	"testing"

	"lottery/api"
)

// values returns a function that returns the values of a list, one after the other, and the number of values that it has returned.
func values(t *testing.T, list ...uint64) (func() uint64, *int) {
	used := 0
	return func() uint64 {
		if used == len(list) {
			t.Fatalf("a value was generated after %d values", used)
		}
		used++
		return list[used-1]
	}, &used
}

// unused returns so many values that Below of 3 does not use, and then others.
func unused(n int, then ...uint64) []uint64 {
	return append(slices.Repeat([]uint64{math.MaxUint64}, n), then...)
}

func testBelow(t *testing.T, n int, list []uint64, want int, wantErr api.Errno, wantUsed int) {
	t.Helper()
	next, used := values(t, list...)
	if got, err := below(n, next); got != want || err != wantErr || *used != wantUsed {
		t.Errorf("below(%d) of %d values: %d, %v, %d values used, not %d, %v, %d", n, len(list), got, err, *used, want, wantErr, wantUsed)
	}
}

// P9.2: no seed gives two values in a row that are not used, so that the values are made up here.
func TestBelowGeneratesAtMostSixtyFourValues(t *testing.T) {
	for n := range 64 {
		testBelow(t, 3, unused(n, 1, 2), 1, api.OK, n+1)
		testBelow(t, 3, unused(n, math.MaxUint64-1), 2, api.OK, n+1)
	}
	testBelow(t, 3, unused(64), 0, api.ErrBudget, 64)
	testBelow(t, 3, unused(64, 1), 0, api.ErrBudget, 64)
	testBelow(t, 3, unused(200), 0, api.ErrBudget, 64)
}

// P9.2
func TestBelowUsesTheFirstValueForEachPowerOfTwo(t *testing.T) {
	for bit := range 32 {
		for _, x := range []uint64{0, 1, 1 << 31, 1 << 63, math.MaxUint64 - 1, math.MaxUint64} {
			testBelow(t, 1<<bit, []uint64{x}, int(x&(1<<bit-1)), api.OK, 1)
		}
	}
}

// P9.2
func TestBelowOfAWrongBoundGeneratesNoValue(t *testing.T) {
	for _, n := range []int{0, -1, -3, -1 << 31, math.MinInt, 1<<31 + 1, 1 << 32, math.MaxInt} {
		testBelow(t, n, nil, 0, api.ErrRange, 0)
	}
}

// eachPicker visits a picker for each possible list of numbers that a function can pick, if it depends on these alone.
func eachPicker(visit func(pick picker)) {
	var picked, bounds []int
	for more := true; more; {
		at := 0
		visit(func(n int) (int, api.Errno) {
			if at == len(picked) {
				picked, bounds = append(picked, 0), append(bounds, n)
			}
			at++
			return picked[at-1], api.OK
		})
		for len(picked) > 0 && picked[len(picked)-1] == bounds[len(bounds)-1]-1 {
			picked, bounds = picked[:len(picked)-1], bounds[:len(bounds)-1]
		}
		if more = len(picked) > 0; more {
			picked[len(picked)-1]++
		}
	}
}

// orders returns how often each list comes out of draw, with each picker once, by its digits.
func orders(t *testing.T, draw func(pick picker) ([]int, api.Errno)) map[int]int {
	t.Helper()
	counts := map[int]int{}
	eachPicker(func(pick picker) {
		list, err := draw(pick)
		if err != api.OK {
			t.Errorf("error %v", err)
		}
		code := 0
		for _, x := range list {
			code = code*10 + x
		}
		counts[code]++
	})
	return counts
}

// testOrders tests that each of so many lists has come out once.
func testOrders(t *testing.T, what string, n, k int, counts map[int]int) {
	t.Helper()
	want := 1
	for i := range k {
		want *= n - i
	}
	if len(counts) != want {
		t.Errorf("%s: %d lists, not %d", what, len(counts), want)
	}
	for code, count := range counts {
		if count != 1 {
			t.Errorf("%s: %d comes out %d times", what, code, count)
		}
	}
}

// P9.3
func TestEachOrderIsShuffledByOneListOfPicks(t *testing.T) {
	for n := range 7 {
		counts := orders(t, func(pick picker) ([]int, api.Errno) { return shuffle(n, pick) })
		testOrders(t, "shuffle", n, n, counts)
	}
}

// P9.4
func TestEachSampleIsDrawnByOneListOfPicks(t *testing.T) {
	for n := range 7 {
		for k := range n {
			counts := orders(t, func(pick picker) ([]int, api.Errno) { return sample(n, k, pick) })
			testOrders(t, "sample", n, k, counts)
		}
	}
}

// bounded returns a picker that picks the lowest number, and the bounds that it was called with. It fails in call number last.
func bounded(last int, err api.Errno) (picker, *[]int) {
	var bounds []int
	return func(n int) (int, api.Errno) {
		bounds = append(bounds, n)
		if len(bounds) == last {
			return 0, err
		}
		return 0, api.OK
	}, &bounds
}

// P9.3
func TestShufflePicksFromFewerAndFewerNumbers(t *testing.T) {
	pick, bounds := bounded(0, api.OK)
	list, err := shuffle(5, pick)
	if want := []int{2, 3, 4, 5, 1}; !slices.Equal(list, want) || err != api.OK {
		t.Errorf("shuffle(5): %v, %v, not %v", list, err, want)
	}
	if want := []int{5, 4, 3, 2}; !slices.Equal(*bounds, want) {
		t.Errorf("shuffle(5) picks below %v, not %v", *bounds, want)
	}
}

// P9.4
func TestSamplePicksFromFewerAndFewerNumbers(t *testing.T) {
	pick, bounds := bounded(0, api.OK)
	list, err := sample(5, 5, pick)
	if want := []int{1, 2, 3, 4, 5}; !slices.Equal(list, want) || err != api.OK {
		t.Errorf("sample(5, 5): %v, %v, not %v", list, err, want)
	}
	if want := []int{5, 4, 3, 2, 1}; !slices.Equal(*bounds, want) {
		t.Errorf("sample(5, 5) picks below %v, not %v", *bounds, want)
	}
}

// P9.3, P9.4
func TestAnErrorOfBelowEndsAShuffleAndASample(t *testing.T) {
	draws := []func(pick picker) ([]int, api.Errno){
		func(pick picker) ([]int, api.Errno) { return shuffle(6, pick) },
		func(pick picker) ([]int, api.Errno) { return sample(6, 5, pick) },
	}
	for which, draw := range draws {
		for last := 1; last <= 5; last++ {
			pick, bounds := bounded(last, api.ErrBudget)
			if list, err := draw(pick); len(list) != 0 || err != api.ErrBudget || len(*bounds) != last {
				t.Errorf("draw %d with an error in pick %d: %v, %v after %d picks", which, last, list, err, len(*bounds))
			}
		}
	}
}
