package stream_test

import (
	"math"
	"math/big"
	"slices"
	"testing"

	"lottery/api"
	"lottery/digest"
	"lottery/stream"
)

const increment = 0x9e3779b97f4a7c15

// source is a stream as the chapter defines it.
type source struct {
	state uint64
	used  int
}

func (s *source) next() uint64 {
	s.state += increment
	s.used++
	return digest.Mix(s.state)
}

func (s *source) below(n int) int {
	all := new(big.Int).Lsh(big.NewInt(1), 64)
	m := big.NewInt(int64(n))
	multiple := new(big.Int).Sub(all, new(big.Int).Mod(all, m))
	for {
		x := new(big.Int).SetUint64(s.next())
		if x.Cmp(multiple) < 0 {
			return int(x.Mod(x, m).Int64())
		}
	}
}

func (s *source) shuffle(n int) []int {
	list := numbers(n)
	for i := n - 1; i >= 1; i-- {
		j := s.below(i + 1)
		list[i], list[j] = list[j], list[i]
	}
	return list
}

func (s *source) sample(n, k int) []int {
	list := numbers(n)
	for i := 0; i <= k-1; i++ {
		j := i + s.below(n-i)
		list[i], list[j] = list[j], list[i]
	}
	return list[:k]
}

// numbers are the numbers 1 to n.
func numbers(n int) []int {
	list := make([]int, n)
	for i := range list {
		list[i] = i + 1
	}
	return list
}

// seeds are the bounds, the greatest one whose state stays below 2^64 with the first value, and others.
func seeds() []uint64 {
	list := []uint64{math.MaxUint64, 1 << 63, increment, ^uint64(increment), 1234567, 0xfedcba9876543210}
	for n := range uint64(50) {
		list = append(list, n, digest.Mix(n+1000))
	}
	return list
}

// before is the seed whose stream generates this value first.
func before(value uint64) uint64 {
	return digest.Unmix(value) - increment
}

// bounds are valid arguments of Below.
func bounds() []int {
	list := []int{1000, 4095, 4096, 4097, 65535, 65537, 1000000007, 1<<31 - 1, 1<<31 - 2, 1<<31 - 3, 1<<30 + 1, 3 << 29, 2000000000}
	for bit := range 32 {
		list = append(list, 1<<bit)
	}
	for n := 1; n <= 100; n++ {
		list = append(list, n)
	}
	return list
}

func testUsed(t *testing.T, what string, s *stream.Stream, want int) {
	t.Helper()
	if got := s.Used(); got != want {
		t.Errorf("%s: %d values generated, not %d", what, got, want)
	}
}

// testList tests a result, and that its elements are different numbers from 1 to n.
func testList(t *testing.T, what string, n int, got []int, err api.Errno, want []int) {
	t.Helper()
	if !slices.Equal(got, want) || err != api.OK {
		t.Errorf("%s: %v, %v, not %v", what, got, err, want)
	}
	sorted := slices.Sorted(slices.Values(got))
	for i, x := range sorted {
		if x < 1 || x > n || i > 0 && x == sorted[i-1] {
			t.Errorf("%s: %v", what, got)
		}
	}
}

// P9.1
func TestANewStreamHasGeneratedNothing(t *testing.T) {
	for _, seed := range seeds() {
		testUsed(t, "New", stream.New(seed), 0)
	}
}

// P9.1: these are known values of the generator splitmix64.
func TestNextIsTheOneOfSplitmix(t *testing.T) {
	known := map[uint64][]uint64{
		0:       {0xe220a8397b1dcdaf, 0x6e789e6aa1b965f4, 0x06c45d188009454f, 0xf88bb8a8724c81ec},
		1234567: {6457827717110365317, 3203168211198807973, 9817491932198370423, 4593380528125082431, 16408922859458223821},
	}
	for seed, values := range known {
		s := stream.New(seed)
		for i, want := range values {
			if got := s.Next(); got != want {
				t.Errorf("value %d from seed %d: %d, not %d", i+1, seed, got, want)
			}
			testUsed(t, "Next", s, i+1)
		}
	}
}

// P9.1
func TestNextMixesTheStateThatWasIncreased(t *testing.T) {
	for _, seed := range seeds() {
		s := stream.New(seed)
		for i := range 200 {
			want := digest.Mix(seed + increment*uint64(i+1))
			if got := s.Next(); got != want {
				t.Errorf("value %d from seed %d: %d, not %d", i+1, seed, got, want)
			}
			testUsed(t, "Next", s, i+1)
		}
	}
}

// P9.1
func TestUsedCountsTheValuesOfAllMethods(t *testing.T) {
	s, want := stream.New(5), &source{state: 5}
	for n := 1; n <= 60; n++ {
		s.Next()
		want.next()
		testUsed(t, "Next", s, want.used)
		s.Below(n)
		want.below(n)
		testUsed(t, "Below", s, want.used)
		s.Shuffle(n)
		want.shuffle(n)
		testUsed(t, "Shuffle", s, want.used)
		s.Sample(n, n/2)
		want.sample(n, n/2)
		testUsed(t, "Sample", s, want.used)
	}
	if got, want := s.Next(), want.next(); got != want {
		t.Errorf("the next value is %d, not %d", got, want)
	}
}

// P9.2
func TestBelowReturnsARemainder(t *testing.T) {
	for _, seed := range seeds() {
		s, want := stream.New(seed), &source{state: seed}
		for _, n := range bounds() {
			x := want.below(n)
			if got, err := s.Below(n); got != x || err != api.OK || got < 0 || got >= n {
				t.Errorf("Below(%d) from seed %d: %d, %v, not %d", n, seed, got, err, x)
			}
			testUsed(t, "Below", s, want.used)
		}
	}
}

// P9.2
func TestBelowReturnsKnownNumbers(t *testing.T) {
	s := stream.New(42)
	for i, want := range []int{3, 1, 8, 4, 0, 2, 5, 8, 5, 4, 7, 6} {
		if got, err := s.Below(10); got != want || err != api.OK {
			t.Errorf("Below(10), call %d: %d, %v, not %d", i+1, got, err, want)
		}
	}
}

// P9.2
func TestBelowOfOneGeneratesAValue(t *testing.T) {
	for _, seed := range seeds() {
		s := stream.New(seed)
		if got, err := s.Below(1); got != 0 || err != api.OK {
			t.Errorf("Below(1) from seed %d: %d, %v", seed, got, err)
		}
		testUsed(t, "Below(1)", s, 1)
	}
}

// P9.2
func TestBelowReturnsEachNumber(t *testing.T) {
	for n := 1; n <= 50; n++ {
		s := stream.New(uint64(n))
		counts := make([]int, n)
		for range 100 * n {
			x, _ := s.Below(n)
			counts[x]++
		}
		for x, count := range counts {
			if count < 50 || count > 200 {
				t.Errorf("Below(%d) is %d in %d of %d calls", n, x, count, 100*n)
			}
		}
	}
}

// P9.2: each value is tried as the first one of a stream.
func TestBelowUsesTheValuesBelowAMultiple(t *testing.T) {
	for _, n := range bounds() {
		rest := (math.MaxUint64%uint64(n) + 1) % uint64(n)
		for _, back := range []uint64{1, 2, 3, rest / 2, rest - 1, rest, rest + 1, rest + 2, uint64(n)} {
			if back == 0 || back > 1<<32 {
				continue
			}
			seed, used := before(-back), 1
			if back <= rest {
				used = 2
			}
			s, want := stream.New(seed), &source{state: seed}
			x := want.below(n)
			if got, err := s.Below(n); got != x || err != api.OK {
				t.Errorf("Below(%d) of the value 2^64 - %d: %d, %v, not %d", n, back, got, err, x)
			}
			testUsed(t, "Below", s, used)
		}
	}
}

// P9.2
func TestBelowRefusesOtherBounds(t *testing.T) {
	for _, n := range []int{0, -1, -2, -1 << 31, math.MinInt, 1<<31 + 1, 1 << 32, 1<<32 + 1, math.MaxInt} {
		s := stream.New(9)
		if got, err := s.Below(n); got != 0 || err != api.ErrRange {
			t.Errorf("Below(%d): %d, %v", n, got, err)
		}
		testUnchanged(t, "Below", s, 9)
	}
}

// testUnchanged tests that a stream with this seed has generated no value.
func testUnchanged(t *testing.T, what string, s *stream.Stream, seed uint64) {
	t.Helper()
	testUsed(t, what, s, 0)
	if got, want := s.Next(), digest.Mix(seed+increment); got != want {
		t.Errorf("%s: the first value is %d, not %d", what, got, want)
	}
}

// P9.3
func TestShuffleExchangesFromTheEnd(t *testing.T) {
	for _, seed := range seeds() {
		s, want := stream.New(seed), &source{state: seed}
		for n := range 60 {
			got, err := s.Shuffle(n)
			testList(t, "Shuffle", n, got, err, want.shuffle(n))
			testUsed(t, "Shuffle", s, want.used)
		}
	}
	for _, n := range []int{255, 256, 1000, 4095, 4096} {
		s, want := stream.New(11), &source{state: 11}
		got, err := s.Shuffle(n)
		testList(t, "Shuffle", n, got, err, want.shuffle(n))
		testUsed(t, "Shuffle", s, n-1)
	}
}

// P9.3
func TestShuffleReturnsKnownOrders(t *testing.T) {
	for _, c := range []struct {
		seed uint64
		want []int
	}{
		{0, []int{3, 4, 2, 5, 1}},
		{7, []int{5, 2, 4, 1, 3}},
		{1, []int{5, 3, 9, 2, 10, 4, 1, 7, 8, 6}},
		{math.MaxUint64, []int{4, 5, 3, 8, 6, 1, 9, 2, 10, 7}},
	} {
		got, err := stream.New(c.seed).Shuffle(len(c.want))
		testList(t, "Shuffle", len(c.want), got, err, c.want)
	}
}

// P9.3
func TestShuffleOfFewNumbersGeneratesFewValues(t *testing.T) {
	for n, want := range []int{0, 0, 1, 2, 3, 4} {
		s := stream.New(0)
		if list, err := s.Shuffle(n); len(list) != n || err != api.OK {
			t.Errorf("Shuffle(%d): %v, %v", n, list, err)
		}
		testUsed(t, "Shuffle", s, want)
	}
}

// P9.3
func TestShuffleSkipsAValueThatBelowDoesNotUse(t *testing.T) {
	s, want := stream.New(before(math.MaxUint64)), &source{state: before(math.MaxUint64)}
	got, err := s.Shuffle(5)
	testList(t, "Shuffle", 5, got, err, want.shuffle(5))
	testUsed(t, "Shuffle", s, 5)
}

// P9.3
func TestShuffleRefusesOtherNumbers(t *testing.T) {
	for _, n := range []int{-1, -2, math.MinInt, 4097, 1 << 31, math.MaxInt} {
		s := stream.New(9)
		if got, err := s.Shuffle(n); len(got) != 0 || err != api.ErrRange {
			t.Errorf("Shuffle(%d): %v, %v", n, got, err)
		}
		testUnchanged(t, "Shuffle", s, 9)
	}
}

// P9.4
func TestSampleExchangesFromTheBeginning(t *testing.T) {
	for _, seed := range []uint64{0, 1, 7, math.MaxUint64, 0xfedcba9876543210} {
		s, want := stream.New(seed), &source{state: seed}
		for n := range 40 {
			for k := range n + 1 {
				got, err := s.Sample(n, k)
				testList(t, "Sample", n, got, err, want.sample(n, k))
				testUsed(t, "Sample", s, want.used)
			}
		}
	}
	for _, k := range []int{0, 1, 2, 2048, 4095, 4096} {
		s, want := stream.New(11), &source{state: 11}
		got, err := s.Sample(4096, k)
		testList(t, "Sample", 4096, got, err, want.sample(4096, k))
		testUsed(t, "Sample", s, k)
	}
}

// P9.4
func TestSampleReturnsKnownNumbers(t *testing.T) {
	for _, c := range []struct {
		seed uint64
		n    int
		want []int
	}{
		{0, 49, []int{17, 38, 26, 40, 27, 32}},
		{7, 49, []int{10, 14, 46, 25, 39, 35}},
		{1, 5, []int{1, 5, 3, 2, 4}},
		{math.MaxUint64, 5, []int{2, 3, 4, 1, 5}},
		{3, 0, nil},
		{3, 1, []int{1}},
	} {
		got, err := stream.New(c.seed).Sample(c.n, len(c.want))
		testList(t, "Sample", c.n, got, err, c.want)
	}
}

// P9.4
func TestASampleOfFewerElementsIsAPrefix(t *testing.T) {
	for _, seed := range seeds() {
		for _, n := range []int{1, 2, 5, 49, 80} {
			whole, _ := stream.New(seed).Sample(n, n)
			for k := range n + 1 {
				got, err := stream.New(seed).Sample(n, k)
				testList(t, "Sample", n, got, err, whole[:k])
			}
		}
	}
}

// P9.4
func TestSampleSkipsAValueThatBelowDoesNotUse(t *testing.T) {
	s, want := stream.New(before(math.MaxUint64)), &source{state: before(math.MaxUint64)}
	got, err := s.Sample(49, 6)
	testList(t, "Sample", 49, got, err, want.sample(49, 6))
	testUsed(t, "Sample", s, 7)
}

// P9.4
func TestSampleRefusesOtherNumbers(t *testing.T) {
	for _, c := range [][2]int{
		{3, 4}, {0, 1}, {3, -1}, {-1, 0}, {-1, -1}, {-1, -2}, {4097, 0}, {4097, 1}, {4097, 4097}, {4096, 4097}, {4096, -1},
		{math.MinInt, 0}, {math.MaxInt, 0}, {math.MaxInt, math.MaxInt}, {math.MinInt, math.MinInt}, {3, math.MaxInt}, {3, math.MinInt},
	} {
		s := stream.New(9)
		if got, err := s.Sample(c[0], c[1]); len(got) != 0 || err != api.ErrRange {
			t.Errorf("Sample(%d, %d): %v, %v", c[0], c[1], got, err)
		}
		testUnchanged(t, "Sample", s, 9)
	}
}

// P9.3, P9.4
func TestListsAreNewMemory(t *testing.T) {
	s, want := stream.New(21), &source{state: 21}
	for range 10 {
		for _, k := range []int{0, 1, 6, 49} {
			list, err := s.Sample(49, k)
			testList(t, "Sample", 49, list, err, want.sample(49, k))
			spoil(list)
		}
		list, err := s.Shuffle(49)
		testList(t, "Shuffle", 49, list, err, want.shuffle(49))
		spoil(list)
	}
}

// spoil writes to a list and its spare capacity.
func spoil(list []int) {
	list = list[:cap(list)]
	for i := range list {
		list[i] = -7
	}
}

// calls makes a list of calls on a stream and returns all their results.
func calls(s *stream.Stream, step int) []int {
	list := []int{int(s.Next()), s.Used()}
	add := func(l []int, err api.Errno) {
		list = append(append(list, l...), int(err), s.Used())
	}
	for _, n := range []int{1, 10, 1 << 31, 0, -1} {
		x, err := s.Below(n + step)
		add([]int{x}, err)
	}
	for _, n := range []int{0, 5, 49, 4096, -1} {
		add(s.Shuffle(n + step%2))
		add(s.Sample(n+step%2, min(n, 6)))
	}
	return list
}

// P9.5
func TestStreamsWithOneSeedReturnTheSame(t *testing.T) {
	for _, seed := range seeds()[:20] {
		a, b := stream.New(seed), stream.New(seed)
		var of [2][]int
		for step := range 3 {
			of[0] = append(of[0], calls(a, step)...)
		}
		for step := range 3 {
			// A stream of the same seed in between is another stream.
			stream.New(seed).Next()
			of[1] = append(of[1], calls(b, step)...)
		}
		if !slices.Equal(of[0], of[1]) {
			t.Errorf("two streams with the seed %d return different results", seed)
		}
	}
}

// P9.5
func TestStreamsDoNotDependOnEachOther(t *testing.T) {
	a, b := stream.New(1), stream.New(2)
	wantA, wantB := &source{state: 1}, &source{state: 2}
	for n := 1; n <= 50; n++ {
		got, err := a.Shuffle(n)
		testList(t, "Shuffle", n, got, err, wantA.shuffle(n))
		got, err = b.Sample(n, n)
		testList(t, "Sample", n, got, err, wantB.sample(n, n))
	}
}

// P9.1 to P9.4
func TestNoStreamHasNoValues(t *testing.T) {
	var none *stream.Stream
	if got := none.Next(); got != 0 {
		t.Errorf("Next: %d", got)
	}
	for _, n := range []int{0, 1, 5, -1, 4097, 1 << 32} {
		if got, err := none.Below(n); got != 0 || err != api.ErrNone {
			t.Errorf("Below(%d): %d, %v", n, got, err)
		}
		if got, err := none.Shuffle(n); len(got) != 0 || err != api.ErrNone {
			t.Errorf("Shuffle(%d): %v, %v", n, got, err)
		}
		for _, k := range []int{0, 1, -1, 6} {
			if got, err := none.Sample(n, k); len(got) != 0 || err != api.ErrNone {
				t.Errorf("Sample(%d, %d): %v, %v", n, k, got, err)
			}
		}
	}
	testUsed(t, "no stream", none, 0)
}
