package comb_test

import (
	"math"
	"math/big"
	"math/bits"
	"math/rand"
	"slices"
	"testing"

	"lottery/api"
	"lottery/comb"
)

func integer(n int) *big.Int {
	return big.NewInt(int64(n))
}

func toInt(a api.Nat) *big.Int {
	n := new(big.Int)
	for _, limb := range slices.Backward(a.Limbs) {
		n.Add(n.Lsh(n, 32), new(big.Int).SetUint64(uint64(limb)))
	}
	return n
}

// binomial returns C(n, k) as package big computes it, and 0 for every k that is not from 0 to n.
func binomial(n, k int) *big.Int {
	if k < 0 || k > n {
		return new(big.Int)
	}
	return new(big.Int).Binomial(int64(n), int64(k))
}

// checked is what a function of this package returns for an exact integer.
func checked(exact *big.Int) (int, api.Errno) {
	if !exact.IsInt64() {
		return 0, api.ErrOverflow
	}
	return int(exact.Int64()), api.OK
}

// counts reports whether the number of combinations of n with length k is an int.
func counts(n, k int) bool {
	return binomial(n, k).IsInt64()
}

// outside are the integers that are not from 0 to the limit, as far as they are of interest.
func outside(limit int) []int {
	return []int{-1, -2, -limit - 1, math.MinInt, math.MinInt + 1, limit + 1, limit + 2, 2*limit + 2, 1 << 32, math.MaxInt - 1, math.MaxInt}
}

// numbers returns the list of the integers from first to last.
func numbers(first, last int) []int {
	var list []int
	for n := first; n <= last; n++ {
		list = append(list, n)
	}
	return list
}

// combinations returns all combinations of n with length k in lexicographic order: those of all sets of bits, sorted.
func combinations(n, k int) [][]int {
	var all [][]int
	for set := range uint(1) << n {
		if bits.OnesCount(set) != k {
			continue
		}
		var l []int
		for number := 1; number <= n; number++ {
			if set>>(number-1)&1 == 1 {
				l = append(l, number)
			}
		}
		all = append(all, l)
	}
	slices.SortFunc(all, slices.Compare)
	return all
}

// random returns a combination of n with length k.
func random(source *rand.Rand, n, k int) []int {
	l := make([]int, k)
	for i, number := range source.Perm(n)[:k] {
		l[i] = number + 1
	}
	slices.Sort(l)
	return l
}

// exactRank counts the combinations that are smaller than l by the first element at which they differ, and this element's value.
func exactRank(l []int, n int) *big.Int {
	rank, last := new(big.Int), 0
	for i, number := range l {
		for smaller := last + 1; smaller < number; smaller++ {
			rank.Add(rank, binomial(n-smaller, len(l)-i-1))
		}
		last = number
	}
	return rank
}

func testChoose(t *testing.T, n, k int, want *big.Int, wantErr api.Errno) {
	t.Helper()
	got, err := comb.Choose(n, k)
	if toInt(got).Cmp(want) != 0 || err != wantErr {
		t.Errorf("Choose(%d, %d): %x, %v, not %d, %v", n, k, got, err, want, wantErr)
	}
	if last := len(got.Limbs) - 1; last >= 0 && got.Limbs[last] == 0 {
		t.Errorf("Choose(%d, %d): %x is not valid", n, k, got)
	}
}

func testCount(t *testing.T, n, k, want int, wantErr api.Errno) {
	t.Helper()
	if got, err := comb.Count(n, k); got != want || err != wantErr {
		t.Errorf("Count(%d, %d): %d, %v, not %d, %v", n, k, got, err, want, wantErr)
	}
}

func testHits(t *testing.T, n, k, drawn, hits, want int, wantErr api.Errno) {
	t.Helper()
	if got, err := comb.Hits(n, k, drawn, hits); got != want || err != wantErr {
		t.Errorf("Hits(%d, %d, %d, %d): %d, %v, not %d, %v", n, k, drawn, hits, got, err, want, wantErr)
	}
}

func testRank(t *testing.T, l []int, n, want int, wantErr api.Errno) {
	t.Helper()
	if got, err := comb.Rank(l, n); got != want || err != wantErr {
		t.Errorf("Rank(%v, %d): %d, %v, not %d, %v", l, n, got, err, want, wantErr)
	}
}

func testUnrank(t *testing.T, r, n, k int, want []int, wantErr api.Errno) {
	t.Helper()
	if got, err := comb.Unrank(r, n, k); !slices.Equal(got, want) || err != wantErr {
		t.Errorf("Unrank(%d, %d, %d): %v, %v, not %v, %v", r, n, k, got, err, want, wantErr)
	}
}

func testNext(t *testing.T, l []int, n int, want []int, wantOK bool) {
	t.Helper()
	if got, ok := comb.Next(l, n); !slices.Equal(got, want) || ok != wantOK {
		t.Errorf("Next(%v, %d): %v, %t, not %v, %t", l, n, got, ok, want, wantOK)
	}
}

// P5.1
func TestChooseAndCountAreExact(t *testing.T) {
	for n := range api.MaxOf + 1 {
		for _, k := range append(numbers(-3, n+3), outside(n)...) {
			want, wantErr := checked(binomial(n, k))
			testChoose(t, n, k, binomial(n, k), api.OK)
			testCount(t, n, k, want, wantErr)
		}
	}
}

// P5.1
func TestCountOfKnownNumbers(t *testing.T) {
	for _, c := range []struct {
		n, k, want int
		err        api.Errno
	}{
		{49, 6, 13983816, api.OK}, {49, 43, 13983816, api.OK}, {0, 0, 1, api.OK}, {5, 0, 1, api.OK}, {5, 5, 1, api.OK}, {80, 80, 1, api.OK}, {80, 1, 80, api.OK},
		{5, 7, 0, api.OK}, {5, 6, 0, api.OK}, {5, -1, 0, api.OK}, {0, 1, 0, api.OK}, {0, -1, 0, api.OK}, {80, math.MinInt, 0, api.OK}, {80, math.MaxInt, 0, api.OK},
		// The greatest one that is an int, and the least one that is not, although it has only 64 bits.
		{74, 23, 8249183865278257824, api.OK}, {74, 51, 8249183865278257824, api.OK}, {71, 25, 0, api.ErrOverflow}, {71, 46, 0, api.ErrOverflow},
		{66, 33, 7219428434016265740, api.OK}, {67, 33, 0, api.ErrOverflow}, {80, 40, 0, api.ErrOverflow},
	} {
		testCount(t, c.n, c.k, c.want, c.err)
	}
	want, _ := new(big.Int).SetString("107507208733336176461620", 10)
	testChoose(t, 80, 40, want, api.OK)
}

// P5.1
func TestChooseAndCountNeedASetOfUpToMaxOf(t *testing.T) {
	for _, n := range outside(api.MaxOf) {
		for _, k := range append([]int{0, 1, 40, n}, outside(api.MaxOf)...) {
			testChoose(t, n, k, new(big.Int), api.ErrRange)
			testCount(t, n, k, 0, api.ErrRange)
		}
	}
}

// P5.2
func TestHitsCountsSubsets(t *testing.T) {
	for n := range 9 {
		for drawn := range n + 1 {
			var counted [10][10]int
			for set := range uint(1) << n {
				// Which numbers are drawn makes no difference: here they are the first ones.
				counted[bits.OnesCount(set)][bits.OnesCount(set&(1<<drawn-1))]++
			}
			for k := range 10 {
				for hits := range 10 {
					testHits(t, n, k, drawn, hits, counted[k][hits], api.OK)
				}
			}
		}
	}
}

// exactHits is the definition of Hits for numbers that are in range.
func exactHits(n, k, drawn, hits int) *big.Int {
	if k < 0 || k > n || hits < 0 || hits > drawn {
		return new(big.Int)
	}
	return new(big.Int).Mul(binomial(drawn, hits), binomial(n-drawn, k-hits))
}

// P5.2
func TestHitsIsTheExactProduct(t *testing.T) {
	for _, n := range []int{0, 1, 2, 13, 49, 66, 67, 71, 72, 79, 80} {
		for drawn := 0; drawn <= n; drawn += 1 + drawn%3 {
			for k := -1; k <= n+1; k += 1 + (k+3)%4 {
				for hits := -1; hits <= drawn+1; hits++ {
					want, wantErr := checked(exactHits(n, k, drawn, hits))
					testHits(t, n, k, drawn, hits, want, wantErr)
				}
			}
		}
	}
}

// P5.2
func TestHitsOfKnownNumbers(t *testing.T) {
	for _, c := range []struct {
		n, k, drawn, hits, want int
		err                     api.Errno
	}{
		{49, 6, 6, 3, 246820, api.OK}, {49, 6, 6, 6, 1, api.OK}, {49, 6, 6, 0, 6096454, api.OK}, {49, 6, 0, 0, 13983816, api.OK}, {49, 6, 49, 6, 13983816, api.OK}, {49, 0, 6, 0, 1, api.OK}, {0, 0, 0, 0, 1, api.OK},
		{49, 6, 6, 7, 0, api.OK}, {49, 6, 6, -1, 0, api.OK}, {49, 7, 6, 7, 0, api.OK}, {5, 9, 2, 1, 0, api.OK}, {5, -1, 2, 1, 0, api.OK}, {5, -1, 2, -1, 0, api.OK}, {5, 1, 2, 2, 0, api.OK}, {5, 5, 2, 1, 0, api.OK},
		{5, 3, 2, 3, 0, api.OK}, {5, 6, 5, 5, 0, api.OK}, {80, 40, 40, 41, 0, api.OK}, {80, 81, 80, 40, 0, api.OK},
		// Two products that are as great as ints can be, and a little greater.
		{72, 29, 28, 14, 9223272376788729600, api.OK}, {72, 43, 44, 29, 9223272376788729600, api.OK}, {71, 29, 30, 14, 0, api.ErrOverflow}, {71, 40, 41, 26, 0, api.ErrOverflow},
		// One factor is not an int, and then neither is their product.
		{80, 40, 0, 0, 0, api.ErrOverflow}, {80, 40, 80, 40, 0, api.ErrOverflow}, {80, 41, 79, 40, 0, api.ErrOverflow}, {80, 40, 1, 1, 0, api.ErrOverflow}, {80, 40, 40, 20, 0, api.ErrOverflow}, {67, 33, 67, 33, 0, api.ErrOverflow},
		// One factor is not an int, but the other one is 0.
		{80, 41, 80, 40, 0, api.OK}, {80, 39, 80, 40, 0, api.OK}, {80, 3, 78, 39, 0, api.OK}, {80, 80, 79, 40, 0, api.OK},
	} {
		testHits(t, c.n, c.k, c.drawn, c.hits, c.want, c.err)
	}
}

// P5.2
func TestHitsOfArgumentsThatAreOutOfRange(t *testing.T) {
	for _, drawn := range []int{0, 1, 6, 49} {
		for _, bad := range outside(49) {
			for _, other := range append([]int{0, 6, 49}, outside(49)...) {
				testHits(t, 49, bad, drawn, other, 0, api.OK)
				testHits(t, 49, other, drawn, bad, 0, api.OK)
				testHits(t, 49, other, bad, other, 0, api.ErrRange)
			}
		}
	}
	for _, bad := range outside(api.MaxOf) {
		for _, other := range append([]int{0, 1, 80, bad}, outside(api.MaxOf)...) {
			testHits(t, bad, 1, other, 1, 0, api.ErrRange)
			testHits(t, bad, other, 1, other, 0, api.ErrRange)
		}
	}
}

// P5.3, P5.4, P5.5
func TestCombinationsInLexicographicOrder(t *testing.T) {
	for n := range 11 {
		for k := range n + 1 {
			all := combinations(n, k)
			for r, l := range all {
				testRank(t, l, n, r, api.OK)
				testUnrank(t, r, n, k, l, api.OK)
				if r+1 < len(all) {
					testNext(t, l, n, all[r+1], true)
				} else {
					testNext(t, l, n, nil, false)
				}
			}
			for _, r := range append(outside(len(all)-1), len(all)) {
				testUnrank(t, r, n, k, nil, api.ErrRange)
			}
		}
	}
}

// P5.3, P5.4
func TestRanksOfManyNumbers(t *testing.T) {
	source := rand.New(rand.NewSource(1))
	for n := range api.MaxOf + 1 {
		for k := range n + 1 {
			l := random(source, n, k)
			if !counts(n, k) {
				testRank(t, l, n, 0, api.ErrOverflow)
				continue
			}
			r := int(exactRank(l, n).Int64())
			testRank(t, l, n, r, api.OK)
			testUnrank(t, r, n, k, l, api.OK)
		}
	}
}

// P5.3, P5.4
func TestFirstAndLastRank(t *testing.T) {
	for n := range api.MaxOf + 1 {
		for k := range n + 1 {
			if !counts(n, k) {
				continue
			}
			total := int(binomial(n, k).Int64())
			testRank(t, numbers(1, k), n, 0, api.OK)
			testRank(t, numbers(n-k+1, n), n, total-1, api.OK)
			testUnrank(t, 0, n, k, numbers(1, k), api.OK)
			testUnrank(t, total-1, n, k, numbers(n-k+1, n), api.OK)
			testUnrank(t, total, n, k, nil, api.ErrRange)
			testUnrank(t, -1, n, k, nil, api.ErrRange)
		}
	}
}

// P5.3
func TestRankNamesTheFirstError(t *testing.T) {
	long := numbers(1, 40)
	for _, c := range []struct {
		l    []int
		n    int
		want api.Errno
	}{
		{nil, 4, api.OK}, {[]int{}, 0, api.OK}, {nil, 80, api.OK},
		{[]int{0}, 4, api.ErrRange}, {[]int{5}, 4, api.ErrRange}, {[]int{-1}, 4, api.ErrRange}, {[]int{math.MinInt}, 4, api.ErrRange}, {[]int{math.MaxInt}, 4, api.ErrRange}, {[]int{1}, 0, api.ErrRange},
		{[]int{3, 2}, 4, api.ErrSyntax}, {[]int{1, 1}, 4, api.ErrSyntax}, {[]int{1, 2, 2}, 4, api.ErrSyntax}, {[]int{4, 1}, 4, api.ErrSyntax},
		{[]int{3, 9}, 4, api.ErrRange}, {[]int{9, 2}, 4, api.ErrRange}, {[]int{3, 0}, 4, api.ErrRange}, {[]int{3, -3}, 4, api.ErrRange},
		// The first wrong element counts.
		{[]int{3, 2, 9}, 4, api.ErrSyntax}, {[]int{3, 9, 2}, 4, api.ErrRange}, {[]int{2, 2, 0}, 4, api.ErrSyntax}, {[]int{1, 2, 3, 4, 5}, 4, api.ErrRange}, {[]int{1, 2, 3, 4, 4}, 4, api.ErrSyntax},
		{slices.Repeat([]int{1}, 1000), 4, api.ErrSyntax}, {numbers(1, 1000), 80, api.ErrRange},
		// There are too many combinations, which comes last.
		{long, 80, api.ErrOverflow}, {numbers(41, 80), 80, api.ErrOverflow}, {numbers(1, 33), 67, api.ErrOverflow},
		{append(slices.Clone(long[:39]), 39), 80, api.ErrSyntax}, {append(slices.Clone(long[:39]), 81), 80, api.ErrRange}, {append([]int{0}, long[:39]...), 80, api.ErrRange}, {append([]int{2}, long[:39]...), 80, api.ErrSyntax},
	} {
		testRank(t, c.l, c.n, 0, c.want)
	}
	for _, n := range outside(api.MaxOf) {
		for _, l := range [][]int{nil, {}, {1}, {3, 2}, {1, 1}, {-1}, long} {
			testRank(t, l, n, 0, api.ErrRange)
		}
	}
}

// P5.4
func TestUnrankNamesTheFirstError(t *testing.T) {
	for _, n := range outside(api.MaxOf) {
		for _, k := range []int{0, 1, n, -1, 40} {
			testUnrank(t, 0, n, k, nil, api.ErrRange)
			testUnrank(t, -1, n, k, nil, api.ErrRange)
		}
	}
	for _, n := range []int{0, 1, 4, 67, 80} {
		for _, k := range outside(n) {
			testUnrank(t, 0, n, k, nil, api.ErrRange)
		}
	}
	for _, r := range append([]int{0, 1, 6}, outside(api.MaxOf)...) {
		testUnrank(t, r, 80, 40, nil, api.ErrOverflow)
		testUnrank(t, r, 67, 33, nil, api.ErrOverflow)
		testUnrank(t, r, 71, 25, nil, api.ErrOverflow)
	}
	testUnrank(t, 6, 4, 2, nil, api.ErrRange)
	testUnrank(t, 1, 4, 0, nil, api.ErrRange)
	testUnrank(t, 0, 4, 0, nil, api.OK)
	testUnrank(t, 0, 0, 0, nil, api.OK)
}

// P5.5
func TestNextNeedsACombination(t *testing.T) {
	for _, n := range outside(api.MaxOf) {
		for _, l := range [][]int{nil, {}, {1}, {1, 2}, {-3}, numbers(1, 40)} {
			testNext(t, l, n, nil, false)
		}
	}
	for _, l := range [][]int{
		{0}, {5}, {-1}, {0, 1}, {-1, 2}, {1, 5}, {5, 1}, {1, 1}, {2, 1}, {2, 2}, {1, 2, 2}, {1, 3, 2}, {2, 1, 4}, {1, 2, 3, 4, 5}, {1, 2, 3, 4, 4}, {1, 1, 1, 1, 1, 1},
		{math.MinInt}, {math.MaxInt}, {1, math.MaxInt}, {math.MinInt, 2}, {math.MaxInt, math.MinInt},
	} {
		testNext(t, l, 4, nil, false)
	}
	testNext(t, []int{1}, 0, nil, false)
}

// P5.5
func TestNextOfManyNumbers(t *testing.T) {
	for _, c := range []struct {
		l    []int
		n    int
		want []int
	}{
		{[]int{1}, 80, []int{2}}, {[]int{79}, 80, []int{80}}, {[]int{80}, 80, nil},
		{[]int{1, 2, 3, 4, 5, 49}, 49, []int{1, 2, 3, 4, 6, 7}}, {[]int{1, 45, 46, 47, 48, 49}, 49, []int{2, 3, 4, 5, 6, 7}}, {[]int{44, 45, 46, 47, 48, 49}, 49, nil}, {[]int{43, 45, 46, 47, 48, 49}, 49, []int{44, 45, 46, 47, 48, 49}}, {[]int{7, 8, 12, 46, 48, 49}, 49, []int{7, 8, 12, 47, 48, 49}},
		{nil, 80, nil}, {numbers(1, 80), 80, nil}, {numbers(1, 79), 80, append(numbers(1, 78), 80)}, {append(numbers(1, 78), 80), 80, append(numbers(1, 77), 79, 80)},
		// These have no rank that is an int.
		{numbers(1, 40), 80, append(numbers(1, 39), 41)}, {append([]int{3}, numbers(42, 80)...), 80, numbers(4, 43)}, {numbers(41, 80), 80, nil},
	} {
		testNext(t, c.l, c.n, c.want, c.want != nil)
	}
}

// P5.6
func TestRankInvertsUnrank(t *testing.T) {
	source := rand.New(rand.NewSource(2))
	for n := range api.MaxOf + 1 {
		for k := range n + 1 {
			if !counts(n, k) {
				continue
			}
			r := source.Intn(int(binomial(n, k).Int64()))
			l, err := comb.Unrank(r, n, k)
			if len(l) != k || err != api.OK {
				t.Errorf("Unrank(%d, %d, %d): %v, %v", r, n, k, l, err)
			}
			testRank(t, l, n, r, api.OK)
		}
	}
}

// P5.6
func TestTheRankOfNextIsOneMore(t *testing.T) {
	source := rand.New(rand.NewSource(3))
	for n := range api.MaxOf + 1 {
		for k := 1; k <= n; k++ {
			l := random(source, n, k)
			next, ok := comb.Next(l, n)
			if last := slices.Equal(l, numbers(n-k+1, n)); ok == last {
				t.Errorf("Next(%v, %d): %v, %t", l, n, next, ok)
			}
			if !ok {
				continue
			}
			if difference := new(big.Int).Sub(exactRank(next, n), exactRank(l, n)); difference.Cmp(integer(1)) != 0 {
				t.Errorf("Next(%v, %d): %v, which comes %d places later", l, n, next, difference)
			}
			if counts(n, k) {
				rank, _ := comb.Rank(l, n)
				testRank(t, next, n, rank+1, api.OK)
			}
		}
	}
}

// P5.7
func TestIdentitiesOfCoefficients(t *testing.T) {
	choose := func(n, k int) *big.Int {
		count, err := comb.Choose(n, k)
		if err != api.OK {
			t.Errorf("Choose(%d, %d): %v", n, k, err)
		}
		return toInt(count)
	}
	for n := range api.MaxOf + 1 {
		for k := -2; k <= n+2; k++ {
			if choose(n, k).Cmp(choose(n, n-k)) != 0 {
				t.Errorf("C(%d, %d) is not C(%d, %d)", n, k, n, n-k)
			}
			if n > 0 && choose(n, k).Cmp(new(big.Int).Add(choose(n-1, k-1), choose(n-1, k))) != 0 {
				t.Errorf("C(%d, %d) is not the sum of the two above it", n, k)
			}
		}
	}
}

// P5.7
func TestHitsSumToTheCoefficient(t *testing.T) {
	for _, n := range []int{0, 1, 7, 49, 66} {
		for drawn := range n + 1 {
			for k := -1; k <= n+1; k++ {
				sum := 0
				for hits := range drawn + 1 {
					count, err := comb.Hits(n, k, drawn, hits)
					if err != api.OK {
						t.Errorf("Hits(%d, %d, %d, %d): %v", n, k, drawn, hits, err)
					}
					sum += count
				}
				testCount(t, n, k, sum, api.OK)
			}
		}
	}
}

// Rule R3
func TestArgumentsAreNeitherModifiedNorRetained(t *testing.T) {
	for _, l := range [][]int{{}, {1}, {4}, {1, 2}, {2, 4}, {3, 4}, {1, 3, 4}, {3, 2}, {9, 2}, {1, 2, 3, 4}} {
		memory := append(slices.Clone(l), 5, 6, 7, 8)
		argument := memory[:len(l)]
		rank, rankErr := comb.Rank(argument, 4)
		next, ok := comb.Next(argument, 4)
		want := slices.Clone(next)
		for i := range next[:cap(next)] {
			next[:cap(next)][i] = 99
		}
		if !slices.Equal(memory, append(slices.Clone(l), 5, 6, 7, 8)) {
			t.Errorf("the argument %v became %v", l, memory)
		}
		testRank(t, argument, 4, rank, rankErr)
		testNext(t, argument, 4, want, ok)
	}
}

// Rule R3
func TestResultsAreNewMemory(t *testing.T) {
	for range 2 {
		count, _ := comb.Choose(80, 40)
		want := slices.Clone(count.Limbs)
		clear(count.Limbs[:cap(count.Limbs)])
		if again, _ := comb.Choose(80, 40); !slices.Equal(again.Limbs, want) {
			t.Errorf("Choose(80, 40) is %x after %x", again.Limbs, want)
		}
		one, _ := comb.Choose(80, 0)
		clear(one.Limbs[:cap(one.Limbs)])
		testChoose(t, 80, 0, integer(1), api.OK)
		l, _ := comb.Unrank(3, 4, 2)
		clear(l[:cap(l)])
		testUnrank(t, 3, 4, 2, []int{2, 3}, api.OK)
	}
}
