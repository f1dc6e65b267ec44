package money_test

import (
	"fmt"
	"math"
	"math/big"
	"math/rand"
	"slices"
	"strings"
	"testing"

	"lottery/api"
	"lottery/money"
)

// amounts are the bounds, the amounts at which texts change their length, and some others of every length, always the same ones.
func amounts() []int {
	list := []int{0, 2, 3, 5, 7, 34, 999, 1234, api.MaxMoney, api.MaxMoney - 1, api.MaxMoney / 2, api.MaxMoney/2 + 1, api.MaxMoney / 3}
	for power := 1; power < api.MaxMoney; power *= 10 {
		list = append(list, power, power-1, power+1)
	}
	random := rand.New(rand.NewSource(2))
	for length := 2; length < 40; length += 3 {
		list = append(list, random.Intn(1<<length))
	}
	return list
}

func notAmounts() []int {
	return []int{-1, -100, api.MaxMoney + 1, -api.MaxMoney, 2 * api.MaxMoney, math.MaxInt, math.MinInt, 1 << 62, -1 << 62}
}

func integer(n int) *big.Int {
	return big.NewInt(int64(n))
}

// quotient returns a * b / c, rounded down, and the remainder.
func quotient(a, b, c int) (int, int) {
	q, r := new(big.Int), new(big.Int)
	q.QuoRem(q.Mul(integer(a), integer(b)), integer(c), r)
	return int(q.Int64()), int(r.Int64())
}

// P2.1
func TestValidIsTheRangeOfAmounts(t *testing.T) {
	for _, m := range amounts() {
		if !money.Valid(m) {
			t.Errorf("Valid(%d) is false", m)
		}
	}
	for _, m := range notAmounts() {
		if money.Valid(m) {
			t.Errorf("Valid(%d) is true", m)
		}
	}
}

// P2.1
func TestSumAddsAmounts(t *testing.T) {
	for _, c := range []struct {
		list []int
		want int
		err  api.Errno
	}{
		{nil, 0, api.OK},
		{[]int{}, 0, api.OK},
		{[]int{0}, 0, api.OK},
		{[]int{7}, 7, api.OK},
		{[]int{1, 2, 3, 4}, 10, api.OK},
		{[]int{5, 5, 5}, 15, api.OK},
		{[]int{api.MaxMoney}, api.MaxMoney, api.OK},
		{[]int{api.MaxMoney, 0, 0}, api.MaxMoney, api.OK},
		{[]int{1, api.MaxMoney - 1}, api.MaxMoney, api.OK},
		{[]int{api.MaxMoney, 1}, 0, api.ErrOverflow},
		{[]int{1, api.MaxMoney}, 0, api.ErrOverflow},
		{[]int{api.MaxMoney, api.MaxMoney}, 0, api.ErrOverflow},
		{[]int{api.MaxMoney / 2, api.MaxMoney / 2, 1, 0}, 0, api.ErrOverflow},
		{[]int{-1}, 0, api.ErrRange},
		{[]int{api.MaxMoney + 1}, 0, api.ErrRange},
		{[]int{1, -1}, 0, api.ErrRange},
		{[]int{-1, 1}, 0, api.ErrRange},
		{[]int{api.MaxMoney, 1, -1}, 0, api.ErrRange},
		{[]int{api.MaxMoney, 1, 0, api.MaxMoney + 1}, 0, api.ErrRange},
		{[]int{math.MaxInt, math.MaxInt}, 0, api.ErrRange},
		{[]int{0, math.MinInt, 0}, 0, api.ErrRange},
	} {
		if got, err := money.Sum(c.list); got != c.want || err != c.err {
			t.Errorf("Sum(%v): %d, %v, not %d, %v", c.list, got, err, c.want, c.err)
		}
	}
}

// P2.1: the sum of these amounts is not even an int.
func TestSumOfManyAmountsDoesNotWrapAround(t *testing.T) {
	list := make([]int, math.MaxInt/api.MaxMoney+100)
	for i := range list {
		list[i] = api.MaxMoney
	}
	if got, err := money.Sum(list); got != 0 || err != api.ErrOverflow {
		t.Errorf("Sum of %d times the greatest amount: %d, %v", len(list), got, err)
	}
	list[len(list)-1] = -1
	if got, err := money.Sum(list); got != 0 || err != api.ErrRange {
		t.Errorf("Sum with -1 at the end: %d, %v", got, err)
	}
}

// P2.2
func TestPartIsRoundedDown(t *testing.T) {
	for _, m := range amounts() {
		for _, bp := range []int{0, 1, 3, 333, 1000, 4999, 5000, 5001, 9999, api.Whole} {
			want, _ := quotient(m, bp, api.Whole)
			if got, err := money.Part(m, bp); got != want || err != api.OK {
				t.Errorf("Part(%d, %d): %d, %v, not %d", m, bp, got, err, want)
			}
		}
	}
	for _, c := range [][3]int{{999, 1000, 99}, {1, 9999, 0}, {10000, 1, 1}, {9999, 1, 0}, {api.MaxMoney, api.Whole, api.MaxMoney}, {api.MaxMoney, 0, 0}, {0, 0, 0}} {
		if got, err := money.Part(c[0], c[1]); got != c[2] || err != api.OK {
			t.Errorf("Part(%d, %d): %d, %v, not %d", c[0], c[1], got, err, c[2])
		}
	}
}

// P2.2
func TestRoundIsTheGreatestMultiple(t *testing.T) {
	for _, m := range amounts() {
		for _, unit := range amounts() {
			if unit == 0 {
				continue
			}
			q, want := quotient(m, 1, unit)
			if got, rest, err := money.Round(m, unit); got != q*unit || rest != want || err != api.OK {
				t.Errorf("Round(%d, %d): %d, %d, %v, not %d, %d", m, unit, got, rest, err, q*unit, want)
			}
		}
	}
	for _, c := range [][4]int{{1234, 100, 1200, 34}, {1200, 100, 1200, 0}, {99, 100, 0, 99}, {7, 1, 7, 0}, {0, 1, 0, 0}, {api.MaxMoney, api.MaxMoney, api.MaxMoney, 0}, {api.MaxMoney - 1, api.MaxMoney, 0, api.MaxMoney - 1}} {
		if got, rest, err := money.Round(c[0], c[1]); got != c[2] || rest != c[3] || err != api.OK {
			t.Errorf("Round(%d, %d): %d, %d, %v, not %d, %d", c[0], c[1], got, rest, err, c[2], c[3])
		}
	}
}

// P2.2
func TestEvenIsTheQuotientAndTheRemainder(t *testing.T) {
	for _, m := range amounts() {
		for _, n := range append(amounts(), api.MaxMoney+1, 1<<62, math.MaxInt) {
			if n == 0 {
				continue
			}
			want, wantRest := quotient(m, 1, n)
			if got, rest, err := money.Even(m, n); got != want || rest != wantRest || err != api.OK {
				t.Errorf("Even(%d, %d): %d, %d, %v, not %d, %d", m, n, got, rest, err, want, wantRest)
			}
		}
	}
	for _, c := range [][4]int{{1000, 3, 333, 1}, {1000, 1, 1000, 0}, {0, 5, 0, 0}, {7, 7, 1, 0}, {7, 1 << 62, 0, 7}, {api.MaxMoney, math.MaxInt, 0, api.MaxMoney}} {
		if got, rest, err := money.Even(c[0], c[1]); got != c[2] || rest != c[3] || err != api.OK {
			t.Errorf("Even(%d, %d): %d, %d, %v, not %d, %d", c[0], c[1], got, rest, err, c[2], c[3])
		}
	}
}

// P2.2
func TestPartRoundAndEvenRefuseNumbersOutOfRange(t *testing.T) {
	one := func(f func(m, n int) (int, api.Errno)) func(m, n int) (int, int, api.Errno) {
		return func(m, n int) (int, int, api.Errno) {
			got, err := f(m, n)
			return got, 0, err
		}
	}
	for _, c := range []struct {
		name    string
		call    func(m, n int) (int, int, api.Errno)
		refused []int
	}{
		{"Part", one(money.Part), []int{-1, math.MinInt, api.Whole + 1, api.MaxMoney, math.MaxInt}},
		{"Round", money.Round, []int{0, -1, -100, math.MinInt, api.MaxMoney + 1, math.MaxInt}},
		{"Even", money.Even, []int{0, -1, -100, math.MinInt}},
	} {
		refuse := func(m, n int) {
			if got, rest, err := c.call(m, n); got != 0 || rest != 0 || err != api.ErrRange {
				t.Errorf("%s(%d, %d): %d, %d, %v", c.name, m, n, got, rest, err)
			}
		}
		for _, n := range c.refused {
			for _, m := range append(amounts(), notAmounts()...) {
				refuse(m, n)
			}
		}
		for _, m := range notAmounts() {
			refuse(m, 1)
			refuse(m, 100)
		}
	}
}

// split is Split by its definition in P2.3, for valid arguments.
func split(m int, weights []int) []int {
	total := 0
	for _, w := range weights {
		total += w
	}
	parts := make([]int, len(weights))
	rests := make([]int, len(weights))
	order := make([]int, len(weights))
	left := m
	for i, w := range weights {
		order[i] = i
		parts[i], rests[i] = quotient(m, w, total)
		left -= parts[i]
	}
	slices.SortStableFunc(order, func(i, j int) int { return rests[j] - rests[i] })
	for _, i := range order[:left] {
		parts[i]++
	}
	return parts
}

// eachSplit calls visit for all amounts up to 12 and up to 4 small weights, and for others of every size and number, always the same ones.
func eachSplit(visit func(m int, weights []int)) {
	for m := range 13 {
		for code := range 5 * 5 * 5 * 5 {
			weights := []int{code % 5, code / 5 % 5, code / 25 % 5, code / 125}
			for n := 1; n <= len(weights); n++ {
				if slices.Max(weights[:n]) > 0 {
					visit(m, weights[:n])
				}
			}
		}
	}
	random := rand.New(rand.NewSource(3))
	for range 4000 {
		m := random.Intn(1 + api.MaxMoney>>random.Intn(41))
		most := 1 + api.MaxMoney>>random.Intn(41)
		weights := make([]int, 1+random.Intn(64))
		for i := range weights {
			weights[i] = random.Intn(most)
		}
		if slices.Max(weights) > 0 {
			visit(m, weights)
		}
	}
}

// P2.3
func TestSplitFollowsItsDefinition(t *testing.T) {
	visited := 0
	eachSplit(func(m int, weights []int) {
		visited++
		if got, err := money.Split(m, weights); !slices.Equal(got, split(m, weights)) || err != api.OK {
			t.Errorf("Split(%d, %v): %v, %v, not %v", m, weights, got, err, split(m, weights))
		}
	})
	if visited < 10000 {
		t.Errorf("%d splits only", visited)
	}
}

// P2.3
func TestSplitGivesUnitsToTheGreatestRemainders(t *testing.T) {
	for _, c := range []struct {
		m             int
		weights, want []int
	}{
		{100, []int{1, 1, 1}, []int{34, 33, 33}},
		{101, []int{1, 1, 1}, []int{34, 34, 33}},
		{10, []int{1, 2, 4}, []int{1, 3, 6}},
		{10, []int{4, 2, 1}, []int{6, 3, 1}},
		{1, []int{1, 2}, []int{0, 1}},
		{1, []int{2, 1}, []int{1, 0}},
		{1, []int{0, 0, 3, 3}, []int{0, 0, 1, 0}},
		{5, []int{0, 1, 0}, []int{0, 5, 0}},
		{0, []int{3, 4}, []int{0, 0}},
		{7, []int{9}, []int{7}},
		{3, []int{1, 1, 1, 1, 1}, []int{1, 1, 1, 0, 0}},
		{api.MaxMoney, []int{api.MaxMoney, api.MaxMoney}, []int{api.MaxMoney / 2, api.MaxMoney / 2}},
		{api.MaxMoney, []int{api.MaxMoney, api.MaxMoney, api.MaxMoney}, []int{api.MaxMoney/3 + 1, api.MaxMoney / 3, api.MaxMoney / 3}},
		{api.MaxMoney, []int{1, api.MaxMoney}, []int{1, api.MaxMoney - 1}},
	} {
		if got, err := money.Split(c.m, c.weights); !slices.Equal(got, c.want) || err != api.OK {
			t.Errorf("Split(%d, %v): %v, %v, not %v", c.m, c.weights, got, err, c.want)
		}
	}
}

// P2.3
func TestSplitTakesUpTo64Weights(t *testing.T) {
	for n := 1; n <= 64; n++ {
		for _, weight := range []int{1, api.MaxMoney} {
			weights := slices.Repeat([]int{weight}, n)
			if got, err := money.Split(63, weights); !slices.Equal(got, split(63, weights)) || err != api.OK {
				t.Errorf("Split of 63 by %d times %d: %v, %v", n, weight, got, err)
			}
		}
	}
}

// P2.3
func TestSplitNamesTheFirstError(t *testing.T) {
	tooMany := make([]int, 65)
	for _, c := range []struct {
		m       int
		weights []int
		err     api.Errno
	}{
		{-1, nil, api.ErrRange},
		{-1, []int{1}, api.ErrRange},
		{-1, tooMany, api.ErrRange},
		{-1, []int{0}, api.ErrRange},
		{api.MaxMoney + 1, []int{1}, api.ErrRange},
		{math.MaxInt, tooMany, api.ErrRange},
		{math.MinInt, []int{0, 0}, api.ErrRange},
		{1, nil, api.ErrLimit},
		{0, []int{}, api.ErrLimit},
		{1, tooMany, api.ErrLimit},
		{1, slices.Repeat([]int{1}, 65), api.ErrLimit},
		{1, slices.Repeat([]int{-1}, 65), api.ErrLimit},
		{1, slices.Repeat([]int{1}, 1000), api.ErrLimit},
		{1, []int{-1}, api.ErrRange},
		{1, []int{0, -1}, api.ErrRange},
		{1, []int{-1, 0}, api.ErrRange},
		{1, []int{-1, 1}, api.ErrRange},
		{1, []int{1, -1, 1}, api.ErrRange},
		{0, []int{1, 1, api.MaxMoney + 1}, api.ErrRange},
		{1, []int{math.MaxInt, math.MaxInt}, api.ErrRange},
		{1, []int{math.MinInt, math.MinInt}, api.ErrRange},
		{1, []int{0}, api.ErrDivide},
		{1, []int{0, 0}, api.ErrDivide},
		{0, []int{0, 0, 0}, api.ErrDivide},
		{api.MaxMoney, make([]int, 64), api.ErrDivide},
	} {
		if got, err := money.Split(c.m, c.weights); len(got) != 0 || err != c.err {
			t.Errorf("Split(%d, %v): %v, %v, not %v", c.m, c.weights, got, err, c.err)
		}
	}
}

// Rule R3
func TestListsAreNeitherModifiedNorRetained(t *testing.T) {
	list := []int{1, 2, 4, 8}
	parts, _ := money.Split(10, list[:3])
	again, _ := money.Split(10, list[:3])
	money.Sum(list[:3])
	if !slices.Equal(list, []int{1, 2, 4, 8}) {
		t.Errorf("the list became %v", list)
	}
	parts = append(parts, 7)
	clear(parts)
	if !slices.Equal(list, []int{1, 2, 4, 8}) || !slices.Equal(again, []int{1, 3, 6}) {
		t.Errorf("with other parts, the list became %v, and the same parts %v", list, again)
	}
}

// P2.4
func TestFormatWritesAmounts(t *testing.T) {
	for _, m := range amounts() {
		if got, want := money.Format(m), fmt.Sprintf("%d.%02d", m/100, m%100); got != want {
			t.Errorf("Format(%d): %q, not %q", m, got, want)
		}
	}
	for m, want := range map[int]string{0: "0.00", 5: "0.05", 10: "0.10", 99: "0.99", 100: "1.00", 1234: "12.34", 100000: "1000.00", api.MaxMoney: "10000000000.00", api.MaxMoney - 1: "9999999999.99"} {
		if got := money.Format(m); got != want {
			t.Errorf("Format(%d): %q, not %q", m, got, want)
		}
	}
	for _, m := range notAmounts() {
		if got := money.Format(m); got != "" {
			t.Errorf("Format(%d): %q", m, got)
		}
	}
}

// P2.4
func TestParseReadsAmounts(t *testing.T) {
	for _, c := range []struct {
		s    string
		want int
		err  api.Errno
	}{
		{"0.00", 0, api.OK},
		{"0.05", 5, api.OK},
		{"0.50", 50, api.OK},
		{"1.00", 100, api.OK},
		{"12.34", 1234, api.OK},
		{"10.09", 1009, api.OK},
		{"9999999999.99", api.MaxMoney - 1, api.OK},
		{"10000000000.00", api.MaxMoney, api.OK},
		{"10000000000.01", 0, api.ErrOverflow},
		{"10000000000.99", 0, api.ErrOverflow},
		{"10000000001.00", 0, api.ErrOverflow},
		{"92233720368547758.07", 0, api.ErrOverflow},
		{"92233720368547758.08", 0, api.ErrOverflow},
		{"184467440737095516.16", 0, api.ErrOverflow},
		{"9223372036854775807.00", 0, api.ErrOverflow},
		{"9223372036854775808.00", 0, api.ErrOverflow},
		{"18446744073709551616.00", 0, api.ErrOverflow},
		{"99999999999999999999.00", 0, api.ErrOverflow},
		{"1" + strings.Repeat("0", 1000) + ".00", 0, api.ErrOverflow},
	} {
		if got, err := money.Parse(c.s); got != c.want || err != c.err {
			t.Errorf("Parse(%q): %d, %v, not %d, %v", c.s, got, err, c.want, c.err)
		}
	}
}

// P2.4
func TestParseRefusesOtherTexts(t *testing.T) {
	for _, s := range []string{
		"", "0", "1", "00", "100", "1234", ".", "..", "...", "0.", "0.0", "1.", "1.5", "1.500", "0.000", ".5", ".50", ".500", ".00",
		"00.00", "01.50", "000.50", "00000000000000000000.00", "-1.00", "-0.00", "-0.05", "-.50", "--1.00", "+1.00", "+.50", "-10000000000.01", "-99999999999999999999.00",
		"1.50 ", " 1.50", "1 .50", "1. 50", "1.5 ", "1.50\n", "\n1.50", "1.50\x00", "1.-5", "1.+5", "1.5-", "1.--", "1.5a", "1.a5", "1./5", "1.5/", "1.:5", "1.5:", "/.50", ":.50", "a.50", "1a.50", "a1.50",
		"1,50", "1,000.00", "1_0.00", "1:50", "1.2.34", "1..34", "1.23.4", "12.34.56", "0x1.00", "1e3.00", "1.e2", "$1.00", "1.00$",
		"٣.00", "1.٣", "１.00", "1．00", "\xff.00", "1.\xff\xff", "99999999999999999999", "99999999999999999999.0", "99999999999999999999.0x", "99999999999999999999x.00", "x99999999999999999999.00",
		"0" + strings.Repeat("9", 30) + ".00",
	} {
		if got, err := money.Parse(s); got != 0 || err != api.ErrSyntax {
			t.Errorf("Parse(%q): %d, %v", s, got, err)
		}
	}
}

// P2.5
func TestPartsOfASplitAddUpAndAreNearTheirShares(t *testing.T) {
	eachSplit(func(m int, weights []int) {
		parts, err := money.Split(m, weights)
		if len(parts) != len(weights) || err != api.OK {
			t.Fatalf("Split(%d, %v): %v, %v", m, weights, parts, err)
		}
		total, sum := 0, 0
		for i := range weights {
			total += weights[i]
			sum += parts[i]
		}
		if sum != m {
			t.Errorf("Split(%d, %v): %v adds up to %d", m, weights, parts, sum)
		}
		for i, w := range weights {
			share := new(big.Rat).SetFrac(new(big.Int).Mul(integer(m), integer(w)), integer(total))
			difference := share.Sub(share, new(big.Rat).SetInt(integer(parts[i])))
			if difference.Abs(difference).Cmp(big.NewRat(1, 1)) >= 0 {
				t.Errorf("Split(%d, %v): part %d is %d", m, weights, i, parts[i])
			}
		}
	})
}

// P2.5
func TestMultiplesAndQuotientsMakeTheAmount(t *testing.T) {
	for _, m := range amounts() {
		for _, n := range amounts() {
			if n == 0 {
				continue
			}
			if multiple, rest, err := money.Round(m, n); err != api.OK || multiple+rest != m || multiple%n != 0 || rest < 0 || rest >= n {
				t.Errorf("Round(%d, %d): %d, %d, %v", m, n, multiple, rest, err)
			}
			if q, rest, err := money.Even(m, n); err != api.OK || q*n+rest != m || rest < 0 || rest >= n {
				t.Errorf("Even(%d, %d): %d, %d, %v", m, n, q, rest, err)
			}
		}
	}
}

// P2.6
func TestPartsAreInTheOrderOfTheirWeights(t *testing.T) {
	eachSplit(func(m int, weights []int) {
		parts, err := money.Split(m, weights)
		if len(parts) != len(weights) || err != api.OK {
			t.Fatalf("Split(%d, %v): %v, %v", m, weights, parts, err)
		}
		for i := range weights {
			for j := range weights {
				if weights[i] > weights[j] && parts[i] < parts[j] {
					t.Errorf("Split(%d, %v): %v, part %d is below part %d", m, weights, parts, i, j)
				}
				if weights[i] == weights[j] && i < j && parts[i] != parts[j] && parts[i] != parts[j]+1 {
					t.Errorf("Split(%d, %v): %v, parts %d and %d of equal weights", m, weights, parts, i, j)
				}
			}
		}
	})
}

// P2.6
func TestPartsGrowWithTheAmountAndTheBasisPoints(t *testing.T) {
	list := amounts()
	slices.Sort(list)
	part := func(m, bp int) int {
		got, err := money.Part(m, bp)
		if err != api.OK {
			t.Fatalf("Part(%d, %d): %v", m, bp, err)
		}
		return got
	}
	for i, m := range list {
		last := 0
		for bp := 0; bp <= api.Whole; bp += 125 {
			got := part(m, bp)
			if got < last {
				t.Errorf("Part(%d, %d): %d, less than %d for less basis points", m, bp, got, last)
			}
			last = got
			if i > 0 && got < part(list[i-1], bp) {
				t.Errorf("Part(%d, %d): %d, less than for %d", m, bp, got, list[i-1])
			}
		}
		if last != m {
			t.Errorf("Part(%d, %d): %d", m, api.Whole, last)
		}
	}
}

// P2.7
func TestParseInvertsFormat(t *testing.T) {
	for _, m := range amounts() {
		if got, err := money.Parse(money.Format(m)); got != m || err != api.OK {
			t.Errorf("Parse(%q): %d, %v, not %d", money.Format(m), got, err, m)
		}
	}
	for m := range 20000 {
		if got, err := money.Parse(money.Format(m)); got != m || err != api.OK {
			t.Errorf("Parse(%q): %d, %v, not %d", money.Format(m), got, err, m)
		}
	}
}

// P2.7
func TestFormatInvertsParse(t *testing.T) {
	// All texts of up to 6 of these bytes: those that are parsed are the very texts that are written.
	const alphabet = ".019- "
	parsed := 0
	texts := []string{""}
	for range 6 {
		var longer []string
		for _, s := range texts {
			for _, b := range []byte(alphabet) {
				longer = append(longer, s+string(rune(b)))
			}
		}
		texts = longer
		for _, s := range texts {
			m, err := money.Parse(s)
			if err != api.OK {
				continue
			}
			parsed++
			if got := money.Format(m); got != s {
				t.Errorf("Format(Parse(%q)): %q", s, got)
			}
		}
	}
	// Two places of three digits each after 0, or after 1 or 9 and up to two of the digits 0, 1 and 9.
	if want := 9 * (1 + 2*(1+3+9)); parsed != want {
		t.Errorf("%d texts are parsed, not %d", parsed, want)
	}
}
