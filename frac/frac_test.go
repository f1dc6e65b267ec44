package frac_test

import (
	"fmt"
	"math"
	"math/big"
	"math/rand"
	"slices"
	"strings"
	"testing"

	"lottery/api"
	"lottery/frac"
)

// natural returns the Nat of the limbs, as they are, in memory of its own.
func natural(limbs ...uint32) api.Nat {
	return api.Nat{Limbs: slices.Clone(limbs)}
}

func toInt(a api.Nat) *big.Int {
	n := new(big.Int)
	for _, limb := range slices.Backward(a.Limbs) {
		n.Add(n.Lsh(n, 32), new(big.Int).SetUint64(uint64(limb)))
	}
	return n
}

// fromInt returns the limbs of n, however many these are.
func fromInt(n *big.Int) api.Nat {
	var limbs []uint32
	for rest := new(big.Int).Set(n); rest.Sign() > 0; rest.Rsh(rest, 32) {
		limbs = append(limbs, uint32(rest.Uint64()))
	}
	return api.Nat{Limbs: limbs}
}

// power returns 2 to the power of n, plus more.
func power(n uint, more int64) *big.Int {
	result := new(big.Int).Lsh(big.NewInt(1), n)
	return result.Add(result, big.NewInt(more))
}

func greatest() *big.Int {
	return power(32*api.MaxLimbs, -1)
}

func tooLong(n *big.Int) bool {
	return n.BitLen() > 32*api.MaxLimbs
}

func times(a, b *big.Int) *big.Int {
	return new(big.Int).Mul(a, b)
}

// fraction returns n / d in lowest terms, as package big reduces it.
func fraction(n, d *big.Int) api.Frac {
	return fromRat(new(big.Rat).SetFrac(n, d))
}

func small(n, d int64) api.Frac {
	return fraction(big.NewInt(n), big.NewInt(d))
}

func fromRat(r *big.Rat) api.Frac {
	return api.Frac{Num: fromInt(r.Num()), Den: fromInt(r.Denom())}
}

func toRat(f api.Frac) *big.Rat {
	return new(big.Rat).SetFrac(toInt(f.Num), toInt(f.Den))
}

// plain returns a fraction of these limbs, which need not be valid.
func plain(n, d []uint32) api.Frac {
	return api.Frac{Num: natural(n...), Den: natural(d...)}
}

func equal(f, g api.Frac) bool {
	return slices.Equal(f.Num.Limbs, g.Num.Limbs) && slices.Equal(f.Den.Limbs, g.Den.Limbs)
}

// random returns a number of up to the given number of bits, which is not 0.
func random(source *rand.Rand, length int) *big.Int {
	n := new(big.Int).Rand(source, power(uint(1+source.Intn(length)), 0))
	return n.Add(n.Rsh(n, 1), big.NewInt(1))
}

// few are the values with parts of one limb whose order and sums can be told by hand.
func few() []api.Frac {
	var list []api.Frac
	for n := range int64(8) {
		for d := range int64(8) {
			f := small(n, d+1)
			if !slices.ContainsFunc(list, func(g api.Frac) bool { return equal(f, g) }) {
				list = append(list, f)
			}
		}
	}
	return list
}

// samples are fractions with parts of every length, among them the bounds and pairs that differ by little, always the same ones.
func samples() []api.Frac {
	list := []api.Frac{
		small(0, 1), {Num: api.Nat{Limbs: []uint32{}}, Den: natural(1)}, small(1, 1), small(1, 2), small(3, 2), small(2, 3), small(1, 10), small(7, 6),
		small(math.MaxUint32, 1), small(1, math.MaxUint32), small(math.MaxInt64, math.MaxUint32), small(1<<32, 3), small(3, 1<<32),
	}
	one := big.NewInt(1)
	for _, n := range []uint{31, 32, 33, 64, 1023, 1024, 1025, 2015, 2046, 2047} {
		list = append(list, fraction(power(n, 0), one), fraction(one, power(n, 0)), fraction(power(n, 1), power(n, 0)), fraction(power(n, -1), power(n, 0)), fraction(power(n, 1), power(n, -1)))
	}
	list = append(list, fraction(greatest(), one), fraction(one, greatest()), fraction(greatest(), power(2047, 0)), fraction(power(2047, 0), greatest()), fraction(power(2048, -2), greatest()), fraction(power(2048, -3), power(2048, -2)))
	source := rand.New(rand.NewSource(1))
	for _, length := range []int{8, 32, 64, 512, 682, 1000, 1024, 1025, 2000, 2048} {
		list = append(list, fraction(random(source, length), random(source, length)), fraction(random(source, length), random(source, 40)), fraction(random(source, 40), random(source, length)))
	}
	return list
}

// invalidNumbers have a last limb of 0, or too many limbs.
func invalidNumbers() []api.Nat {
	return []api.Nat{
		natural(0), natural(1, 0), natural(0, 0, 0), {Limbs: make([]uint32, api.MaxLimbs)}, {Limbs: make([]uint32, 1000)},
		fromInt(power(32*api.MaxLimbs, 0)), fromInt(power(32*api.MaxLimbs, 1)), {Limbs: slices.Repeat([]uint32{7}, 1000)},
		{Limbs: append(slices.Repeat([]uint32{7}, api.MaxLimbs), 0)},
	}
}

// invalid are fractions with parts that are not valid, with the denominator 0, or not in lowest terms.
func invalid() []api.Frac {
	list := []api.Frac{
		{}, {Num: natural(1)}, {Num: natural(7, 7)}, {Num: natural(1), Den: api.Nat{Limbs: []uint32{}}},
		{Den: natural(2)}, {Den: natural(0, 1)}, {Den: fromInt(greatest())},
		plain([]uint32{2}, []uint32{4}), plain([]uint32{2}, []uint32{2}), plain([]uint32{4}, []uint32{2}), plain([]uint32{15}, []uint32{35}),
		plain([]uint32{0, 2}, []uint32{0, 4}), plain([]uint32{0, 1}, []uint32{0, 1}), plain([]uint32{0, 1}, []uint32{2}), plain([]uint32{3}, []uint32{3, 3}),
		{Num: fromInt(greatest()), Den: fromInt(greatest())}, {Num: fromInt(greatest()), Den: natural(3)}, {Num: fromInt(power(2047, 0)), Den: natural(2)},
	}
	for _, bad := range invalidNumbers() {
		list = append(list, api.Frac{Num: bad, Den: natural(1)}, api.Frac{Num: natural(1), Den: bad}, api.Frac{Den: bad}, api.Frac{Num: bad}, api.Frac{Num: bad, Den: bad})
	}
	return list
}

// operation is a function of two fractions, and what it is by definition: the products and sums that are too long, and the exact result.
type operation struct {
	name  string
	call  func(f, g api.Frac) (api.Frac, api.Errno)
	exact func(a, b, c, d *big.Int) (n, m *big.Int, err api.Errno)
}

// overflow is ErrOverflow if one of the numbers has too many limbs.
func overflow(numbers ...*big.Int) api.Errno {
	if slices.ContainsFunc(numbers, tooLong) {
		return api.ErrOverflow
	}
	return api.OK
}

func sum() operation {
	return operation{"Add", frac.Add, func(a, b, c, d *big.Int) (n, m *big.Int, err api.Errno) {
		ad, cb, bd := times(a, d), times(c, b), times(b, d)
		n = new(big.Int).Add(ad, cb)
		return n, bd, overflow(ad, cb, bd, n)
	}}
}

func difference() operation {
	return operation{"Sub", frac.Sub, func(a, b, c, d *big.Int) (n, m *big.Int, err api.Errno) {
		ad, cb, bd := times(a, d), times(c, b), times(b, d)
		n = new(big.Int).Sub(ad, cb)
		if n.Sign() < 0 {
			return n, bd, api.ErrRange
		}
		return n, bd, overflow(ad, cb, bd)
	}}
}

func product() operation {
	return operation{"Mul", frac.Mul, func(a, b, c, d *big.Int) (n, m *big.Int, err api.Errno) {
		return times(a, c), times(b, d), overflow(times(a, c), times(b, d))
	}}
}

func ratio() operation {
	return operation{"Div", frac.Div, func(a, b, c, d *big.Int) (n, m *big.Int, err api.Errno) {
		if c.Sign() == 0 {
			return nil, nil, api.ErrDivide
		}
		return times(a, d), times(b, c), overflow(times(a, d), times(b, c))
	}}
}

func operations() []operation {
	return []operation{sum(), difference(), product(), ratio()}
}

func (op operation) test(t *testing.T, f, g api.Frac) {
	t.Helper()
	want := api.Frac{}
	n, d, wantErr := op.exact(toInt(f.Num), toInt(f.Den), toInt(g.Num), toInt(g.Den))
	if wantErr == api.OK {
		want = fraction(n, d)
	}
	if got, err := op.call(f, g); !equal(got, want) || err != wantErr {
		t.Errorf("%s(%x, %x): %x, %v, not %x, %v", op.name, f, g, got, err, want, wantErr)
	}
}

func (op operation) testPairs(t *testing.T, list []api.Frac) {
	t.Helper()
	for _, f := range list {
		for _, g := range list {
			op.test(t, f, g)
		}
	}
}

// P4.1
func TestOfIsInLowestTerms(t *testing.T) {
	for _, c := range []struct {
		n, d int
		want api.Frac
		err  api.Errno
	}{
		{6, 4, plain([]uint32{3}, []uint32{2}), api.OK},
		{4, 6, plain([]uint32{2}, []uint32{3}), api.OK},
		{0, 5, plain(nil, []uint32{1}), api.OK},
		{0, 1, plain(nil, []uint32{1}), api.OK},
		{5, 1, plain([]uint32{5}, []uint32{1}), api.OK},
		{7, 7, plain([]uint32{1}, []uint32{1}), api.OK},
		{1 << 40, 1 << 35, plain([]uint32{32}, []uint32{1}), api.OK},
		{1 << 32, 1, plain([]uint32{0, 1}, []uint32{1}), api.OK},
		{1, 1 << 32, plain([]uint32{1}, []uint32{0, 1}), api.OK},
		{math.MaxInt, math.MaxInt, plain([]uint32{1}, []uint32{1}), api.OK},
		{math.MaxInt, 1, plain([]uint32{math.MaxUint32, math.MaxInt32}, []uint32{1}), api.OK},
		{0, math.MaxInt, plain(nil, []uint32{1}), api.OK},
		{1, 0, api.Frac{}, api.ErrDivide},
		{0, 0, api.Frac{}, api.ErrDivide},
		{math.MaxInt, 0, api.Frac{}, api.ErrDivide},
		{-1, 0, api.Frac{}, api.ErrRange},
		{-1, 2, api.Frac{}, api.ErrRange},
		{1, -2, api.Frac{}, api.ErrRange},
		{0, -1, api.Frac{}, api.ErrRange},
		{-6, -4, api.Frac{}, api.ErrRange},
		{math.MinInt, 1, api.Frac{}, api.ErrRange},
		{1, math.MinInt, api.Frac{}, api.ErrRange},
		{math.MinInt, 0, api.Frac{}, api.ErrRange},
	} {
		if got, err := frac.Of(c.n, c.d); !equal(got, c.want) || err != c.err {
			t.Errorf("Of(%d, %d): %x, %v, not %x, %v", c.n, c.d, got, err, c.want, c.err)
		}
	}
	for n := range 60 {
		for d := 1; d < 60; d++ {
			if got, err := frac.Of(n, d); !equal(got, small(int64(n), int64(d))) || err != api.OK {
				t.Errorf("Of(%d, %d): %x, %v", n, d, got, err)
			}
		}
	}
}

// P4.1
func TestMakeIsInLowestTerms(t *testing.T) {
	source := rand.New(rand.NewSource(2))
	for range 500 {
		factor := random(source, 1024)
		n, d := times(factor, random(source, 1024)), times(factor, random(source, 1024))
		if got, err := frac.Make(fromInt(n), fromInt(d)); !equal(got, fraction(n, d)) || err != api.OK {
			t.Errorf("Make(%x, %x): %x, %v", n, d, got, err)
		}
		if got, err := frac.Make(api.Nat{}, fromInt(d)); !equal(got, small(0, 1)) || err != api.OK {
			t.Errorf("Make(0, %x): %x, %v", d, got, err)
		}
	}
	for _, f := range samples() {
		if got, err := frac.Make(f.Num, f.Den); !equal(got, f) || err != api.OK {
			t.Errorf("Make of the parts of %x: %x, %v", f, got, err)
		}
	}
	if got, err := frac.Make(fromInt(greatest()), fromInt(greatest())); !equal(got, small(1, 1)) || err != api.OK {
		t.Errorf("Make of the greatest number twice: %x, %v", got, err)
	}
}

// P4.1
func TestMakeNeedsValidNumbersAndADenominatorAbove0(t *testing.T) {
	numbers := []api.Nat{{}, {Limbs: []uint32{}}, natural(1), natural(0, 7), fromInt(greatest())}
	for _, n := range numbers {
		for _, zero := range numbers[:2] {
			if got, err := frac.Make(n, zero); !equal(got, api.Frac{}) || err != api.ErrDivide {
				t.Errorf("Make(%x, 0): %x, %v", n, got, err)
			}
		}
	}
	for _, bad := range invalidNumbers() {
		for _, other := range append(numbers, invalidNumbers()...) {
			for _, pair := range [][2]api.Nat{{bad, other}, {other, bad}} {
				if got, err := frac.Make(pair[0], pair[1]); !equal(got, api.Frac{}) || err != api.ErrRange {
					t.Errorf("Make(%x, %x): %x, %v", pair[0], pair[1], got, err)
				}
			}
		}
	}
}

// P4.2
func TestValidNeedsLowestTerms(t *testing.T) {
	for _, f := range append(samples(), few()...) {
		if !frac.Valid(f) {
			t.Errorf("Valid(%x) is false", f)
		}
	}
	for _, f := range invalid() {
		if frac.Valid(f) {
			t.Errorf("Valid(%x) is true", f)
		}
	}
	for n := range uint32(40) {
		for d := range uint32(40) {
			f := api.Frac{Num: fromInt(big.NewInt(int64(n))), Den: fromInt(big.NewInt(int64(d)))}
			common := new(big.Int).GCD(nil, nil, toInt(f.Num), toInt(f.Den))
			if want := d > 0 && common.IsInt64() && common.Int64() == 1; frac.Valid(f) != want {
				t.Errorf("Valid of %d / %d is not %t", n, d, want)
			}
		}
	}
}

// P4.2
func TestCmpIsTheOrderOfTheValues(t *testing.T) {
	for _, list := range [][]api.Frac{samples(), few()} {
		for _, f := range list {
			for _, g := range list {
				if got, want := frac.Cmp(f, g), toRat(f).Cmp(toRat(g)); got != want {
					t.Errorf("Cmp(%x, %x): %d, not %d", f, g, got, want)
				}
			}
		}
	}
	for _, c := range []struct {
		f, g api.Frac
		want int
	}{
		{small(1, 2), small(2, 3), -1},
		{small(2, 3), small(1, 2), 1},
		{small(2, 3), small(2, 3), 0},
		{small(0, 1), small(1, 1000), -1},
		{small(1, 1000), small(0, 1), 1},
		{small(0, 1), api.Frac{Num: api.Nat{Limbs: []uint32{}}, Den: natural(1)}, 0},
		{small(7, 2), small(3, 1), 1},
		{small(3, 1), small(7, 2), -1},
		{small(7, 2), small(4, 1), -1},
		{small(355, 113), small(22, 7), -1},
		{small(355, 113), small(333, 106), 1},
	} {
		if got := frac.Cmp(c.f, c.g); got != c.want {
			t.Errorf("Cmp(%x, %x): %d, not %d", c.f, c.g, got, c.want)
		}
	}
}

// P4.2
func TestCmpIsExactForProductsThatAreTooLong(t *testing.T) {
	source := rand.New(rand.NewSource(3))
	for range 300 {
		n, d := random(source, 2048), random(source, 2048)
		f, g := fraction(n, d), fraction(new(big.Int).Add(n, big.NewInt(1)), d)
		if tooLong(toInt(g.Num)) {
			continue
		}
		if less, greater, same := frac.Cmp(f, g), frac.Cmp(g, f), frac.Cmp(f, f); less != -1 || greater != 1 || same != 0 {
			t.Errorf("Cmp of %x and %x: %d, %d in the other order, and %d for the first one twice", f, g, less, greater, same)
		}
	}
}

// P4.2
func TestCmpOfFractionsThatNeedTheMostSteps(t *testing.T) {
	// The quotients of Fibonacci numbers lie on both sides of their limit in turns, and their difference is the least that there can be.
	numbers := []*big.Int{big.NewInt(1), big.NewInt(2)}
	for {
		n := len(numbers)
		next := new(big.Int).Add(numbers[n-1], numbers[n-2])
		if tooLong(next) {
			break
		}
		numbers = append(numbers, next)
	}
	for i := len(numbers) - 20; i+2 < len(numbers); i++ {
		f, g := fraction(numbers[i+1], numbers[i]), fraction(numbers[i+2], numbers[i+1])
		want := toRat(f).Cmp(toRat(g))
		if got, back := frac.Cmp(f, g), frac.Cmp(g, f); got != want || back != -want || want == 0 {
			t.Errorf("Cmp(%x, %x): %d, and %d in the other order", f, g, got, back)
		}
	}
}

// P4.2, P4.3, P4.4
func TestFractionsThatAreNotValid(t *testing.T) {
	others := append(append(samples()[:12], few()...), invalid()...)
	for _, bad := range invalid() {
		for _, other := range others {
			for _, pair := range [][2]api.Frac{{bad, other}, {other, bad}} {
				if got := frac.Cmp(pair[0], pair[1]); got != 0 {
					t.Errorf("Cmp(%x, %x): %d", pair[0], pair[1], got)
				}
				for _, op := range operations() {
					if got, err := op.call(pair[0], pair[1]); !equal(got, api.Frac{}) || err != api.ErrRange {
						t.Errorf("%s(%x, %x): %x, %v", op.name, pair[0], pair[1], got, err)
					}
				}
			}
		}
	}
}

// P4.3
func TestSumsAndDifferencesAreExact(t *testing.T) {
	for _, list := range [][]api.Frac{samples(), few()} {
		sum().testPairs(t, list)
		difference().testPairs(t, list)
	}
}

// P4.4
func TestProductsAndQuotientsAreExact(t *testing.T) {
	for _, list := range [][]api.Frac{samples(), few()} {
		product().testPairs(t, list)
		ratio().testPairs(t, list)
	}
}

// P4.3, P4.4
func TestOperationsOnFractionsOfAllLengths(t *testing.T) {
	source := rand.New(rand.NewSource(4))
	for range 1500 {
		length := 1 + source.Intn(2048)
		f := fraction(random(source, length), random(source, 2049-length))
		g := fraction(random(source, 2049-length), random(source, length))
		for _, op := range operations() {
			op.test(t, f, g)
			op.test(t, g, f)
		}
	}
}

// P4.3, P4.4
func TestOperationsOnSomeFractions(t *testing.T) {
	for _, c := range []struct {
		op   operation
		f, g api.Frac
		want api.Frac
		err  api.Errno
	}{
		{sum(), small(1, 6), small(1, 10), plain([]uint32{4}, []uint32{15}), api.OK},
		{sum(), small(0, 1), small(0, 1), plain(nil, []uint32{1}), api.OK},
		{sum(), small(1, 2), small(1, 2), plain([]uint32{1}, []uint32{1}), api.OK},
		{sum(), small(2, 3), small(3, 4), plain([]uint32{17}, []uint32{12}), api.OK},
		{difference(), small(1, 6), small(1, 10), plain([]uint32{1}, []uint32{15}), api.OK},
		{difference(), small(1, 10), small(1, 6), api.Frac{}, api.ErrRange},
		{difference(), small(0, 1), small(1, 6), api.Frac{}, api.ErrRange},
		{difference(), small(1, 3), small(1, 3), plain(nil, []uint32{1}), api.OK},
		{difference(), small(0, 1), small(0, 1), plain(nil, []uint32{1}), api.OK},
		{product(), small(2, 3), small(3, 4), plain([]uint32{1}, []uint32{2}), api.OK},
		{product(), small(0, 1), small(3, 4), plain(nil, []uint32{1}), api.OK},
		{ratio(), small(1, 2), small(3, 4), plain([]uint32{2}, []uint32{3}), api.OK},
		{ratio(), small(0, 1), small(3, 4), plain(nil, []uint32{1}), api.OK},
		{ratio(), small(1, 2), small(0, 1), api.Frac{}, api.ErrDivide},
		{ratio(), small(0, 1), small(0, 1), api.Frac{}, api.ErrDivide},
	} {
		if got, err := c.op.call(c.f, c.g); !equal(got, c.want) || err != c.err {
			t.Errorf("%s(%x, %x): %x, %v, not %x, %v", c.op.name, c.f, c.g, got, err, c.want, c.err)
		}
	}
}

// P4.3, P4.4
func TestEveryProductAndSumThatIsTooLongIsAnOverflow(t *testing.T) {
	one := big.NewInt(1)
	// The greatest and the least fraction, and fractions whose squares have one limb too many.
	long, least := fraction(greatest(), one), fraction(one, greatest())
	root, rootPart := fraction(power(1024, 0), one), fraction(one, power(1024, 0))
	beside1 := fraction(power(2047, 1), power(2047, 0))
	for _, c := range []struct {
		op   operation
		f, g api.Frac
		err  api.Errno
	}{
		// a * d is too long, and so is the sum; then c * b, only b * d, and only the sum.
		{sum(), long, small(1, 2), api.ErrOverflow},
		{sum(), small(1, 2), long, api.ErrOverflow},
		{sum(), rootPart, rootPart, api.ErrOverflow},
		{sum(), least, small(1, 2), api.ErrOverflow},
		{sum(), long, small(1, 1), api.ErrOverflow},
		{sum(), small(1, 1), long, api.ErrOverflow},
		{sum(), fraction(power(2047, 0), one), fraction(power(2047, 0), one), api.ErrOverflow},
		{sum(), fraction(power(2047, 0), one), fraction(power(2047, -1), one), api.OK},
		{sum(), fraction(power(2048, -2), one), small(1, 1), api.OK},
		{sum(), small(0, 1), least, api.OK},
		// a * d is too long, but not the difference; then only b * d; then c * b, where g is greater.
		{difference(), fraction(greatest(), big.NewInt(2)), fraction(power(2047, -1), one), api.OK},
		{difference(), long, small(1, 2), api.ErrOverflow},
		{difference(), fraction(power(2047, 0), one), fraction(power(2048, -1), big.NewInt(2)), api.ErrOverflow},
		{difference(), rootPart, rootPart, api.ErrOverflow},
		{difference(), small(1, 2), least, api.ErrOverflow},
		{difference(), long, long, api.OK},
		{difference(), small(1, 2), long, api.ErrRange},
		{difference(), least, fraction(one, power(2047, 0)), api.ErrRange},
		// Only a * c, and only b * d.
		{product(), long, small(2, 1), api.ErrOverflow},
		{product(), root, root, api.ErrOverflow},
		{product(), least, small(1, 2), api.ErrOverflow},
		{product(), rootPart, rootPart, api.ErrOverflow},
		{product(), long, small(1, 2), api.OK},
		{product(), least, small(2, 1), api.OK},
		{product(), long, least, api.OK},
		// Only a * d, and only b * c; a division by 0 comes before both.
		{ratio(), long, small(1, 2), api.ErrOverflow},
		{ratio(), root, rootPart, api.ErrOverflow},
		{ratio(), least, small(2, 1), api.ErrOverflow},
		{ratio(), rootPart, root, api.ErrOverflow},
		{ratio(), long, long, api.OK},
		{ratio(), least, least, api.OK},
		{ratio(), small(0, 1), long, api.OK},
		{ratio(), least, small(0, 1), api.ErrDivide},
		{ratio(), long, small(0, 1), api.ErrDivide},
		// In lowest terms, the results would be 1.
		{product(), beside1, fraction(power(2047, 0), power(2047, 1)), api.ErrOverflow},
		{ratio(), beside1, beside1, api.ErrOverflow},
	} {
		c.op.test(t, c.f, c.g)
		if got, err := c.op.call(c.f, c.g); err != c.err || err != api.OK && !equal(got, api.Frac{}) {
			t.Errorf("%s(%x, %x): %x, %v, not %v", c.op.name, c.f, c.g, got, err, c.err)
		}
	}
}

// P4.5
func TestDecimalRoundsDown(t *testing.T) {
	for _, c := range []struct {
		f      api.Frac
		places int
		want   string
	}{
		{small(2, 3), 4, "0.6666"},
		{small(2, 3), 0, "0"},
		{small(7, 2), 0, "3"},
		{small(7, 2), 1, "3.5"},
		{small(1, 8), 18, "0.125000000000000000"},
		{small(1, 8), 2, "0.12"},
		{small(0, 1), 0, "0"},
		{small(0, 1), 1, "0.0"},
		{small(0, 1), 18, "0.000000000000000000"},
		{small(1, 1), 18, "1.000000000000000000"},
		{small(1, 10), 1, "0.1"},
		{small(1, 10), 2, "0.10"},
		{small(1, 11), 1, "0.0"},
		{small(1, 100), 1, "0.0"},
		{small(999, 1000), 2, "0.99"},
		{small(999, 1000), 3, "0.999"},
		{small(1999, 1000), 0, "1"},
		{small(101, 10), 1, "10.1"},
		{small(10001, 1000), 3, "10.001"},
		{small(10001, 1000), 2, "10.00"},
		{small(1, 1000000000000000000), 18, "0.000000000000000001"},
		{small(1, 1000000000000000000), 17, "0.00000000000000000"},
		{small(1, 1000000000000000001), 18, "0.000000000000000000"},
		{small(123456789012345678, 1), 2, "123456789012345678.00"},
	} {
		if got, err := frac.Decimal(c.f, c.places); got != c.want || err != api.OK {
			t.Errorf("Decimal(%x, %d): %q, %v, not %q", c.f, c.places, got, err, c.want)
		}
	}
}

// P4.5
func TestDecimalIsExact(t *testing.T) {
	ten := big.NewInt(10)
	for _, f := range append(samples(), few()...) {
		for places := range int64(19) {
			scale := new(big.Int).Exp(ten, big.NewInt(places), nil)
			scaled := times(toInt(f.Num), scale)
			want, wantErr := "", overflow(scaled)
			if wantErr == api.OK {
				whole, rest := new(big.Int).QuoRem(scaled.Quo(scaled, toInt(f.Den)), scale, new(big.Int))
				want = whole.String()
				if places > 0 {
					want += "." + fmt.Sprintf("%0*s", int(places), rest)
				}
			}
			if got, err := frac.Decimal(f, int(places)); got != want || err != wantErr {
				t.Errorf("Decimal(%x, %d): %q, %v, not %q, %v", f, places, got, err, want, wantErr)
			}
		}
	}
}

// P4.5
func TestDecimalNeedsAValidFractionAndUpTo18Places(t *testing.T) {
	long := fraction(greatest(), big.NewInt(1))
	for _, places := range []int{-1, -18, 19, 20, 64, math.MinInt, math.MaxInt} {
		for _, f := range append(invalid(), small(1, 2), small(0, 1), long) {
			if got, err := frac.Decimal(f, places); got != "" || err != api.ErrRange {
				t.Errorf("Decimal(%x, %d): %q, %v", f, places, got, err)
			}
		}
	}
	for _, f := range invalid() {
		for places := range 19 {
			if got, err := frac.Decimal(f, places); got != "" || err != api.ErrRange {
				t.Errorf("Decimal(%x, %d): %q, %v", f, places, got, err)
			}
		}
	}
}

// P4.5
func TestDecimalOfNumeratorsThatAreTooLong(t *testing.T) {
	tenth := new(big.Int).Quo(greatest(), big.NewInt(10))
	over := new(big.Int).Add(tenth, big.NewInt(1))
	for _, c := range []struct {
		f      api.Frac
		places int
		want   string
		err    api.Errno
	}{
		{fraction(greatest(), big.NewInt(1)), 0, greatest().String(), api.OK},
		{fraction(greatest(), big.NewInt(1)), 1, "", api.ErrOverflow},
		{fraction(greatest(), power(2047, 0)), 1, "", api.ErrOverflow},
		{fraction(tenth, big.NewInt(1)), 1, tenth.String() + ".0", api.OK},
		{fraction(over, big.NewInt(1)), 1, "", api.ErrOverflow},
		{fraction(tenth, big.NewInt(1)), 2, "", api.ErrOverflow},
		{fraction(big.NewInt(1), greatest()), 18, "0." + strings.Repeat("0", 18), api.OK},
	} {
		if got, err := frac.Decimal(c.f, c.places); got != c.want || err != c.err {
			t.Errorf("Decimal(%x, %d): %q, %v, not %q, %v", c.f, c.places, got, err, c.want, c.err)
		}
	}
}

// attempt does an operation of a chain of operations: it is not called if one of the fractions is what an earlier error left.
func attempt(ok *bool, call func(f, g api.Frac) (api.Frac, api.Errno), f, g api.Frac) api.Frac {
	if !*ok {
		return api.Frac{}
	}
	got, err := call(f, g)
	*ok = err == api.OK
	return got
}

// triples calls use with triples of fractions, of small ones and of random ones of several lengths.
func triples(use func(f, g, h api.Frac)) {
	list := append(few(), samples()[:13]...)
	for i, f := range list {
		for j, g := range list {
			use(f, g, list[(3*i+5*j)%len(list)])
		}
	}
	source := rand.New(rand.NewSource(5))
	for range 500 {
		length := 1 + source.Intn(400)
		use(fraction(random(source, length), random(source, length)), fraction(random(source, length), random(source, length)), fraction(random(source, length), random(source, length)))
	}
}

// P4.6
func TestTheLawsOfAField(t *testing.T) {
	type law struct {
		name        string
		left, right func(ok *bool, f, g, h api.Frac) api.Frac
	}
	first := func(_ *bool, f, _, _ api.Frac) api.Frac { return f }
	call := func(op func(f, g api.Frac) (api.Frac, api.Errno)) func(ok *bool, f, g api.Frac) api.Frac {
		return func(ok *bool, f, g api.Frac) api.Frac { return attempt(ok, op, f, g) }
	}
	add, sub, mul, div := call(frac.Add), call(frac.Sub), call(frac.Mul), call(frac.Div)
	for _, l := range []law{
		{"f + g - g = f", func(ok *bool, f, g, _ api.Frac) api.Frac { return sub(ok, add(ok, f, g), g) }, first},
		{"f + g = g + f", func(ok *bool, f, g, _ api.Frac) api.Frac { return add(ok, f, g) }, func(ok *bool, f, g, _ api.Frac) api.Frac { return add(ok, g, f) }},
		{"f * g = g * f", func(ok *bool, f, g, _ api.Frac) api.Frac { return mul(ok, f, g) }, func(ok *bool, f, g, _ api.Frac) api.Frac { return mul(ok, g, f) }},
		{"(f + g) + h = f + (g + h)", func(ok *bool, f, g, h api.Frac) api.Frac { return add(ok, add(ok, f, g), h) }, func(ok *bool, f, g, h api.Frac) api.Frac { return add(ok, f, add(ok, g, h)) }},
		{"(f * g) * h = f * (g * h)", func(ok *bool, f, g, h api.Frac) api.Frac { return mul(ok, mul(ok, f, g), h) }, func(ok *bool, f, g, h api.Frac) api.Frac { return mul(ok, f, mul(ok, g, h)) }},
		{"f * (g + h) = f * g + f * h", func(ok *bool, f, g, h api.Frac) api.Frac { return mul(ok, f, add(ok, g, h)) }, func(ok *bool, f, g, h api.Frac) api.Frac { return add(ok, mul(ok, f, g), mul(ok, f, h)) }},
		{"f + 0 = f", func(ok *bool, f, _, _ api.Frac) api.Frac { return add(ok, f, small(0, 1)) }, first},
		{"f * 1 = f", func(ok *bool, f, _, _ api.Frac) api.Frac { return mul(ok, f, small(1, 1)) }, first},
		{"f - 0 = f", func(ok *bool, f, _, _ api.Frac) api.Frac { return sub(ok, f, small(0, 1)) }, first},
		{"f / 1 = f", func(ok *bool, f, _, _ api.Frac) api.Frac { return div(ok, f, small(1, 1)) }, first},
		{"f * g / g = f", func(ok *bool, f, g, _ api.Frac) api.Frac {
			if len(g.Num.Limbs) == 0 {
				return f
			}
			return div(ok, mul(ok, f, g), g)
		}, first},
	} {
		applied := 0
		triples(func(f, g, h api.Frac) {
			ok := true
			left, right := l.left(&ok, f, g, h), l.right(&ok, f, g, h)
			if ok {
				applied++
			}
			if ok && !equal(left, right) {
				t.Errorf("%s: not for %x, %x and %x: %x and %x", l.name, f, g, h, left, right)
			}
		})
		if applied < 1000 {
			t.Errorf("%s was only tested %d times", l.name, applied)
		}
	}
}

// P4.6
func TestAdding0AndMultiplyingBy1ChangeNothing(t *testing.T) {
	for _, f := range samples() {
		for _, c := range []struct {
			op      operation
			neutral api.Frac
		}{{sum(), small(0, 1)}, {product(), small(1, 1)}} {
			for _, pair := range [][2]api.Frac{{f, c.neutral}, {c.neutral, f}} {
				if got, err := c.op.call(pair[0], pair[1]); !equal(got, f) || err != api.OK {
					t.Errorf("%s(%x, %x): %x, %v", c.op.name, pair[0], pair[1], got, err)
				}
			}
		}
	}
}

// P4.7
func TestAddingKeepsTheOrder(t *testing.T) {
	applied := 0
	triples(func(f, g, h api.Frac) {
		ok := true
		left, right := attempt(&ok, frac.Add, f, h), attempt(&ok, frac.Add, g, h)
		if !ok {
			return
		}
		applied++
		if got, want := frac.Cmp(left, right), frac.Cmp(f, g); got != want {
			t.Errorf("Cmp of %x and %x is %d, and after adding %x it is %d", f, g, want, h, got)
		}
	})
	if applied < 1000 {
		t.Errorf("tested only %d times", applied)
	}
}

// P4.8
func TestResultsAreValid(t *testing.T) {
	check := func(name string, f api.Frac, err api.Errno) {
		if err == api.OK && !frac.Valid(f) || err != api.OK && !equal(f, api.Frac{}) {
			t.Errorf("%s returns %x, %v", name, f, err)
		}
	}
	list := append(few(), samples()...)
	for _, f := range list {
		for _, g := range list {
			for _, op := range operations() {
				got, err := op.call(f, g)
				check(op.name, got, err)
			}
			for _, pair := range [][2]api.Nat{{f.Num, g.Num}, {f.Num, g.Den}, {f.Den, g.Num}, {f.Den, g.Den}} {
				got, err := frac.Make(pair[0], pair[1])
				check("Make", got, err)
			}
		}
	}
	for n := range 30 {
		for d := range 30 {
			got, err := frac.Of(n, d)
			check("Of", got, err)
		}
	}
}

// P4.8
func TestEqualValuesHaveEqualParts(t *testing.T) {
	list := append(few(), samples()...)
	for _, f := range list {
		for _, g := range list {
			if same := frac.Cmp(f, g) == 0; same != equal(f, g) {
				t.Errorf("Cmp(%x, %x) is 0: %t", f, g, same)
			}
		}
	}
}

// visit calls every function with f and g, and returns all fractions that they return.
func visit(f, g api.Frac) []api.Frac {
	frac.Valid(f)
	frac.Cmp(f, g)
	frac.Decimal(f, 18)
	frac.Decimal(f, 0)
	var results []api.Frac
	for _, op := range operations() {
		result, _ := op.call(f, g)
		results = append(results, result)
	}
	made, _ := frac.Make(f.Num, g.Den)
	again, _ := frac.Make(f.Num, f.Den)
	return append(results, made, again)
}

// spare returns a with a spare capacity that is not 0, and its whole memory.
func spare(a api.Nat) (api.Nat, []uint32) {
	memory := append(slices.Clone(a.Limbs), 5, 6, 7, 8)
	return api.Nat{Limbs: memory[:len(a.Limbs)]}, memory
}

// numbers returns the parts of the fractions.
func numbers(list []api.Frac) []api.Nat {
	var result []api.Nat
	for _, f := range list {
		result = append(result, f.Num, f.Den)
	}
	return result
}

// Rule R3
func TestArgumentsAreNeitherModifiedNorRetained(t *testing.T) {
	list := append(few()[:8], samples()[:20]...)
	list = append(append(list, fraction(greatest(), power(2047, 0)), fraction(power(1000, 1), power(999, 0))), invalid()...)
	for _, f := range list {
		for _, g := range list {
			var parts []api.Nat
			var memories [][]uint32
			for _, a := range numbers([]api.Frac{f, g}) {
				part, memory := spare(a)
				parts, memories = append(parts, part), append(memories, memory)
			}
			first, second := api.Frac{Num: parts[0], Den: parts[1]}, api.Frac{Num: parts[2], Den: parts[3]}
			results := numbers(visit(first, second))
			want := fmt.Sprint(results)
			for i, result := range results {
				before := fmt.Sprint(results[i+1:])
				clear(result.Limbs[:cap(result.Limbs)])
				if got := fmt.Sprint(results[i+1:]); got != before {
					t.Errorf("of %x and %x: a result shares memory with another one", f, g)
				}
			}
			for i, a := range numbers([]api.Frac{f, g}) {
				if !slices.Equal(memories[i], append(slices.Clone(a.Limbs), 5, 6, 7, 8)) {
					t.Errorf("of %x and %x: the argument %x became %x", f, g, a, memories[i])
				}
			}
			if got := fmt.Sprint(numbers(visit(first, second))); got != want {
				t.Errorf("of %x and %x again: %s, not %s", f, g, got, want)
			}
		}
	}
}
