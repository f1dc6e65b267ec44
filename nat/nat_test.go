package nat_test

import (
	"fmt"
	"math"
	"math/big"
	"math/rand"
	"slices"
	"strings"
	"testing"

	"lottery/api"
	"lottery/nat"
)

// edges are limbs at which sums, products and digits of quotients change their kind.
func edges() []uint32 {
	return []uint32{0, 1, 2, 1<<31 - 1, 1 << 31, 1<<31 + 1, math.MaxUint32 - 1, math.MaxUint32}
}

// natural returns the Nat of the limbs, which are the least significant first, in memory of its own.
func natural(limbs ...uint32) api.Nat {
	n := len(limbs)
	for n > 0 && limbs[n-1] == 0 {
		n--
	}
	return api.Nat{Limbs: slices.Clone(limbs[:n])}
}

// random returns a Nat of up to n limbs, half of which are edges.
func random(source *rand.Rand, n int) api.Nat {
	limbs := make([]uint32, n)
	for i := range limbs {
		limbs[i] = source.Uint32()
		if source.Intn(2) == 0 {
			limbs[i] = edges()[source.Intn(len(edges()))]
		}
	}
	return natural(limbs...)
}

// power returns 2 to the power of n.
func power(n int) api.Nat {
	limbs := make([]uint32, n/32+1)
	limbs[n/32] = 1 << (n % 32)
	return natural(limbs...)
}

func greatest() api.Nat {
	return natural(slices.Repeat([]uint32{math.MaxUint32}, api.MaxLimbs)...)
}

// samples are numbers of every length, among them the bounds and the powers of 2 and 10 beside them, always the same ones.
func samples() []api.Nat {
	list := []api.Nat{{}, {Limbs: []uint32{}}, greatest()}
	for _, low := range edges() {
		list = append(list, natural(low), natural(low, 1), natural(low, math.MaxUint32), natural(low, 0, 1))
	}
	for _, n := range []int{5, 63, 64, 1023, 1024, 1025, 2016, 2046, 2047} {
		list = append(list, power(n), fromInt(new(big.Int).Sub(toInt(power(n)), big.NewInt(1))))
	}
	ten := big.NewInt(1)
	for range 616 {
		ten.Mul(ten, big.NewInt(10))
	}
	for _, n := range []int64{-1, 0, 1} {
		list = append(list, fromInt(new(big.Int).Add(ten, big.NewInt(n))))
	}
	source := rand.New(rand.NewSource(1))
	for _, n := range []int{1, 2, 3, 4, 5, 7, 8, 16, 31, 32, 33, 48, 63, 64} {
		list = append(list, random(source, n), random(source, n))
	}
	return list
}

// invalid are Nats with a last limb of 0, or with too many limbs.
func invalid() []api.Nat {
	return []api.Nat{
		{Limbs: []uint32{0}},
		{Limbs: []uint32{1, 0}},
		{Limbs: []uint32{0, 0, 0}},
		{Limbs: append(slices.Clone(greatest().Limbs), 0)},
		{Limbs: append(slices.Clone(greatest().Limbs), 1)},
		{Limbs: make([]uint32, api.MaxLimbs)},
		{Limbs: make([]uint32, 1000)},
		{Limbs: slices.Repeat([]uint32{7}, 1000)},
	}
}

func toInt(a api.Nat) *big.Int {
	n := new(big.Int)
	for _, limb := range slices.Backward(a.Limbs) {
		n.Add(n.Lsh(n, 32), new(big.Int).SetUint64(uint64(limb)))
	}
	return n
}

// fromInt returns the limbs of n, however many these are.
func fromInt(n *big.Int) api.Nat {
	var limbs []uint32
	for rest := new(big.Int).Set(n); rest.Sign() > 0; rest.Rsh(rest, 32) {
		limbs = append(limbs, uint32(rest.Uint64()))
	}
	return api.Nat{Limbs: limbs}
}

// checked is what a function of this package returns for an exact integer.
func checked(exact *big.Int) (api.Nat, api.Errno) {
	if exact.Sign() < 0 {
		return api.Nat{}, api.ErrRange
	}
	if exact.BitLen() > 32*api.MaxLimbs {
		return api.Nat{}, api.ErrOverflow
	}
	return fromInt(exact), api.OK
}

func equal(a, b api.Nat) bool {
	return slices.Equal(a.Limbs, b.Limbs)
}

type binary struct {
	name  string
	call  func(a, b api.Nat) (api.Nat, api.Errno)
	exact func(a, b *big.Int) *big.Int
}

func (op binary) test(t *testing.T, a, b api.Nat) {
	t.Helper()
	want, wantErr := checked(op.exact(toInt(a), toInt(b)))
	if got, err := op.call(a, b); !equal(got, want) || err != wantErr {
		t.Errorf("%s(%x, %x): %x, %v, not %x, %v", op.name, a, b, got, err, want, wantErr)
	}
}

func sum() binary {
	return binary{"Add", nat.Add, func(a, b *big.Int) *big.Int { return new(big.Int).Add(a, b) }}
}

func difference() binary {
	return binary{"Sub", nat.Sub, func(a, b *big.Int) *big.Int { return new(big.Int).Sub(a, b) }}
}

func product() binary {
	return binary{"Mul", nat.Mul, func(a, b *big.Int) *big.Int { return new(big.Int).Mul(a, b) }}
}

func divisor() binary {
	return binary{"GCD", nat.GCD, func(a, b *big.Int) *big.Int { return new(big.Int).GCD(nil, nil, a, b) }}
}

// must calls an operation that has no error.
func must(t *testing.T, call func(a, b api.Nat) (api.Nat, api.Errno), a, b api.Nat) api.Nat {
	t.Helper()
	got, err := call(a, b)
	if err != api.OK {
		t.Fatalf("of %x and %x: %v", a, b, err)
	}
	return got
}

// P3.1
func TestOfHasTheLimbsOfTheNumber(t *testing.T) {
	for n, want := range map[uint64][]uint32{
		0:                  {},
		1:                  {1},
		1<<31 + 7:          {1<<31 + 7},
		math.MaxUint32:     {math.MaxUint32},
		1 << 32:            {0, 1},
		1<<32 + 5:          {5, 1},
		0x0123456789abcdef: {0x89abcdef, 0x01234567},
		1 << 63:            {0, 1 << 31},
		math.MaxUint64:     {math.MaxUint32, math.MaxUint32},
	} {
		if got := nat.Of(n); !slices.Equal(got.Limbs, want) {
			t.Errorf("Of(%d): %x", n, got)
		}
	}
}

// P3.1
func TestValidNeedsUpTo64LimbsAndALastOneAbove0(t *testing.T) {
	for _, a := range samples() {
		if !nat.Valid(a) {
			t.Errorf("Valid(%x) is false", a)
		}
	}
	for n := range api.MaxLimbs {
		if a := power(32 * n); !nat.Valid(a) {
			t.Errorf("Valid of %d limbs is false", n+1)
		}
	}
	for _, a := range append(invalid(), power(32*api.MaxLimbs), power(32*api.MaxLimbs+31)) {
		if nat.Valid(a) {
			t.Errorf("Valid(%x) is true", a)
		}
	}
}

// P3.1
func TestCmpIsTheOrderOfTheNumbers(t *testing.T) {
	for _, a := range samples() {
		for _, b := range samples() {
			if got, want := nat.Cmp(a, b), toInt(a).Cmp(toInt(b)); got != want {
				t.Errorf("Cmp(%x, %x): %d, not %d", a, b, got, want)
			}
		}
	}
	for _, c := range []struct {
		a, b api.Nat
		want int
	}{
		{natural(9), natural(0, 1), -1},
		{natural(1, 2), natural(2, 1), 1},
		{natural(1, 5), natural(2, 5), -1},
		{natural(2, 5), natural(1, 5), 1},
		{natural(1, 2, 5), natural(2, 1, 5), 1},
		{natural(7, 7), natural(7, 7), 0},
		{api.Nat{}, natural(1), -1},
		{api.Nat{}, api.Nat{Limbs: []uint32{}}, 0},
		{natural(1 << 31), natural(1), 1},
		{greatest(), power(2047), 1},
	} {
		if got := nat.Cmp(c.a, c.b); got != c.want {
			t.Errorf("Cmp(%x, %x): %d, not %d", c.a, c.b, got, c.want)
		}
	}
}

// P3.1
func TestCmpIsZeroForNumbersThatAreNotValid(t *testing.T) {
	for _, a := range invalid() {
		for _, b := range append(samples(), invalid()...) {
			if got, back := nat.Cmp(a, b), nat.Cmp(b, a); got != 0 || back != 0 {
				t.Errorf("Cmp(%x, %x): %d, and %d in the other order", a, b, got, back)
			}
		}
	}
}

// P3.1
func TestUintInvertsOfAndRefusesOtherNumbers(t *testing.T) {
	for _, low := range edges() {
		for _, high := range edges() {
			n := uint64(high)<<32 | uint64(low)
			if got, ok := nat.Uint(nat.Of(n)); got != n || !ok {
				t.Errorf("Uint(Of(%d)): %d, %t", n, got, ok)
			}
		}
	}
	for _, a := range samples() {
		exact := toInt(a)
		want := uint64(0)
		if exact.IsUint64() {
			want = exact.Uint64()
		}
		if got, ok := nat.Uint(a); got != want || ok != exact.IsUint64() {
			t.Errorf("Uint(%x): %d, %t", a, got, ok)
		}
	}
	for _, a := range append(invalid(), power(64), natural(1, 2, 3)) {
		if got, ok := nat.Uint(a); got != 0 || ok {
			t.Errorf("Uint(%x): %d, %t", a, got, ok)
		}
	}
}

// P3.2
func TestSumsAndDifferencesAreExact(t *testing.T) {
	for _, a := range samples() {
		for _, b := range samples() {
			sum().test(t, a, b)
			difference().test(t, a, b)
		}
	}
}

// P3.2
func TestSumsAndDifferencesOfFewLimbs(t *testing.T) {
	for _, c := range []struct{ a, b, want api.Nat }{
		{api.Nat{}, api.Nat{}, api.Nat{}},
		{natural(5), api.Nat{}, natural(5)},
		{natural(math.MaxUint32), natural(1), natural(0, 1)},
		{natural(math.MaxUint32, math.MaxUint32), natural(1), natural(0, 0, 1)},
		{natural(math.MaxUint32, math.MaxUint32), natural(math.MaxUint32, math.MaxUint32), natural(math.MaxUint32-1, math.MaxUint32, 1)},
		{natural(1), natural(0, 0, 7), natural(1, 0, 7)},
	} {
		if got, err := nat.Add(c.a, c.b); !equal(got, c.want) || err != api.OK {
			t.Errorf("Add(%x, %x): %x, %v", c.a, c.b, got, err)
		}
		if got, err := nat.Add(c.b, c.a); !equal(got, c.want) || err != api.OK {
			t.Errorf("Add(%x, %x): %x, %v", c.b, c.a, got, err)
		}
		if got, err := nat.Sub(c.want, c.b); !equal(got, c.a) || err != api.OK {
			t.Errorf("Sub(%x, %x): %x, %v", c.want, c.b, got, err)
		}
	}
}

// P3.2
func TestSumsAndDifferencesAtTheBounds(t *testing.T) {
	for _, c := range []struct {
		name    string
		call    func(a, b api.Nat) (api.Nat, api.Errno)
		a, b, r api.Nat
		err     api.Errno
	}{
		{"Add", nat.Add, greatest(), natural(1), api.Nat{}, api.ErrOverflow},
		{"Add", nat.Add, natural(1), greatest(), api.Nat{}, api.ErrOverflow},
		{"Add", nat.Add, greatest(), greatest(), api.Nat{}, api.ErrOverflow},
		{"Add", nat.Add, greatest(), api.Nat{}, greatest(), api.OK},
		{"Add", nat.Add, power(2047), power(2047), api.Nat{}, api.ErrOverflow},
		{"Add", nat.Add, power(2046), power(2046), power(2047), api.OK},
		{"Sub", nat.Sub, greatest(), greatest(), api.Nat{}, api.OK},
		{"Sub", nat.Sub, api.Nat{}, api.Nat{}, api.Nat{}, api.OK},
		{"Sub", nat.Sub, api.Nat{}, natural(1), api.Nat{}, api.ErrRange},
		{"Sub", nat.Sub, natural(5), natural(6), api.Nat{}, api.ErrRange},
		{"Sub", nat.Sub, natural(9, 1), natural(0, 2), api.Nat{}, api.ErrRange},
		{"Sub", nat.Sub, natural(9), natural(0, 1), api.Nat{}, api.ErrRange},
		{"Sub", nat.Sub, natural(0, 0, 1), natural(1), natural(math.MaxUint32, math.MaxUint32), api.OK},
		{"Sub", nat.Sub, natural(7, 8, 9), natural(7, 7, 9), natural(0, 1), api.OK},
	} {
		if got, err := c.call(c.a, c.b); !equal(got, c.r) || err != c.err {
			t.Errorf("%s(%x, %x): %x, %v, not %x, %v", c.name, c.a, c.b, got, err, c.r, c.err)
		}
	}
}

// P3.2
func TestTheDifferenceOfASumAndATermIsTheOtherTerm(t *testing.T) {
	source := rand.New(rand.NewSource(2))
	for range 2000 {
		a, b := random(source, source.Intn(api.MaxLimbs)), random(source, source.Intn(api.MaxLimbs))
		both := must(t, nat.Add, a, b)
		if got := must(t, nat.Sub, both, a); !equal(got, b) {
			t.Errorf("Sub(%x, %x): %x, not %x", both, a, got, b)
		}
		if got := must(t, nat.Sub, both, b); !equal(got, a) {
			t.Errorf("Sub(%x, %x): %x, not %x", both, b, got, a)
		}
	}
}

// P3.3
func TestProductsAreExactOrOverflow(t *testing.T) {
	for _, a := range samples() {
		for _, b := range samples() {
			product().test(t, a, b)
		}
	}
	for n := range 2049 {
		product().test(t, power(n/2), power(n-n/2))
		product().test(t, power(n/3), natural(math.MaxUint32))
	}
}

// P3.3
func TestProductsAtTheBounds(t *testing.T) {
	half := natural(slices.Repeat([]uint32{math.MaxUint32}, api.MaxLimbs/2)...)
	for _, c := range []struct {
		a, b, want api.Nat
		err        api.Errno
	}{
		{natural(math.MaxUint32), natural(math.MaxUint32), natural(1, math.MaxUint32-1), api.OK},
		{natural(3, 5), natural(7), natural(21, 35), api.OK},
		{greatest(), api.Nat{}, api.Nat{}, api.OK},
		{greatest(), natural(1), greatest(), api.OK},
		{greatest(), natural(2), api.Nat{}, api.ErrOverflow},
		{greatest(), greatest(), api.Nat{}, api.ErrOverflow},
		{power(1023), power(1024), power(2047), api.OK},
		{power(1024), power(1024), api.Nat{}, api.ErrOverflow},
		{power(2047), natural(1), power(2047), api.OK},
		{power(2047), natural(2), api.Nat{}, api.ErrOverflow},
		// 2^2048 - 1 is the product of 2^1024 - 1 and 2^1024 + 1.
		{half, fromInt(new(big.Int).Add(toInt(power(1024)), big.NewInt(1))), greatest(), api.OK},
	} {
		if got, err := nat.Mul(c.a, c.b); !equal(got, c.want) || err != c.err {
			t.Errorf("Mul(%x, %x): %x, %v, not %x, %v", c.a, c.b, got, err, c.want, c.err)
		}
		if got, err := nat.Mul(c.b, c.a); !equal(got, c.want) || err != c.err {
			t.Errorf("Mul(%x, %x): %x, %v, not %x, %v", c.b, c.a, got, err, c.want, c.err)
		}
	}
}

// P3.3
func TestProductsDistributeOverSumsAndHaveNoOrder(t *testing.T) {
	source := rand.New(rand.NewSource(3))
	for range 1000 {
		n := source.Intn(api.MaxLimbs - 1)
		a, b, c := random(source, api.MaxLimbs-1-n), random(source, n), random(source, n)
		ab, ac := must(t, nat.Mul, a, b), must(t, nat.Mul, a, c)
		if got, want := must(t, nat.Mul, a, must(t, nat.Add, b, c)), must(t, nat.Add, ab, ac); !equal(got, want) {
			t.Errorf("%x times the sum of %x and %x: %x, not %x", a, b, c, got, want)
		}
		if got := must(t, nat.Mul, b, a); !equal(got, ab) {
			t.Errorf("Mul(%x, %x): %x, not %x", b, a, got, ab)
		}
	}
}

// testDivMod divides a by b, which is not 0.
func testDivMod(t *testing.T, a, b api.Nat) {
	t.Helper()
	exact, exactRest := new(big.Int).QuoRem(toInt(a), toInt(b), new(big.Int))
	want, wantRest := fromInt(exact), fromInt(exactRest)
	if q, r, err := nat.DivMod(a, b); !equal(q, want) || !equal(r, wantRest) || err != api.OK {
		t.Errorf("DivMod(%x, %x): %x, %x, %v, not %x, %x", a, b, q, r, err, want, wantRest)
	}
}

// P3.4
func TestQuotientsAndRemaindersAreExact(t *testing.T) {
	for _, a := range samples() {
		for _, b := range samples() {
			if len(b.Limbs) > 0 {
				testDivMod(t, a, b)
			}
		}
	}
	source := rand.New(rand.NewSource(4))
	for range 20000 {
		b := random(source, 1+source.Intn(5))
		if len(b.Limbs) > 0 {
			testDivMod(t, random(source, source.Intn(9)), b)
		}
	}
}

// P3.4
func TestDigitsThatTheGreatestLimbsDoNotTell(t *testing.T) {
	// The greatest limbs of b are followed by the greatest limb there is: multiples of the former alone, and numbers below the next multiple of b, look like more than they are.
	for _, top := range edges() {
		for _, next := range edges() {
			for _, low := range edges() {
				b := natural(low, math.MaxUint32, next, top)
				head := natural(0, 0, next, top)
				if len(b.Limbs) == 0 {
					continue
				}
				for _, digit := range edges() {
					testDivMod(t, must(t, nat.Mul, head, natural(digit)), b)
					multiple := must(t, nat.Mul, b, natural(digit, digit, 1))
					testDivMod(t, multiple, b)
					testDivMod(t, must(t, nat.Add, multiple, natural(1)), b)
					testDivMod(t, must(t, nat.Sub, multiple, natural(1)), b)
				}
			}
		}
	}
}

// P3.4
func TestDivModOfSomeNumbers(t *testing.T) {
	for _, c := range []struct{ a, b, q, r api.Nat }{
		{nat.Of(1000000), nat.Of(70), nat.Of(14285), nat.Of(50)},
		{api.Nat{}, natural(7), api.Nat{}, api.Nat{}},
		{natural(6), natural(7), api.Nat{}, natural(6)},
		{natural(7), natural(7), natural(1), api.Nat{}},
		{natural(7), natural(0, 0, 1), api.Nat{}, natural(7)},
		{natural(0, 0, 1), natural(1), natural(0, 0, 1), api.Nat{}},
		{natural(5, 0, 1), natural(0, 1), natural(0, 1), natural(5)},
		{greatest(), natural(1), greatest(), api.Nat{}},
		{greatest(), greatest(), natural(1), api.Nat{}},
		{greatest(), power(2047), natural(1), fromInt(new(big.Int).Sub(toInt(power(2047)), big.NewInt(1)))},
		{power(2047), greatest(), api.Nat{}, power(2047)},
	} {
		if q, r, err := nat.DivMod(c.a, c.b); !equal(q, c.q) || !equal(r, c.r) || err != api.OK {
			t.Errorf("DivMod(%x, %x): %x, %x, %v, not %x, %x", c.a, c.b, q, r, err, c.q, c.r)
		}
	}
}

// P3.4
func TestQuotientTimesDivisorPlusRemainderIsTheNumber(t *testing.T) {
	source := rand.New(rand.NewSource(5))
	for range 2000 {
		a, b := random(source, source.Intn(api.MaxLimbs+1)), random(source, 1+source.Intn(api.MaxLimbs))
		if len(b.Limbs) == 0 {
			continue
		}
		q, r, err := nat.DivMod(a, b)
		if err != api.OK || !nat.Valid(q) || nat.Cmp(r, b) != -1 {
			t.Errorf("DivMod(%x, %x): %x, %x, %v", a, b, q, r, err)
			continue
		}
		if got := must(t, nat.Add, must(t, nat.Mul, q, b), r); !equal(got, a) {
			t.Errorf("DivMod(%x, %x): %x, %x, which make %x", a, b, q, r, got)
		}
	}
}

// P3.4
func TestDivModBy0(t *testing.T) {
	for _, a := range samples() {
		for _, zero := range []api.Nat{{}, {Limbs: []uint32{}}} {
			if q, r, err := nat.DivMod(a, zero); len(q.Limbs) > 0 || len(r.Limbs) > 0 || err != api.ErrDivide {
				t.Errorf("DivMod(%x, 0): %x, %x, %v", a, q, r, err)
			}
		}
	}
	for _, a := range invalid() {
		if q, r, err := nat.DivMod(a, api.Nat{}); len(q.Limbs) > 0 || len(r.Limbs) > 0 || err != api.ErrRange {
			t.Errorf("DivMod(%x, 0): %x, %x, %v", a, q, r, err)
		}
	}
}

// P3.2, P3.3, P3.4, P3.5
func TestNumbersThatAreNotValidAreOutOfRange(t *testing.T) {
	for _, op := range []binary{sum(), difference(), product(), divisor()} {
		for _, bad := range invalid() {
			for _, other := range append(samples(), invalid()...) {
				for _, pair := range [][2]api.Nat{{bad, other}, {other, bad}} {
					if got, err := op.call(pair[0], pair[1]); len(got.Limbs) > 0 || err != api.ErrRange {
						t.Errorf("%s(%x, %x): %x, %v", op.name, pair[0], pair[1], got, err)
					}
					if q, r, err := nat.DivMod(pair[0], pair[1]); len(q.Limbs) > 0 || len(r.Limbs) > 0 || err != api.ErrRange {
						t.Errorf("DivMod(%x, %x): %x, %x, %v", pair[0], pair[1], q, r, err)
					}
				}
			}
		}
	}
}

// P3.5
func TestGCDIsTheGreatestCommonDivisor(t *testing.T) {
	for _, a := range samples() {
		for _, b := range samples() {
			divisor().test(t, a, b)
		}
	}
	for a := range uint64(60) {
		for b := range uint64(60) {
			divisor().test(t, nat.Of(a), nat.Of(b))
		}
	}
	for _, c := range [][3]uint64{{84, 36, 12}, {36, 84, 12}, {0, 0, 0}, {0, 5, 5}, {5, 0, 5}, {1, 9, 1}, {17, 17, 17}, {1 << 63, 1 << 40, 1 << 40}, {math.MaxUint64, math.MaxUint32, math.MaxUint32}} {
		if got, err := nat.GCD(nat.Of(c[0]), nat.Of(c[1])); !equal(got, nat.Of(c[2])) || err != api.OK {
			t.Errorf("GCD(%d, %d): %x, %v, not %d", c[0], c[1], got, err, c[2])
		}
	}
}

// P3.5
func TestGCDOfMultiplesDividesBothAndIsDividedByTheFactor(t *testing.T) {
	source := rand.New(rand.NewSource(6))
	for range 500 {
		n := source.Intn(api.MaxLimbs)
		factor := random(source, n)
		if len(factor.Limbs) == 0 {
			continue
		}
		a := must(t, nat.Mul, factor, random(source, api.MaxLimbs-n))
		b := must(t, nat.Mul, factor, random(source, api.MaxLimbs-n))
		common := must(t, nat.GCD, a, b)
		if len(common.Limbs) == 0 {
			continue
		}
		for _, pair := range [][2]api.Nat{{a, common}, {b, common}, {common, factor}} {
			if _, rest, err := nat.DivMod(pair[0], pair[1]); len(rest.Limbs) > 0 || err != api.OK {
				t.Errorf("GCD(%x, %x): %x, and %x is not divided by %x", a, b, common, pair[0], pair[1])
			}
		}
	}
}

// P3.5
func TestGCDOfNumbersThatNeedTheMostSteps(t *testing.T) {
	a, b := nat.Of(1), nat.Of(1)
	for next, err := nat.Add(a, b); err == api.OK; next, err = nat.Add(a, b) {
		a, b = b, next
	}
	if got := must(t, nat.GCD, b, a); !equal(got, nat.Of(1)) {
		t.Errorf("GCD(%x, %x): %x", b, a, got)
	}
}

// P3.6
func TestFormatWritesDecimals(t *testing.T) {
	for _, a := range samples() {
		if got, want := nat.Format(a), toInt(a).String(); got != want {
			t.Errorf("Format(%x): %q, not %q", a, got, want)
		}
	}
	for n, want := range map[uint64]string{0: "0", 7: "7", 10: "10", 999999999: "999999999", 1000000000: "1000000000", 1000000001: "1000000001", 5000000070: "5000000070", 1000000000000000000: "1000000000000000000", math.MaxUint64: "18446744073709551615"} {
		if got := nat.Format(nat.Of(n)); got != want {
			t.Errorf("Format(%d): %q", n, got)
		}
	}
	if got := nat.Format(greatest()); len(got) != 617 {
		t.Errorf("Format of the greatest number: %q", got)
	}
	for _, a := range invalid() {
		if got := nat.Format(a); got != "" {
			t.Errorf("Format(%x): %q", a, got)
		}
	}
}

// P3.6
func TestParseReadsDecimals(t *testing.T) {
	text := func(n *big.Int, plus int64) string {
		return new(big.Int).Add(n, big.NewInt(plus)).String()
	}
	limit := toInt(power(2048))
	for _, c := range []struct {
		s    string
		want api.Nat
		err  api.Errno
	}{
		{"0", api.Nat{}, api.OK},
		{"9", natural(9), api.OK},
		{"10", natural(10), api.OK},
		{"999999999", natural(999999999), api.OK},
		{"1000000000", natural(1000000000), api.OK},
		{"4294967295", natural(math.MaxUint32), api.OK},
		{"4294967296", natural(0, 1), api.OK},
		{"18446744073709551616", natural(0, 0, 1), api.OK},
		{text(limit, -2), natural(append([]uint32{math.MaxUint32 - 1}, greatest().Limbs[1:]...)...), api.OK},
		{text(limit, -1), greatest(), api.OK},
		{text(limit, 0), api.Nat{}, api.ErrOverflow},
		{text(limit, 1), api.Nat{}, api.ErrOverflow},
		{"1" + strings.Repeat("0", 616), fromInt(new(big.Int).Exp(big.NewInt(10), big.NewInt(616), nil)), api.OK},
		{"1" + strings.Repeat("0", 617), api.Nat{}, api.ErrOverflow},
		{"1" + strings.Repeat("0", 618), api.Nat{}, api.ErrOverflow},
		{"1" + strings.Repeat("0", 619), api.Nat{}, api.ErrOverflow},
		{strings.Repeat("9", 617), api.Nat{}, api.ErrOverflow},
		{strings.Repeat("9", 620), api.Nat{}, api.ErrOverflow},
	} {
		if got, err := nat.Parse(c.s); !equal(got, c.want) || err != c.err {
			t.Errorf("Parse(%q): %x, %v, not %x, %v", c.s, got, err, c.want, c.err)
		}
	}
}

// P3.6
func TestParseNamesTheFirstError(t *testing.T) {
	syntax := []string{
		"", "00", "01", "007", "0000000000", "-0", "-1", "+1", "-", "+", " ", " 1", "1 ", "1 0", "1\n", "\n1", "1\x00", "\x00", "a", "1a", "a1", "0x1", "1e3", "1_0", "1,000", "1.0", "1/", "/1", "1:", ":1", "٣", "１", "\xff", "1\xff",
		"0" + strings.Repeat("9", 619), strings.Repeat("0", 620), strings.Repeat("9", 619) + "x", "x" + strings.Repeat("9", 619), strings.Repeat("9", 617) + " ", strings.Repeat("x", 620),
	}
	for i := range 30 {
		syntax = append(syntax, strings.Repeat("1", i)+"-"+strings.Repeat("1", 30-i), strings.Repeat("1", i)+"_"+strings.Repeat("1", 30-i), strings.Repeat("1", i)+"+"+strings.Repeat("1", 30-i))
	}
	for _, s := range syntax {
		if got, err := nat.Parse(s); len(got.Limbs) > 0 || err != api.ErrSyntax {
			t.Errorf("Parse(%q): %x, %v", s, got, err)
		}
	}
	for _, s := range []string{strings.Repeat("9", 621), strings.Repeat("0", 621), strings.Repeat("x", 621), "1" + strings.Repeat("0", 100000), strings.Repeat("٣", 311)} {
		if got, err := nat.Parse(s); len(got.Limbs) > 0 || err != api.ErrLimit {
			t.Errorf("Parse of %d bytes: %x, %v", len(s), got, err)
		}
	}
}

// P3.6
func TestParseInvertsFormat(t *testing.T) {
	list := samples()
	source := rand.New(rand.NewSource(7))
	for n := range api.MaxLimbs + 1 {
		list = append(list, random(source, n), random(source, n))
	}
	for _, a := range list {
		if got, err := nat.Parse(nat.Format(a)); !equal(got, a) || err != api.OK {
			t.Errorf("Parse(%q): %x, %v, not %x", nat.Format(a), got, err, a)
		}
	}
}

// P3.6
func TestFormatInvertsParse(t *testing.T) {
	check := func(s string) {
		a, err := nat.Parse(s)
		if got := nat.Format(a); got != s || err != api.OK {
			t.Errorf("Parse(%q): %x, %v, which is %q", s, a, err, got)
		}
	}
	check("0")
	source := rand.New(rand.NewSource(8))
	for length := 1; length <= 616; length++ {
		check("1" + strings.Repeat("0", length-1))
		check(strings.Repeat("9", length))
		digits := []byte{byte('1' + source.Intn(9))}
		for len(digits) < length {
			digits = append(digits, byte('0'+source.Intn(10)*source.Intn(2)))
		}
		check(string(digits))
	}
}

// visit calls every function that takes Nats with a and b, and returns all Nats that they return.
func visit(a, b api.Nat) []api.Nat {
	nat.Valid(a)
	nat.Cmp(a, b)
	nat.Uint(a)
	nat.Format(a)
	var results []api.Nat
	for _, call := range []func(a, b api.Nat) (api.Nat, api.Errno){nat.Add, nat.Sub, nat.Mul, nat.GCD} {
		result, _ := call(a, b)
		results = append(results, result)
	}
	q, r, _ := nat.DivMod(a, b)
	return append(results, q, r)
}

// spare returns a with a spare capacity that is not 0.
func spare(a api.Nat) (api.Nat, []uint32) {
	memory := append(slices.Clone(a.Limbs), 5, 6, 7, 8)
	return api.Nat{Limbs: memory[:len(a.Limbs)]}, memory
}

// Rule R3
func TestArgumentsAreNeitherModifiedNorRetained(t *testing.T) {
	var list []api.Nat
	for i, a := range append(samples(), invalid()...) {
		if i%3 == 0 || len(a.Limbs) < 3 {
			list = append(list, a)
		}
	}
	for _, a := range list {
		for _, b := range list {
			first, firstMemory := spare(a)
			second, secondMemory := spare(b)
			results := visit(first, second)
			want := fmt.Sprint(results)
			for i, result := range results {
				before := fmt.Sprint(results[i+1:])
				clear(result.Limbs[:cap(result.Limbs)])
				if got := fmt.Sprint(results[i+1:]); got != before {
					t.Errorf("of %x and %x: a result shares memory with another one", a, b)
				}
			}
			if !slices.Equal(firstMemory, append(slices.Clone(a.Limbs), 5, 6, 7, 8)) || !slices.Equal(secondMemory, append(slices.Clone(b.Limbs), 5, 6, 7, 8)) {
				t.Errorf("the arguments %x and %x became %x and %x", a, b, firstMemory, secondMemory)
			}
			if got := fmt.Sprint(visit(first, second)); got != want {
				t.Errorf("of %x and %x again: %s, not %s", a, b, got, want)
			}
		}
	}
}
