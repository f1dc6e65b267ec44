package num_test

import (
	"math"
	"math/big"
	"math/rand"
	"strings"
	"testing"

	"lottery/api"
	"lottery/num"
)

// samples are the numbers at which results change their kind, and some others of every length, always the same ones.
func samples() []int {
	list := []int{0, 7, 12, 18, 9999, 10000, 3037000499, 3037000500, 2097151, 2097152, math.MaxInt, math.MaxInt - 1, math.MaxInt / 2, math.MaxInt/2 + 1, math.MaxInt / 10}
	for _, shift := range []int{0, 1, 2, 31, 32, 61, 62} {
		list = append(list, 1<<shift, 1<<shift-1, 1<<shift+1)
	}
	random := rand.New(rand.NewSource(1))
	for length := 3; length < 63; length += 4 {
		list = append(list, random.Intn(1<<length))
	}
	for _, n := range list {
		list = append(list, -n)
	}
	return append(list, math.MinInt, math.MinInt+1)
}

func naturals() []int {
	var list []int
	for _, n := range samples() {
		if n >= 0 {
			list = append(list, n)
		}
	}
	return list
}

func integer(n int) *big.Int {
	return big.NewInt(int64(n))
}

// checked is what a function of this package returns for an exact integer.
func checked(exact *big.Int) (int, api.Errno) {
	if !exact.IsInt64() {
		return 0, api.ErrOverflow
	}
	return int(exact.Int64()), api.OK
}

type operation struct {
	name  string
	call  func(a, b int) (int, api.Errno)
	exact func(z, a, b *big.Int) *big.Int
}

func operations() []operation {
	return []operation{
		{"Add", num.Add, (*big.Int).Add},
		{"Sub", num.Sub, (*big.Int).Sub},
		{"Mul", num.Mul, (*big.Int).Mul},
	}
}

// P1.1
func TestSumsDifferencesAndProductsAreExactOrOverflow(t *testing.T) {
	for _, op := range operations() {
		for _, a := range samples() {
			for _, b := range samples() {
				want, wantErr := checked(op.exact(new(big.Int), integer(a), integer(b)))
				if got, err := op.call(a, b); got != want || err != wantErr {
					t.Errorf("%s(%d, %d): %d, %v, not %d, %v", op.name, a, b, got, err, want, wantErr)
				}
			}
		}
	}
}

// P1.1
func TestBoundsOfSumsDifferencesAndProducts(t *testing.T) {
	for _, c := range []struct {
		name string
		call func(a, b int) (int, api.Errno)
		a, b int
		want int
		err  api.Errno
	}{
		{"Add", num.Add, math.MaxInt, 1, 0, api.ErrOverflow},
		{"Add", num.Add, math.MaxInt, 0, math.MaxInt, api.OK},
		{"Add", num.Add, math.MinInt, -1, 0, api.ErrOverflow},
		{"Add", num.Add, math.MinInt, math.MinInt, 0, api.ErrOverflow},
		{"Add", num.Add, math.MinInt, math.MaxInt, -1, api.OK},
		{"Sub", num.Sub, math.MinInt, -1, math.MinInt + 1, api.OK},
		{"Sub", num.Sub, 0, math.MinInt, 0, api.ErrOverflow},
		{"Sub", num.Sub, -1, math.MinInt, math.MaxInt, api.OK},
		{"Sub", num.Sub, math.MinInt, math.MinInt, 0, api.OK},
		{"Mul", num.Mul, math.MinInt, -1, 0, api.ErrOverflow},
		{"Mul", num.Mul, -1, math.MinInt, 0, api.ErrOverflow},
		{"Mul", num.Mul, 1, math.MinInt, math.MinInt, api.OK},
		{"Mul", num.Mul, math.MinInt / 2, 2, math.MinInt, api.OK},
		{"Mul", num.Mul, math.MinInt / 2, -2, 0, api.ErrOverflow},
		{"Mul", num.Mul, 0, math.MinInt, 0, api.OK},
	} {
		if got, err := c.call(c.a, c.b); got != c.want || err != c.err {
			t.Errorf("%s(%d, %d): %d, %v, not %d, %v", c.name, c.a, c.b, got, err, c.want, c.err)
		}
	}
}

// P1.2
func TestMulDivIsExactOrOverflow(t *testing.T) {
	for _, a := range naturals() {
		for _, b := range naturals() {
			product := new(big.Int).Mul(integer(a), integer(b))
			for _, c := range naturals() {
				if c == 0 {
					continue
				}
				exact, rest := new(big.Int).QuoRem(product, integer(c), new(big.Int))
				want, wantErr := checked(exact)
				wantRest := 0
				if wantErr == api.OK {
					wantRest = int(rest.Int64())
				}
				if q, r, err := num.MulDiv(a, b, c); q != want || r != wantRest || err != wantErr {
					t.Errorf("MulDiv(%d, %d, %d): %d, %d, %v, not %d, %d, %v", a, b, c, q, r, err, want, wantRest, wantErr)
				}
			}
		}
	}
}

// P1.2
func TestMulDivNamesTheFirstError(t *testing.T) {
	for _, c := range []struct {
		a, b, c, q, r int
		err           api.Errno
	}{
		{7, 3, 2, 10, 1, api.OK},
		{math.MaxInt, math.MaxInt, math.MaxInt, math.MaxInt, 0, api.OK},
		{math.MaxInt, math.MaxInt, math.MaxInt - 1, 0, 0, api.ErrOverflow},
		{1 << 62, 2, 1, 0, 0, api.ErrOverflow},
		{1 << 62, 4, 1, 0, 0, api.ErrOverflow},
		{1, 1, 0, 0, 0, api.ErrDivide},
		{0, 0, 0, 0, 0, api.ErrDivide},
		{-1, 1, 0, 0, 0, api.ErrDivide},
		{math.MaxInt, math.MinInt, 0, 0, 0, api.ErrDivide},
		{-1, 1, 1, 0, 0, api.ErrRange},
		{1, -1, 1, 0, 0, api.ErrRange},
		{1, 1, -1, 0, 0, api.ErrRange},
		{0, 0, -1, 0, 0, api.ErrRange},
		{-1, -1, 1, 0, 0, api.ErrRange},
		{math.MinInt, math.MinInt, math.MinInt, 0, 0, api.ErrRange},
		{math.MaxInt, math.MaxInt, -1, 0, 0, api.ErrRange},
	} {
		if q, r, err := num.MulDiv(c.a, c.b, c.c); q != c.q || r != c.r || err != c.err {
			t.Errorf("MulDiv(%d, %d, %d): %d, %d, %v, not %d, %d, %v", c.a, c.b, c.c, q, r, err, c.q, c.r, c.err)
		}
	}
}

// P1.3
func TestPowersAreExactOrOverflow(t *testing.T) {
	for _, a := range samples() {
		for n := range 63 {
			want, wantErr := checked(new(big.Int).Exp(integer(a), integer(n), nil))
			if got, err := num.Power(a, n); got != want || err != wantErr {
				t.Errorf("Power(%d, %d): %d, %v, not %d, %v", a, n, got, err, want, wantErr)
			}
		}
	}
}

// P1.3
func TestPowerRefusesExponentsOutOfRange(t *testing.T) {
	for _, a := range samples() {
		for _, n := range []int{-1, 63, 64, math.MaxInt, math.MinInt} {
			if got, err := num.Power(a, n); got != 0 || err != api.ErrRange {
				t.Errorf("Power(%d, %d): %d, %v", a, n, got, err)
			}
		}
	}
	for _, c := range []struct{ a, n, want int }{{0, 0, 1}, {10, 18, 1000000000000000000}, {-2097152, 3, math.MinInt}, {1, 62, 1}, {-1, 61, -1}, {2, 62, 1 << 62}} {
		if got, err := num.Power(c.a, c.n); got != c.want || err != api.OK {
			t.Errorf("Power(%d, %d): %d, %v", c.a, c.n, got, err)
		}
	}
	if got, err := num.Power(10, 19); got != 0 || err != api.ErrOverflow {
		t.Errorf("Power(10, 19): %d, %v", got, err)
	}
}

// P1.4
func TestGCDIsTheGreatestCommonDivisor(t *testing.T) {
	for _, a := range samples() {
		for _, b := range samples() {
			x, y := integer(a), integer(b)
			want, _ := checked(new(big.Int).GCD(nil, nil, x.Abs(x), y.Abs(y)))
			if got := num.GCD(a, b); got != want {
				t.Errorf("GCD(%d, %d): %d, not %d", a, b, got, want)
			}
		}
	}
	for _, c := range [][3]int{{12, -18, 6}, {0, -5, 5}, {-5, 0, 5}, {0, 0, 0}, {math.MinInt, 0, 0}, {0, math.MinInt, 0}, {math.MinInt, math.MinInt, 0}, {math.MinInt, 6, 2}} {
		if got := num.GCD(c[0], c[1]); got != c[2] {
			t.Errorf("GCD(%d, %d): %d, not %d", c[0], c[1], got, c[2])
		}
	}
}

// P1.5
func TestParseReadsDecimalNumbers(t *testing.T) {
	for _, c := range []struct {
		s    string
		want int
		err  api.Errno
	}{
		{"0", 0, api.OK},
		{"7", 7, api.OK},
		{"-7", -7, api.OK},
		{"10", 10, api.OK},
		{"-12", -12, api.OK},
		{"1234567890", 1234567890, api.OK},
		{"9223372036854775807", math.MaxInt, api.OK},
		{"-9223372036854775808", math.MinInt, api.OK},
		{"9223372036854775808", 0, api.ErrOverflow},
		{"-9223372036854775809", 0, api.ErrOverflow},
		{"18446744073709551616", 0, api.ErrOverflow},
		{"-18446744073709551617", 0, api.ErrOverflow},
		{"1" + strings.Repeat("0", 1000), 0, api.ErrOverflow},
		{"-1" + strings.Repeat("0", 1000), 0, api.ErrOverflow},
	} {
		if got, err := num.Parse(c.s); got != c.want || err != c.err {
			t.Errorf("Parse(%q): %d, %v, not %d, %v", c.s, got, err, c.want, c.err)
		}
	}
}

// P1.5
func TestParseRefusesOtherTexts(t *testing.T) {
	for _, s := range []string{
		"", "-", "--1", "-0", "00", "007", "-01", "-00", "+1", "+0", "-+1", "1-", "1-2", " 1", "1 ", "1\n", "\t1", "1a", "a", "x1",
		"0x10", "0b1", "0o7", "1_000", "1,000", "1.0", "1e3", "1\x00", "\x00", "/", ":", "1/", "1:", "\xff", "٣", "1٣", "１", "−1",
		"99999999999999999999x", "-99999999999999999999x", "0" + strings.Repeat("9", 30),
	} {
		if got, err := num.Parse(s); got != 0 || err != api.ErrSyntax {
			t.Errorf("Parse(%q): %d, %v", s, got, err)
		}
	}
}

// P1.6
func TestFormatWritesDecimalNumbers(t *testing.T) {
	for _, n := range samples() {
		if got, want := num.Format(n), integer(n).String(); got != want {
			t.Errorf("Format(%d): %q", n, got)
		}
	}
	for n, want := range map[int]string{0: "0", -1: "-1", 10: "10", -100: "-100", math.MaxInt: "9223372036854775807", math.MinInt: "-9223372036854775808"} {
		if got := num.Format(n); got != want {
			t.Errorf("Format(%d): %q", n, got)
		}
	}
}

// P1.7
func TestQuotientAndRemainderMakeTheProduct(t *testing.T) {
	for _, a := range naturals() {
		for _, b := range naturals() {
			for _, c := range naturals() {
				q, r, err := num.MulDiv(a, b, c)
				if err != api.OK {
					continue
				}
				product := new(big.Int).Mul(integer(a), integer(b))
				sum := new(big.Int).Mul(integer(q), integer(c))
				if sum.Add(sum, integer(r)).Cmp(product) != 0 || r < 0 || r >= c {
					t.Errorf("MulDiv(%d, %d, %d): %d, %d", a, b, c, q, r)
				}
			}
		}
	}
}

// P1.8
func TestSubInvertsAdd(t *testing.T) {
	for _, a := range samples() {
		for _, b := range samples() {
			s, err := num.Add(a, b)
			if err != api.OK {
				continue
			}
			if got, err := num.Sub(s, b); got != a || err != api.OK {
				t.Errorf("Sub(%d, %d): %d, %v, not %d", s, b, got, err, a)
			}
		}
	}
}

// P1.8
func TestParseAndFormatInvertEachOther(t *testing.T) {
	for _, n := range samples() {
		if got, err := num.Parse(num.Format(n)); got != n || err != api.OK {
			t.Errorf("Parse(Format(%d)): %d, %v", n, got, err)
		}
	}
	// All short texts of these bytes: those that are parsed are the very texts that are written.
	const alphabet = "-+019 x"
	texts := []string{""}
	for first, length := 0, 1; length <= 4; length++ {
		end := len(texts)
		for _, s := range texts[first:end] {
			for _, b := range []byte(alphabet) {
				texts = append(texts, s+string(rune(b)))
			}
		}
		first = end
	}
	parsed := 0
	for _, s := range texts {
		n, err := num.Parse(s)
		if err != api.OK {
			continue
		}
		parsed++
		if got := num.Format(n); got != s {
			t.Errorf("Format(Parse(%q)): %q", s, got)
		}
	}
	// These are 0, and a first digit 1 or 9 before up to three of the digits 0, 1 and 9 (up to two after a minus sign).
	if want := 1 + 2*(1+3+9+27) + 2*(1+3+9); parsed != want {
		t.Errorf("%d texts are parsed, not %d", parsed, want)
	}
}

// P1.9
func TestGCDDivides(t *testing.T) {
	for _, a := range samples() {
		for _, b := range samples() {
			if d := num.GCD(a, b); d < 0 || d != 0 && (a%d != 0 || b%d != 0) {
				t.Errorf("GCD(%d, %d): %d", a, b, d)
			}
		}
	}
}
