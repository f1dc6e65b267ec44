package digest_test

import (
	"fmt"
	"hash/fnv"
	"math"
	"math/big"
	"math/rand"
	"strings"
	"testing"

	"lottery/api"
	"lottery/digest"
)

// sum is the FNV-1a digest of a text as package fnv knows it.
func sum(s string) uint64 {
	hash := fnv.New64a()
	hash.Write([]byte(s))
	return hash.Sum64()
}

// mix follows the five steps of the chapter with integers of any length, reduced after each product.
func mix(x uint64) uint64 {
	n := new(big.Int).SetUint64(x)
	shift := func(bits uint) { n.Xor(n, new(big.Int).Rsh(n, bits)) }
	times := func(factor uint64) {
		n.Mul(n, new(big.Int).SetUint64(factor))
		n.SetUint64(n.Uint64())
	}
	shift(30)
	times(0xbf58476d1ce4e5b9)
	shift(27)
	times(0x94d049bb133111eb)
	shift(31)
	return n.Uint64()
}

// texts are texts of every byte, with zeros, invalid UTF-8 and long ones.
func texts() []string {
	list := []string{"", "ab", "ba", "\x00", "\x00\x00", "foobar", "chongo was here!\n", "äöü", "\u0666", "\xff\xfe", "a\x00b", strings.Repeat("x", api.MaxText), strings.Repeat("\xff", 1<<16)}
	for c := range 256 {
		list = append(list, string([]byte{byte(c)}))
	}
	source := rand.New(rand.NewSource(2))
	for n := range 300 {
		text := make([]byte, n)
		source.Read(text)
		list = append(list, string(text))
	}
	return list
}

// words are numbers with one bit, with all bits up to one, their complements and neighbours, and some others.
func words() []uint64 {
	list := []uint64{0, 0x9e3779b97f4a7c15, 0xe220a8397b1dcdaf, 0x0123456789abcdef, 0xfedcba9876543210}
	for bit := range 64 {
		x := uint64(1) << bit
		list = append(list, x, x-1, x+1, ^x, -x)
	}
	source := rand.New(rand.NewSource(3))
	for range 20000 {
		list = append(list, source.Uint64(), source.Uint64()>>source.Intn(64))
	}
	return list
}

func testSum(t *testing.T, s string, want uint64) {
	t.Helper()
	if got := digest.Sum(s); got != want {
		t.Errorf("Sum(%.40q): %x, not %x", s, got, want)
	}
}

func testMix(t *testing.T, x, want uint64) {
	t.Helper()
	if got := digest.Mix(x); got != want {
		t.Errorf("Mix(%x): %x, not %x", x, got, want)
	}
}

func testUnmix(t *testing.T, x, want uint64) {
	t.Helper()
	if got := digest.Unmix(x); got != want {
		t.Errorf("Unmix(%x): %x, not %x", x, got, want)
	}
}

func testKeyed(t *testing.T, key uint64, s string, want uint64) {
	t.Helper()
	if got := digest.Keyed(key, s); got != want {
		t.Errorf("Keyed(%x, %.40q): %x, not %x", key, s, got, want)
	}
}

func testChain(t *testing.T, prev uint64, s string, want uint64) {
	t.Helper()
	if got := digest.Chain(prev, s); got != want {
		t.Errorf("Chain(%x, %.40q): %x, not %x", prev, s, got, want)
	}
}

func testHex(t *testing.T, x uint64, want string) {
	t.Helper()
	if got := digest.Hex(x); got != want {
		t.Errorf("Hex(%d): %q, not %q", x, got, want)
	}
}

func testParseHex(t *testing.T, s string, want uint64, wantErr api.Errno) {
	t.Helper()
	if got, err := digest.ParseHex(s); got != want || err != wantErr {
		t.Errorf("ParseHex(%.40q): %x, %v, not %x, %v", s, got, err, want, wantErr)
	}
}

// P7.1
func TestSumIsTheDigestFNV1a(t *testing.T) {
	testSum(t, "", 14695981039346656037)
	testSum(t, "a", 0xaf63dc4c8601ec8c)
	testSum(t, "foobar", 0x85944171f73967e8)
	for _, s := range texts() {
		testSum(t, s, sum(s))
	}
}

// P7.1
func TestSumFollowsTheOrderOfTheBytes(t *testing.T) {
	for _, c := range [][2]string{{"ab", "ba"}, {"a", "a\x00"}, {"", "\x00"}, {"\x00", "\x00\x00"}, {"a", "A"}, {"\u00e9", "\xe9"}} {
		if digest.Sum(c[0]) == digest.Sum(c[1]) {
			t.Errorf("Sum of %q and of %q are equal", c[0], c[1])
		}
	}
}

// P7.2
func TestMixPerformsFiveSteps(t *testing.T) {
	testMix(t, 0, 0)
	testMix(t, 0x9e3779b97f4a7c15, 0xe220a8397b1dcdaf)
	for _, x := range words() {
		testMix(t, x, mix(x))
	}
}

// P7.2: these are the first numbers of the generator that is known as splitmix64, from seed 1234567.
func TestMixIsTheOneOfSplitmix(t *testing.T) {
	x := uint64(1234567)
	for _, want := range []uint64{6457827717110365317, 3203168211198807973, 9817491932198370423, 4593380528125082431, 16408922859458223821} {
		x += 0x9e3779b97f4a7c15
		testMix(t, x, want)
	}
}

// P7.3, P7.6
func TestUnmixInvertsMix(t *testing.T) {
	testUnmix(t, 0, 0)
	testUnmix(t, 0xe220a8397b1dcdaf, 0x9e3779b97f4a7c15)
	for _, x := range words() {
		testUnmix(t, mix(x), x)
		testUnmix(t, digest.Mix(x), x)
	}
}

// P7.3, P7.6
func TestMixInvertsUnmix(t *testing.T) {
	for _, x := range words() {
		testMix(t, digest.Unmix(x), x)
	}
}

// P7.6
func TestMixGivesEachNumberItsOwnResult(t *testing.T) {
	mixed := map[uint64]uint64{}
	for n := range uint64(100000) {
		for _, x := range []uint64{n, math.MaxUint64 - n} {
			y := digest.Mix(x)
			if other, found := mixed[y]; found {
				t.Fatalf("Mix(%x) and Mix(%x) are %x", other, x, y)
			}
			mixed[y] = x
		}
	}
}

// P7.4
func TestKeyedMixesTheKeyBeforeTheSum(t *testing.T) {
	for _, s := range texts() {
		for _, key := range []uint64{0, 1, 2, 255, 1 << 63, math.MaxUint64, 0x9e3779b97f4a7c15} {
			testKeyed(t, key, s, mix(mix(key)^sum(s)))
		}
	}
	for _, key := range words() {
		testKeyed(t, key, "", mix(mix(key)^0xcbf29ce484222325))
		testKeyed(t, key, "lottery", mix(mix(key)^sum("lottery")))
	}
}

// P7.4
func TestChainMixesThePreviousDigestAndTheSum(t *testing.T) {
	for _, s := range texts() {
		for _, prev := range []uint64{0, 1, 2, 255, 1 << 63, math.MaxUint64, -sum(s), -sum(s) - 1} {
			testChain(t, prev, s, mix(prev+sum(s)))
		}
	}
	for _, prev := range words() {
		testChain(t, prev, "", mix(prev+0xcbf29ce484222325))
		testChain(t, prev, "lottery", mix(prev+sum("lottery")))
	}
	testChain(t, -sum("a"), "a", 0)
}

// P7.5
func TestHexWritesSixteenDigits(t *testing.T) {
	testHex(t, 0, "0000000000000000")
	testHex(t, 255, "00000000000000ff")
	testHex(t, 14695981039346656037, "cbf29ce484222325")
	testHex(t, math.MaxUint64, "ffffffffffffffff")
	testHex(t, 0x0123456789abcdef, "0123456789abcdef")
	for _, x := range words() {
		testHex(t, x, fmt.Sprintf("%016x", x))
	}
}

// P7.5
func TestParseHexReadsSixteenDigits(t *testing.T) {
	testParseHex(t, "0000000000000000", 0, api.OK)
	testParseHex(t, "00000000000000ff", 255, api.OK)
	testParseHex(t, "ffffffffffffffff", math.MaxUint64, api.OK)
	testParseHex(t, "fedcba9876543210", 0xfedcba9876543210, api.OK)
	for _, x := range words() {
		testParseHex(t, fmt.Sprintf("%016x", x), x, api.OK)
	}
}

// P7.5
func TestParseHexAcceptsOnlySmallHexadecimalDigits(t *testing.T) {
	const digits = "0123456789abcdef"
	for place := range 16 {
		for c := range 256 {
			s := strings.Repeat("0", place) + string([]byte{byte(c)}) + strings.Repeat("0", 15-place)
			value := strings.IndexByte(digits, byte(c))
			if value < 0 {
				testParseHex(t, s, 0, api.ErrSyntax)
				continue
			}
			testParseHex(t, s, uint64(value)<<(4*(15-place)), api.OK)
		}
	}
}

// P7.5
func TestParseHexAcceptsOnlySixteenBytes(t *testing.T) {
	for n := range 100 {
		for _, digit := range []string{"0", "1", "f"} {
			if n != 16 {
				testParseHex(t, strings.Repeat(digit, n), 0, api.ErrSyntax)
			}
		}
	}
	for _, s := range []string{
		"ff", "00000000000000FF", "0x000000000000ff", "-000000000000001", "+000000000000001", " 000000000000001", "000000000000001 ",
		"000000000000001\n", "00000000000000_1", "000000000000000\u0660", "00000000000000\u0660", "000000000000000\uff10", "0000000000000\uff10",
		strings.Repeat("\u00e9", 8), strings.Repeat("\u00e9", 16), strings.Repeat("0", 17), strings.Repeat("f", 32), strings.Repeat("0", 1<<16),
	} {
		testParseHex(t, s, 0, api.ErrSyntax)
	}
}

// P7.6
func TestHexAndParseHexAreInverse(t *testing.T) {
	for _, x := range words() {
		testParseHex(t, digest.Hex(x), x, api.OK)
	}
	for _, s := range []string{"0000000000000000", "0000000000000001", "00000000000000ff", "a000000000000000", "0123456789abcdef", "fedcba9876543210", "ffffffffffffffff"} {
		x, err := digest.ParseHex(s)
		if err != api.OK {
			t.Errorf("ParseHex(%q): %v", s, err)
		}
		testHex(t, x, s)
	}
}

// P7.7
func TestOneTextHasADigestOfItsOwnForEachKey(t *testing.T) {
	for _, s := range []string{"", "a", "lottery", "\x00\xff", strings.Repeat("x", 1000)} {
		keyed, chained := map[uint64]uint64{}, map[uint64]uint64{}
		for _, key := range words() {
			if other, found := keyed[digest.Keyed(key, s)]; found && other != key {
				t.Errorf("Keyed of %.40q is the same for %x and %x", s, key, other)
			}
			if other, found := chained[digest.Chain(key, s)]; found && other != key {
				t.Errorf("Chain of %.40q is the same for %x and %x", s, key, other)
			}
			keyed[digest.Keyed(key, s)], chained[digest.Chain(key, s)] = key, key
		}
	}
}

// P7.7: the sum of a text can be read from its keyed digest, so that equal digests have equal sums.
func TestKeyedDigestsAreEqualIfTheSumsAre(t *testing.T) {
	for _, key := range []uint64{0, 1, 1 << 63, math.MaxUint64, 0x0123456789abcdef} {
		for _, s := range texts() {
			if got := digest.Unmix(digest.Keyed(key, s)) ^ digest.Mix(key); got != digest.Sum(s) {
				t.Errorf("Keyed(%x, %.40q) hides the sum %x, not %x", key, s, got, digest.Sum(s))
			}
		}
	}
}

// colliding are lists of texts of one sum: the sum of zeroSum is zero, which bytes of zero do not change.
func colliding() [][]string {
	const zeroSum = "\xd5\x6b\xb9\x53\x42\x87\x08\x36"
	return [][]string{
		{"8yn0iYCKYHlIj4-BwPqk", "GReLUrM4wMqfg9yzV3KQ"},
		{zeroSum, zeroSum + "\x00", zeroSum + strings.Repeat("\x00", 1000)},
	}
}

// P7.7
func TestTextsOfOneSumHaveOneDigestForEachKey(t *testing.T) {
	for _, list := range colliding() {
		for _, s := range list {
			testSum(t, s, digest.Sum(list[0]))
			for _, key := range []uint64{0, 1, 1 << 63, math.MaxUint64, 0x0123456789abcdef} {
				testKeyed(t, key, s, digest.Keyed(key, list[0]))
				testChain(t, key, s, digest.Chain(key, list[0]))
			}
		}
	}
}

// P7.8
func TestSumOfAnAppendedTextDependsOnTheSum(t *testing.T) {
	for _, list := range colliding() {
		for _, s := range list {
			for _, end := range texts() {
				testSum(t, s+end, digest.Sum(list[0]+end))
			}
		}
	}
}

// P7.8
func TestSumGoesOnFromTheSum(t *testing.T) {
	for _, s := range []string{"", "a", "lottery", "\x00\xff", strings.Repeat("x", 1000)} {
		for _, end := range texts() {
			x := digest.Sum(s)
			for i := range len(end) {
				x = (x ^ uint64(end[i])) * 1099511628211
			}
			testSum(t, s+end, x)
		}
	}
}
