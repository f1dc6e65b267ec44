package wire_test

import (
	"bytes"
	"encoding/binary"
	"fmt"
	"hash/fnv"
	"math"
	"math/rand"
	"slices"
	"strings"
	"testing"

	"lottery/api"
	"lottery/wire"
)

// words are unsigned integers around each power of two, and some others.
func words() []uint64 {
	list := []uint64{300, 624485, 0x9e3779b97f4a7c15, 0x0123456789abcdef, 0xfedcba9876543210, 0xaaaaaaaaaaaaaaaa}
	for bit := range 64 {
		x := uint64(1) << bit
		list = append(list, x-1, x, x+1, ^x, -x)
	}
	for x := range uint64(1 << 15) {
		list = append(list, x)
	}
	return list
}

// numbers are signed integers of both signs, with the least and the greatest one.
func numbers() []int {
	var list []int
	for _, x := range words() {
		list = append(list, int(x), -int(x))
	}
	return list
}

// texts are strings with lengths around the bounds of a byte of a varint, and of every byte.
func texts() []string {
	list := []string{"", "a", "ab", "\x00", "\x80", "\xff\xfe", "äöü", "a\x00b\n"}
	for _, n := range []int{127, 128, 129, 255, 256, 16383, 16384, api.MaxText, 1 << 17} {
		list = append(list, strings.Repeat("x", n))
	}
	every := make([]byte, 256)
	for c := range every {
		every[c] = byte(c)
	}
	return append(list, string(every))
}

// lists are lists with lengths around the bounds of a byte of a varint.
func lists() [][]int {
	all := numbers()
	list := [][]int{nil, {}, {0}, {1, -2}, {math.MinInt, math.MaxInt, 0, -1}}
	for _, n := range []int{127, 128, 129, 16383, 16384} {
		list = append(list, all[:n])
	}
	return list
}

// textOf is the encoding of a string as the chapter defines it.
func textOf(s string) []byte {
	return append(binary.AppendUvarint(nil, uint64(len(s))), s...)
}

// intsOf is the encoding of a list as the chapter defines it.
func intsOf(l []int) []byte {
	b := binary.AppendUvarint(nil, uint64(len(l)))
	for _, x := range l {
		b = binary.AppendVarint(b, int64(x))
	}
	return b
}

// frameOf is the frame of a byte string as the chapter defines it.
func frameOf(b []byte) []byte {
	sum := fnv.New64a()
	sum.Write(b)
	frame := append(binary.AppendUvarint(nil, uint64(len(b))), b...)
	return binary.BigEndian.AppendUint64(frame, sum.Sum64())
}

// varintOf is what reading a varint comes to: the integer, its number of bytes, and the error.
func varintOf(b []byte) (uint64, int, api.Errno) {
	n := 0
	for n < len(b) && b[n] >= 128 {
		n++
	}
	if n >= 9 && len(b) >= 10 && b[9] > 1 {
		return 0, 0, api.ErrOverflow
	}
	if n == len(b) {
		return 0, 0, api.ErrTruncated
	}
	if n > 0 && b[n] == 0 {
		return 0, 0, api.ErrCorrupt
	}
	x, size := binary.Uvarint(b)
	return x, size, api.OK
}

// many is so many equal bytes, and others after them.
func many(n int, c byte, then ...byte) []byte {
	return append(bytes.Repeat([]byte{c}, n), then...)
}

// varints are the beginnings of byte strings that are varints, and of some that are not.
func varints() [][]byte {
	list := [][]byte{nil}
	for a := range 256 {
		list = append(list, []byte{byte(a)})
		for b := range 256 {
			list = append(list, []byte{byte(a), byte(b)}, []byte{byte(a), byte(b), 0}, []byte{byte(a), byte(b), 5})
		}
	}
	for _, head := range []byte{128, 129, 200, 255} {
		for n := range 13 {
			list = append(list, many(n, head))
			for last := range 256 {
				list = append(list, many(n, head, byte(last)), many(n, head, byte(last), 0), many(n, head, byte(last), 7, 255))
			}
		}
	}
	return list
}

func testBytes(t *testing.T, what string, w *wire.Writer, want []byte) {
	t.Helper()
	if got := w.Bytes(); !bytes.Equal(got, want) {
		t.Errorf("%s: wrote %v, not %v", what, got, want)
	}
}

// testFailed tests that a reader has failed with an error, and that all its calls return zero values from then on.
func testFailed(t *testing.T, what string, r *wire.Reader, want api.Errno) {
	t.Helper()
	for range 2 {
		if err := r.Err(); err != want {
			t.Errorf("%s: Err is %d, not %d", what, err, want)
		}
		if n := r.Left(); n != 0 {
			t.Errorf("%s: %d bytes are left after an error", what, n)
		}
		if x := r.Int(); x != 0 {
			t.Errorf("%s: Int after an error is %d", what, x)
		}
		if x := r.Uint(); x != 0 {
			t.Errorf("%s: Uint after an error is %d", what, x)
		}
		for _, most := range []int{math.MinInt, -1, 0, 1, math.MaxInt} {
			if s := r.Text(most); s != "" {
				t.Errorf("%s: Text after an error is %q", what, s)
			}
			if l := r.Ints(most); len(l) != 0 {
				t.Errorf("%s: Ints after an error is %v", what, l)
			}
		}
	}
}

// testLeft tests that a reader has not failed, and how many bytes are left.
func testLeft(t *testing.T, what string, r *wire.Reader, want int) {
	t.Helper()
	if err, n := r.Err(), r.Left(); err != api.OK || n != want {
		t.Errorf("%s: %d bytes are left with the error %d, not %d bytes", what, n, err, want)
	}
}

// P8.1
func TestANewWriterHasWrittenNothing(t *testing.T) {
	testBytes(t, "a new writer", wire.NewWriter(), nil)
}

// P8.1
func TestUintWritesAVarint(t *testing.T) {
	for _, c := range []struct {
		x    uint64
		want []byte
	}{
		{0, []byte{0}},
		{1, []byte{1}},
		{127, []byte{127}},
		{128, []byte{128, 1}},
		{300, []byte{172, 2}},
		{16383, []byte{255, 127}},
		{16384, []byte{128, 128, 1}},
		{1 << 63, many(9, 128, 1)},
		{1<<63 - 1, many(8, 255, 127)},
		{1<<64 - 1, many(9, 255, 1)},
	} {
		w := wire.NewWriter()
		w.Uint(c.x)
		testBytes(t, fmt.Sprint("Uint of ", c.x), w, c.want)
	}
	for _, x := range words() {
		w := wire.NewWriter()
		w.Uint(x)
		testBytes(t, fmt.Sprint("Uint of ", x), w, binary.AppendUvarint(nil, x))
	}
}

// P8.1
func TestIntWritesTheVarintOfAZigzagCode(t *testing.T) {
	for _, c := range []struct {
		x    int
		want []byte
	}{
		{0, []byte{0}},
		{-1, []byte{1}},
		{1, []byte{2}},
		{-2, []byte{3}},
		{63, []byte{126}},
		{-64, []byte{127}},
		{64, []byte{128, 1}},
		{-65, []byte{129, 1}},
		{math.MaxInt, many(1, 254, many(8, 255, 1)...)},
		{math.MinInt, many(9, 255, 1)},
	} {
		w := wire.NewWriter()
		w.Int(c.x)
		testBytes(t, fmt.Sprint("Int of ", c.x), w, c.want)
	}
	for _, x := range numbers() {
		w := wire.NewWriter()
		w.Int(x)
		testBytes(t, fmt.Sprint("Int of ", x), w, binary.AppendVarint(nil, int64(x)))
	}
}

// P8.1
func TestTextWritesALengthAndBytes(t *testing.T) {
	w := wire.NewWriter()
	w.Text("ab")
	testBytes(t, "Text of ab", w, []byte{2, 97, 98})
	for _, s := range texts() {
		w := wire.NewWriter()
		w.Text(s)
		testBytes(t, fmt.Sprint("Text of ", len(s), " bytes"), w, textOf(s))
	}
}

// P8.1
func TestIntsWritesANumberAndElements(t *testing.T) {
	w := wire.NewWriter()
	w.Ints([]int{1, -2})
	testBytes(t, "Ints of 1 and -2", w, []byte{2, 2, 3})
	for _, l := range lists() {
		w := wire.NewWriter()
		w.Ints(l)
		testBytes(t, fmt.Sprint("Ints of ", len(l), " elements"), w, intsOf(l))
	}
}

// P8.1
func TestAWriterCanBeUsedAfterBytes(t *testing.T) {
	w := wire.NewWriter()
	var want []byte
	for range 200 {
		w.Uint(300)
		want = append(want, 172, 2)
		testBytes(t, "Uint", w, want)
		w.Int(-1)
		want = append(want, 1)
		testBytes(t, "Int", w, want)
		w.Text("ab")
		want = append(want, 2, 97, 98)
		testBytes(t, "Text", w, want)
		w.Ints([]int{1, -2})
		want = append(want, 2, 2, 3)
		testBytes(t, "Ints", w, want)
	}
}

// P8.1
func TestWritersAreSeparate(t *testing.T) {
	v, w := wire.NewWriter(), wire.NewWriter()
	v.Uint(1)
	w.Text("a")
	v.Uint(2)
	testBytes(t, "the first writer", v, []byte{1, 2})
	testBytes(t, "the second writer", w, []byte{1, 97})
}

// P8.1, Rule R3
func TestBytesIsNewMemory(t *testing.T) {
	w := wire.NewWriter()
	w.Uint(5)
	first, second := w.Bytes(), w.Bytes()
	spare := first[:cap(first)]
	for i := range spare {
		spare[i] = 99
	}
	if !bytes.Equal(second, []byte{5}) {
		t.Errorf("two results share memory: %v", second)
	}
	w.Uint(6)
	testBytes(t, "after a change of a result", w, []byte{5, 6})
	if first[0] != 99 || !bytes.Equal(second, []byte{5}) {
		t.Errorf("a write changed earlier results: %v, %v", first, second)
	}
}

// Rule R3
func TestIntsLeavesItsArgument(t *testing.T) {
	whole := []int{7, -8, 9, 10}
	w := wire.NewWriter()
	w.Ints(whole[:2])
	if !slices.Equal(whole, []int{7, -8, 9, 10}) {
		t.Errorf("Ints changed its argument: %v", whole)
	}
	whole[0] = 1
	testBytes(t, "after a change of the list", w, []byte{2, 14, 15})
}

// P8.2
func TestUintReadsVarints(t *testing.T) {
	for _, x := range words() {
		b := binary.AppendUvarint(nil, x)
		r := wire.NewReader(append(b, 77, 78))
		if got := r.Uint(); got != x {
			t.Errorf("Uint of %v is %d, not %d", b, got, x)
		}
		testLeft(t, fmt.Sprint("Uint of ", b), r, 2)
	}
}

// P8.2
func TestIntReadsZigzagCodes(t *testing.T) {
	for _, x := range numbers() {
		b := binary.AppendVarint(nil, int64(x))
		r := wire.NewReader(append(b, 77, 78))
		if got := r.Int(); got != x {
			t.Errorf("Int of %v is %d, not %d", b, got, x)
		}
		testLeft(t, fmt.Sprint("Int of ", b), r, 2)
	}
}

// P8.2
func TestReadingAnIntegerFails(t *testing.T) {
	for _, c := range []struct {
		b    []byte
		want api.Errno
	}{
		{nil, api.ErrTruncated},
		{[]byte{128}, api.ErrTruncated},
		{many(9, 255), api.ErrTruncated},
		{many(9, 128), api.ErrTruncated},
		{[]byte{128, 0}, api.ErrCorrupt},
		{[]byte{255, 128, 0}, api.ErrCorrupt},
		{[]byte{128, 0, 128}, api.ErrCorrupt},
		{many(8, 255, 0), api.ErrCorrupt},
		{many(9, 255, 0), api.ErrCorrupt},
		{many(9, 255, 2), api.ErrOverflow},
		{many(9, 128, 2), api.ErrOverflow},
		{many(9, 128, 128), api.ErrOverflow},
		{many(9, 128, 129), api.ErrOverflow},
		{many(9, 128, 128, 0), api.ErrOverflow},
		{many(10, 255), api.ErrOverflow},
		{many(20, 255), api.ErrOverflow},
	} {
		r := wire.NewReader(c.b)
		if x := r.Uint(); x != 0 {
			t.Errorf("Uint of %v is %d with an error", c.b, x)
		}
		testFailed(t, fmt.Sprint("Uint of ", c.b), r, c.want)
		r = wire.NewReader(c.b)
		if x := r.Int(); x != 0 {
			t.Errorf("Int of %v is %d with an error", c.b, x)
		}
		testFailed(t, fmt.Sprint("Int of ", c.b), r, c.want)
	}
}

// P8.2
func TestEveryBeginningOfAVarintIsReadAsDefined(t *testing.T) {
	for _, b := range varints() {
		x, size, err := varintOf(b)
		left := 0
		if err == api.OK {
			left = len(b) - size
		}
		r := wire.NewReader(b)
		if got := r.Uint(); got != x || r.Err() != err || r.Left() != left {
			t.Fatalf("Uint of %v is %d, error %d, %d left, not %d, error %d, %d left", b, got, r.Err(), r.Left(), x, err, left)
		}
		signed := int(x >> 1)
		if x&1 == 1 {
			signed = ^signed
		}
		r = wire.NewReader(b)
		if got := r.Int(); got != signed || r.Err() != err || r.Left() != left {
			t.Fatalf("Int of %v is %d, error %d, %d left, not %d, error %d, %d left", b, got, r.Err(), r.Left(), signed, err, left)
		}
	}
}

// P8.2, Rule R3
func TestAReaderReadsACopy(t *testing.T) {
	whole := []byte{2, 97, 98, 2, 2, 3, 9, 9}
	b := whole[:6]
	r := wire.NewReader(b)
	if s := r.Text(2); s != "ab" {
		t.Errorf("Text is %q", s)
	}
	for i := range b {
		b[i] = 128
	}
	if l := r.Ints(2); !slices.Equal(l, []int{1, -2}) {
		t.Errorf("Ints is %v after a change of the argument", l)
	}
	testLeft(t, "a reader of a copy", r, 0)
	if !bytes.Equal(whole, append(many(6, 128), 9, 9)) {
		t.Errorf("the reader changed its argument: %v", whole)
	}
}

// P8.3
func TestTextReadsStrings(t *testing.T) {
	for _, s := range texts() {
		for _, most := range []int{len(s), len(s) + 1, math.MaxInt} {
			r := wire.NewReader(append(textOf(s), 1, 2, 3))
			if got := r.Text(most); got != s {
				t.Errorf("Text of %d bytes has %d bytes or differs", len(s), len(got))
			}
			testLeft(t, fmt.Sprint("Text of ", len(s), " bytes"), r, 3)
		}
	}
}

// A failure is a byte string and a limit with which reading fails, and the error.
type failure struct {
	b    []byte
	most int
	want api.Errno
}

func testTextFails(t *testing.T, c failure) {
	t.Helper()
	r := wire.NewReader(c.b)
	if s := r.Text(c.most); s != "" {
		t.Errorf("Text(%d) of %v is %q with an error", c.most, c.b, s)
	}
	testFailed(t, fmt.Sprint("Text(", c.most, ") of ", c.b), r, c.want)
}

func testIntsFails(t *testing.T, c failure) {
	t.Helper()
	r := wire.NewReader(c.b)
	if l := r.Ints(c.most); len(l) != 0 {
		t.Errorf("Ints(%d) of %v is %v with an error", c.most, c.b, l)
	}
	testFailed(t, fmt.Sprint("Ints(", c.most, ") of ", c.b), r, c.want)
}

// P8.3
func TestReadingALengthFails(t *testing.T) {
	for _, c := range []failure{
		{nil, 5, api.ErrTruncated},
		{nil, -1, api.ErrTruncated},
		{[]byte{128}, 5, api.ErrTruncated},
		{[]byte{130, 0, 97, 98}, 5, api.ErrCorrupt},
		{[]byte{130, 0, 97, 98}, 0, api.ErrCorrupt},
		{many(9, 255, 2), math.MaxInt, api.ErrOverflow},
		{many(9, 255, 2), 0, api.ErrOverflow},
		{many(10, 128), 0, api.ErrOverflow},
		{[]byte{2, 97}, 1, api.ErrLimit},
		{[]byte{2, 97}, 2, api.ErrTruncated},
		{[]byte{2, 97, 98}, 1, api.ErrLimit},
		{[]byte{2, 128, 0}, 1, api.ErrLimit},
		{[]byte{1, 97}, 0, api.ErrLimit},
		{[]byte{1, 97}, -1, api.ErrLimit},
		{[]byte{1, 97}, math.MinInt, api.ErrLimit},
		{[]byte{1}, 0, api.ErrLimit},
		{[]byte{1}, 1, api.ErrTruncated},
		{binary.AppendUvarint(nil, math.MaxInt), math.MaxInt, api.ErrTruncated},
		{append(binary.AppendUvarint(nil, math.MaxInt), 1, 2, 3), math.MaxInt, api.ErrTruncated},
		{binary.AppendUvarint(nil, math.MaxInt), math.MaxInt - 1, api.ErrLimit},
		{binary.AppendUvarint(nil, 1<<63), math.MaxInt, api.ErrLimit},
		{binary.AppendUvarint(nil, math.MaxUint64), math.MaxInt, api.ErrLimit},
		{binary.AppendUvarint(nil, math.MaxUint64), -1, api.ErrLimit},
	} {
		testTextFails(t, c)
		testIntsFails(t, c)
	}
}

// P8.3
func TestTextOfTooFewBytesFails(t *testing.T) {
	for n := 1; n < 300; n++ {
		b := textOf(strings.Repeat("\x80", n))
		for _, most := range []int{n, math.MaxInt} {
			testTextFails(t, failure{b[:len(b)-1], most, api.ErrTruncated})
		}
		testTextFails(t, failure{b, n - 1, api.ErrLimit})
	}
}

// P8.3
func TestAnEmptyTextIsInEveryLimit(t *testing.T) {
	for _, most := range []int{math.MinInt, -1, 0, 1, math.MaxInt} {
		r := wire.NewReader([]byte{0, 0, 5})
		if s := r.Text(most); s != "" {
			t.Errorf("Text(%d) is %q", most, s)
		}
		testLeft(t, "an empty text", r, 2)
		if l := r.Ints(most); len(l) != 0 {
			t.Errorf("Ints(%d) is %v", most, l)
		}
		testLeft(t, "an empty list", r, 1)
	}
}

// P8.3
func TestIntsReadsLists(t *testing.T) {
	for _, l := range lists() {
		for _, most := range []int{len(l), len(l) + 1, math.MaxInt} {
			r := wire.NewReader(append(intsOf(l), 1, 2, 3))
			if got := r.Ints(most); !slices.Equal(got, l) {
				t.Errorf("Ints of %d elements has %d elements or differs", len(l), len(got))
			}
			testLeft(t, fmt.Sprint("Ints of ", len(l), " elements"), r, 3)
		}
	}
}

// P8.3
func TestReadingAnElementFails(t *testing.T) {
	for _, c := range []failure{
		{[]byte{2, 2}, 2, api.ErrTruncated},
		{[]byte{2, 2, 131}, 2, api.ErrTruncated},
		{[]byte{9, 2, 131, 0}, 9, api.ErrCorrupt},
		{[]byte{2, 131, 0, 128}, 2, api.ErrCorrupt},
		{many(1, 9, many(9, 255, 2)...), 9, api.ErrOverflow},
		{many(1, 2, many(10, 255, 128, 0)...), 2, api.ErrOverflow},
		{many(1, 2, 128, 0, 128, 128), 2, api.ErrCorrupt},
		{append(binary.AppendUvarint(nil, math.MaxInt), 1, 2, 128, 0), math.MaxInt, api.ErrCorrupt},
	} {
		testIntsFails(t, c)
	}
}

// P8.3, Rule R3
func TestListsAreNewMemory(t *testing.T) {
	r := wire.NewReader([]byte{2, 2, 3, 2, 4, 6})
	first := r.Ints(2)
	first = first[:cap(first)]
	for i := range first {
		first[i] = 99
	}
	second := r.Ints(2)
	if !slices.Equal(second, []int{2, 3}) || first[0] != 99 || first[1] != 99 {
		t.Errorf("two lists share memory: %v, %v", first, second)
	}
}

// P8.4
func TestTheFirstErrorStays(t *testing.T) {
	// What follows would fail with another error each time.
	r := wire.NewReader([]byte{128, 0, 1, 97, 128})
	r.Uint()
	testFailed(t, "Uint", r, api.ErrCorrupt)
	r = wire.NewReader(many(10, 255, 128, 0))
	r.Int()
	testFailed(t, "Int", r, api.ErrOverflow)
	r = wire.NewReader([]byte{2, 97, 128, 0})
	r.Text(1)
	testFailed(t, "Text", r, api.ErrLimit)
	r = wire.NewReader([]byte{9, 97, 128, 0})
	r.Text(9)
	testFailed(t, "Text", r, api.ErrTruncated)
	r = wire.NewReader([]byte{1, 128, 0, 128})
	r.Ints(1)
	testFailed(t, "Ints", r, api.ErrCorrupt)
	r = wire.NewReader([]byte{2, 4, 5, 128, 0})
	r.Ints(1)
	testFailed(t, "Ints", r, api.ErrLimit)
}

// P8.4
func TestAReaderFailsAfterValuesThatItRead(t *testing.T) {
	r := wire.NewReader([]byte{172, 2, 1, 2, 97, 98, 2, 2, 3, 7})
	testLeft(t, "a new reader", r, 10)
	if x := r.Uint(); x != 300 {
		t.Errorf("Uint is %d", x)
	}
	testLeft(t, "Uint", r, 8)
	if x := r.Int(); x != -1 {
		t.Errorf("Int is %d", x)
	}
	testLeft(t, "Int", r, 7)
	if s := r.Text(2); s != "ab" {
		t.Errorf("Text is %q", s)
	}
	testLeft(t, "Text", r, 4)
	if l := r.Ints(2); !slices.Equal(l, []int{1, -2}) {
		t.Errorf("Ints is %v", l)
	}
	testLeft(t, "Ints", r, 1)
	r.Text(7)
	testFailed(t, "Text", r, api.ErrTruncated)
}

// P8.4
func TestAReaderOfNothing(t *testing.T) {
	for _, b := range [][]byte{nil, {}} {
		r := wire.NewReader(b)
		testLeft(t, "a reader of nothing", r, 0)
		r.Int()
		testFailed(t, "a reader of nothing", r, api.ErrTruncated)
	}
}

// P8.5
func TestFrameWritesLengthBytesAndDigest(t *testing.T) {
	empty := []byte{0, 0xcb, 0xf2, 0x9c, 0xe4, 0x84, 0x22, 0x23, 0x25}
	for _, b := range [][]byte{nil, {}} {
		if got := wire.Frame(b); !bytes.Equal(got, empty) {
			t.Errorf("the frame of nothing is %v", got)
		}
	}
	if got := wire.Frame([]byte("a")); !bytes.Equal(got, []byte{1, 97, 0xaf, 0x63, 0xdc, 0x4c, 0x86, 0x01, 0xec, 0x8c}) {
		t.Errorf("the frame of a is %v", got)
	}
	for _, s := range texts() {
		if got := wire.Frame([]byte(s)); !bytes.Equal(got, frameOf([]byte(s))) {
			t.Errorf("the frame of %d bytes differs", len(s))
		}
	}
}

// P8.5
func TestNextReadsTheFrameAtAnOffset(t *testing.T) {
	for _, s := range texts() {
		frame := wire.Frame([]byte(s))
		for _, before := range []int{0, 1, 200} {
			for _, after := range []int{0, 1, 9} {
				b := slices.Concat(many(before, 255), frame, many(after, 128))
				got, at, err := wire.Next(b, before)
				if string(got) != s || at != before+len(frame) || err != api.OK {
					t.Errorf("Next(.., %d) of %d bytes is %d bytes, %d, error %d", before, len(s), len(got), at, err)
				}
			}
		}
	}
}

// P8.5
func TestNextFails(t *testing.T) {
	empty := wire.Frame(nil)
	sum := empty[1:]
	huge := func(n uint64) []byte { return append(binary.AppendUvarint(nil, n), make([]byte, 40)...) }
	for _, c := range []struct {
		b    []byte
		at   int
		want api.Errno
	}{
		{nil, -1, api.ErrRange},
		{nil, 0, api.ErrTruncated},
		{nil, 1, api.ErrRange},
		{empty, -1, api.ErrRange},
		{empty, math.MinInt, api.ErrRange},
		{empty, 9, api.ErrTruncated},
		{empty, 10, api.ErrRange},
		{empty, math.MaxInt, api.ErrRange},
		{append(empty, empty...)[:9], 10, api.ErrRange},
		{[]byte{128, 0}, -1, api.ErrRange},
		{[]byte{128, 0}, 3, api.ErrRange},
		{[]byte{128}, 0, api.ErrTruncated},
		{[]byte{0, 128}, 1, api.ErrTruncated},
		{append([]byte{128, 0}, sum...), 0, api.ErrCorrupt},
		{append([]byte{7, 128, 0}, sum...), 1, api.ErrCorrupt},
		{append(many(9, 128, 2), sum...), 0, api.ErrOverflow},
		{append(many(10, 255), sum...), 0, api.ErrOverflow},
		{many(1, 0, 1, 2, 3, 4, 5, 6, 7), 0, api.ErrTruncated},
		{many(1, 0, 1, 2, 3, 4, 5, 6, 7, 8), 0, api.ErrCorrupt},
		{many(1, 1, 1, 2, 3, 4, 5, 6, 7, 8), 0, api.ErrTruncated},
		{many(1, 5, 1, 2, 3), 0, api.ErrTruncated},
		{huge(33), 0, api.ErrTruncated},
		{huge(32), 0, api.ErrCorrupt},
		{huge(1 << 32), 0, api.ErrTruncated},
		{huge(math.MaxInt), 0, api.ErrTruncated},
		{huge(math.MaxInt - 8), 0, api.ErrTruncated},
		{huge(1 << 63), 0, api.ErrTruncated},
		{huge(math.MaxUint64), 0, api.ErrTruncated},
		{huge(math.MaxUint64 - 7), 0, api.ErrTruncated},
		{huge(math.MaxUint64 - 8), 0, api.ErrTruncated},
	} {
		testNextFails(t, c.b, c.at, c.want)
	}
}

func testNextFails(t *testing.T, b []byte, at int, want api.Errno) {
	t.Helper()
	got, after, err := wire.Next(b, at)
	if len(got) != 0 || after != 0 || err != want {
		t.Errorf("Next(%v, %d) is %v, %d, error %d, not error %d", b, at, got, after, err, want)
	}
}

// P8.5
func TestNextOfEveryPartOfAFrameFails(t *testing.T) {
	for _, n := range []int{0, 1, 40, 130} {
		frame := wire.Frame(many(n, 'a'))
		for end := range frame {
			testNextFails(t, frame[:end], 0, api.ErrTruncated)
			testNextFails(t, append(many(5, 0), frame[:end]...), 5, api.ErrTruncated)
		}
	}
}

// P8.5
func TestNextOfEveryChangedFrameFails(t *testing.T) {
	for _, n := range []int{0, 1, 40, 130} {
		frame := wire.Frame(many(n, 'a'))
		start := len(frame) - n - 8
		for i := start; i < len(frame); i++ {
			for bit := range 8 {
				b := slices.Clone(frame)
				b[i] ^= 1 << bit
				testNextFails(t, b, 0, api.ErrCorrupt)
			}
		}
	}
}

// P8.5
func TestNextOfAnyBytesIsAsDefined(t *testing.T) {
	source := rand.New(rand.NewSource(8))
	for range 20000 {
		frame := frameOf(many(source.Intn(4), byte(source.Intn(256))))
		if source.Intn(3) == 0 {
			frame[source.Intn(len(frame))] ^= 1 << source.Intn(8)
		}
		b := slices.Concat(many(source.Intn(3), byte(source.Intn(256))), frame, many(source.Intn(3), 0))
		at := source.Intn(len(b)+3) - 1
		want, after, wantErr := nextOf(b, at)
		got, next, err := wire.Next(b, at)
		if !bytes.Equal(got, want) || next != after || err != wantErr {
			t.Fatalf("Next(%v, %d) is %v, %d, error %d, not %v, %d, error %d", b, at, got, next, err, want, after, wantErr)
		}
	}
}

// nextOf is what Next comes to, by the definition of a frame.
func nextOf(b []byte, at int) ([]byte, int, api.Errno) {
	if at < 0 || at > len(b) {
		return nil, 0, api.ErrRange
	}
	n, size, err := varintOf(b[at:])
	if err != api.OK {
		return nil, 0, err
	}
	rest := b[at+size:]
	if n > 1<<20 || len(rest) < int(n)+8 {
		return nil, 0, api.ErrTruncated
	}
	frame := frameOf(rest[:n])
	if !bytes.HasPrefix(b[at:], frame) {
		return nil, 0, api.ErrCorrupt
	}
	return rest[:n], at + len(frame), api.OK
}

// Rule R3
func TestFramesAreNewMemory(t *testing.T) {
	whole := []byte("abcdef")
	frame := wire.Frame(whole[:3])
	if string(whole) != "abcdef" {
		t.Errorf("Frame changed its argument: %q", whole)
	}
	copy(whole, "xyz")
	if !bytes.Equal(frame, frameOf([]byte("abc"))) {
		t.Errorf("the frame shares memory with the argument: %v", frame)
	}
	got, _, _ := wire.Next(frame, 0)
	got = append(got, 1, 2, 3)
	if !bytes.Equal(frame, frameOf([]byte("abc"))) {
		t.Errorf("the bytes of a frame share memory with it: %v", frame)
	}
	got[0] = 'x'
	again, _, err := wire.Next(frame, 0)
	if string(again) != "abc" || err != api.OK {
		t.Errorf("the bytes of a frame share memory with it: %q, error %d", again, err)
	}
	frame[1] = 'y'
	if string(again) != "abc" {
		t.Errorf("the bytes of a frame share memory with it: %q", again)
	}
}

// Rule R4
func TestANilWriterWritesNothing(t *testing.T) {
	var w *wire.Writer
	w.Int(-300)
	w.Uint(300)
	w.Text("ab")
	w.Ints([]int{1, -2})
	testBytes(t, "a nil writer", w, nil)
}

// Rule R4
func TestANilReaderReadsNothing(t *testing.T) {
	testFailed(t, "a nil reader", nil, api.ErrNone)
}

// Rule R1
func TestPlainObjectsDoNotPanic(t *testing.T) {
	var w wire.Writer
	w.Int(1)
	w.Uint(2)
	w.Text("a")
	w.Ints([]int{3})
	w.Bytes()
	var r wire.Reader
	r.Left()
	r.Int()
	r.Uint()
	r.Text(1)
	r.Ints(1)
	r.Err()
}

// A value is one of the values that can be written: the call, and what it writes.
type value struct {
	call int
	x    int
	u    uint64
	s    string
	l    []int
}

func (v value) write(w *wire.Writer) {
	switch v.call {
	case 0:
		w.Int(v.x)
	case 1:
		w.Uint(v.u)
	case 2:
		w.Text(v.s)
	default:
		w.Ints(v.l)
	}
}

// read reads a value by this call.
func read(r *wire.Reader, call, most int) value {
	v := value{call: call}
	switch call {
	case 0:
		v.x = r.Int()
	case 1:
		v.u = r.Uint()
	case 2:
		v.s = r.Text(most)
	default:
		v.l = r.Ints(most)
	}
	return v
}

func equal(v, w value) bool {
	return v.call == w.call && v.x == w.x && v.u == w.u && v.s == w.s && slices.Equal(v.l, w.l)
}

// anyValue is a value with numbers of any length.
func anyValue(source *rand.Rand) value {
	number := func() uint64 { return source.Uint64() >> source.Intn(64) }
	switch call := source.Intn(4); call {
	case 0:
		return value{call: call, x: int(number())}
	case 1:
		return value{call: call, u: number()}
	case 2:
		text := make([]byte, source.Intn(200))
		source.Read(text)
		return value{call: call, s: string(text)}
	default:
		list := make([]int, source.Intn(200))
		for i := range list {
			list[i] = int(number())
		}
		return value{call: call, l: list}
	}
}

// P8.6
func TestAReaderReadsWhatAWriterWrote(t *testing.T) {
	source := rand.New(rand.NewSource(86))
	for range 500 {
		list := make([]value, source.Intn(30))
		w := wire.NewWriter()
		for i := range list {
			list[i] = anyValue(source)
			list[i].write(w)
		}
		r := wire.NewReader(w.Bytes())
		for i, v := range list {
			if got := read(r, v.call, max(len(v.s), len(v.l))); !equal(got, v) {
				t.Fatalf("value %d is %v, not %v", i, got, v)
			}
		}
		testLeft(t, "what a writer wrote", r, 0)
	}
}

// P8.6
func TestNextReadsFramesOneAfterTheOther(t *testing.T) {
	source := rand.New(rand.NewSource(5))
	var list [][]byte
	var all []byte
	for range 20000 {
		b := make([]byte, source.Intn(300))
		source.Read(b)
		list = append(list, b)
		all = append(all, wire.Frame(b)...)
	}
	at := 0
	for i, b := range list {
		got, after, err := wire.Next(all, at)
		if !bytes.Equal(got, b) || err != api.OK {
			t.Fatalf("frame %d is %v, error %d, not %v", i, got, err, b)
		}
		at = after
	}
	if at != len(all) {
		t.Errorf("the frames end at %d, not %d", at, len(all))
	}
	testNextFails(t, all, at, api.ErrTruncated)
}

// P8.7
func TestAWriterWritesWhatAReaderRead(t *testing.T) {
	source := rand.New(rand.NewSource(87))
	parts := []byte{0, 1, 2, 3, 127, 128, 129, 130, 255}
	for range 200000 {
		b := make([]byte, source.Intn(14))
		for i := range b {
			b[i] = parts[source.Intn(len(parts))]
		}
		r := wire.NewReader(b)
		w := wire.NewWriter()
		for range 3 {
			before := r.Left()
			v := read(r, source.Intn(4), 200)
			if r.Err() != api.OK {
				break
			}
			if before == r.Left() {
				t.Fatalf("a value of %v has no bytes", b)
			}
			v.write(w)
			testBytes(t, fmt.Sprint("the values of ", b), w, b[:len(b)-r.Left()])
		}
	}
}
