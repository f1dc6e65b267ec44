package calendar_test

import (
	"fmt"
	"math"
	"math/rand"
	"strings"
	"testing"
	"time"

	"lottery/api"
	"lottery/calendar"
)

const dayMinutes = 1440

// dateOf is the date of a day as package time knows it; days beyond every limit have one, too.
func dateOf(day int) time.Time {
	return time.Date(2000, time.January, 1+day, 0, 0, 0, 0, time.UTC)
}

// dayOf is the day of a date as package time knows it, also of a date that is not a day of this layer.
func dayOf(date time.Time) int {
	return int((date.Unix() - dateOf(0).Unix()) / (24 * 60 * 60))
}

// weekdayOf counts from Monday, package time from Sunday.
func weekdayOf(day int) int {
	return (int(dateOf(day).Weekday()) + 6) % 7
}

// text is the time t as package time writes it.
func text(t int) string {
	return time.Date(2000, time.January, 1, 0, t, 0, 0, time.UTC).Format("2006-01-02 15:04")
}

// notDays are ints that are not days.
func notDays() []int {
	return []int{-1, -2, -365, -api.MaxDay, math.MinInt, math.MinInt + 1, api.MaxDay, api.MaxDay + 1, api.MaxTime, 1 << 32, math.MaxInt - 1, math.MaxInt}
}

// notTimes are ints that are not times.
func notTimes() []int {
	return []int{-1, -2, -dayMinutes, math.MinInt, math.MinInt + 1, api.MaxTime + 1, api.MaxTime + dayMinutes, 1 << 32, math.MaxInt - 1, math.MaxInt}
}

// days are the first and the last days, those around the ends of years, and some others.
func days() []int {
	var list []int
	for n := range 100 {
		list = append(list, n, api.MaxDay-1-n)
	}
	for year := 2001; year <= 4041; year++ {
		newYear := dayOf(time.Date(year, time.January, 1, 0, 0, 0, 0, time.UTC))
		list = append(list, newYear-1, newYear, newYear+58, newYear+59, newYear+60)
	}
	source := rand.New(rand.NewSource(1))
	for range 1000 {
		list = append(list, source.Intn(api.MaxDay))
	}
	return list
}

// times are some times of these days, and all times of the day MaxDay.
func times() []int {
	var list []int
	for _, day := range days() {
		list = append(list, day*dayMinutes, day*dayMinutes+1+day%1438, day*dayMinutes+1439)
	}
	for t := api.MaxDay * dayMinutes; t <= api.MaxTime; t++ {
		list = append(list, t)
	}
	return list
}

func testDay(t *testing.T, y, m, d, want int, wantErr api.Errno) {
	t.Helper()
	if got, err := calendar.Day(y, m, d); got != want || err != wantErr {
		t.Errorf("Day(%d, %d, %d): %d, %v, not %d, %v", y, m, d, got, err, want, wantErr)
	}
}

func testDate(t *testing.T, day, wantYear, wantMonth, wantDay int, wantErr api.Errno) {
	t.Helper()
	if y, m, d, err := calendar.Date(day); y != wantYear || m != wantMonth || d != wantDay || err != wantErr {
		t.Errorf("Date(%d): %d, %d, %d, %v, not %d, %d, %d, %v", day, y, m, d, err, wantYear, wantMonth, wantDay, wantErr)
	}
}

func testWeekday(t *testing.T, day, want int, wantErr api.Errno) {
	t.Helper()
	if got, err := calendar.Weekday(day); got != want || err != wantErr {
		t.Errorf("Weekday(%d): %d, %v, not %d, %v", day, got, err, want, wantErr)
	}
}

func testAge(t *testing.T, birth, day, want int, wantErr api.Errno) {
	t.Helper()
	if got, err := calendar.Age(birth, day); got != want || err != wantErr {
		t.Errorf("Age(%d, %d): %d, %v, not %d, %v", birth, day, got, err, want, wantErr)
	}
}

func testPeriod(t *testing.T, at, kind, wantFirst, wantLast int, wantErr api.Errno) {
	t.Helper()
	if first, last, err := calendar.Period(at, kind); first != wantFirst || last != wantLast || err != wantErr {
		t.Errorf("Period(%d, %d): %d, %d, %v, not %d, %d, %v", at, kind, first, last, err, wantFirst, wantLast, wantErr)
	}
}

func testNext(t *testing.T, days, at, after, want int, wantErr api.Errno) {
	t.Helper()
	if got, err := calendar.Next(days, at, after); got != want || err != wantErr {
		t.Errorf("Next(%b, %d, %d): %d, %v, not %d, %v", days, at, after, got, err, want, wantErr)
	}
}

func testParse(t *testing.T, s string, want int, wantErr api.Errno) {
	t.Helper()
	if got, err := calendar.Parse(s); got != want || err != wantErr {
		t.Errorf("Parse(%q): %d, %v, not %d, %v", s, got, err, want, wantErr)
	}
}

func testFormat(t *testing.T, at int, want string, wantErr api.Errno) {
	t.Helper()
	if got, err := calendar.Format(at); got != want || err != wantErr {
		t.Errorf("Format(%d): %q, %v, not %q, %v", at, got, err, want, wantErr)
	}
}

// P6.1, P6.2
func TestEveryDayHasItsDateAndWeekday(t *testing.T) {
	date := dateOf(0)
	for day := range api.MaxDay {
		y, month, d := date.Date()
		testDate(t, day, y, int(month), d, api.OK)
		testDay(t, y, int(month), d, day, api.OK)
		testWeekday(t, day, (int(date.Weekday())+6)%7, api.OK)
		date = date.AddDate(0, 0, 1)
	}
}

// P6.1
func TestKnownDays(t *testing.T) {
	for _, c := range []struct{ y, m, d, day, weekday int }{
		{2000, 1, 1, 0, 5}, {2000, 1, 2, 1, 6}, {2000, 1, 3, 2, 0}, {2000, 2, 29, 59, 1}, {2000, 3, 1, 60, 2}, {2000, 12, 31, 365, 6}, {2001, 1, 1, 366, 0},
		{2004, 2, 29, 1520, 6}, {2026, 11, 20, 9820, 4}, {2100, 3, 1, 36584, 0}, {2400, 2, 29, 146156, 1}, {2400, 3, 1, 146157, 2}, {4041, 7, 12, 745653, 4},
	} {
		testDay(t, c.y, c.m, c.d, c.day, api.OK)
		testDate(t, c.day, c.y, c.m, c.d, api.OK)
		testWeekday(t, c.day, c.weekday, api.OK)
	}
}

// P6.1
func TestDayNeedsADate(t *testing.T) {
	for y := 1990; y <= 4050; y++ {
		for m := -1; m <= 14; m++ {
			for _, d := range []int{-1, 0, 1, 2, 12, 13, 27, 28, 29, 30, 31, 32, 33} {
				date := time.Date(y, time.Month(m), d, 0, 0, 0, 0, time.UTC)
				// Package time makes another date of one that there is not.
				exists := date.Year() == y && int(date.Month()) == m && date.Day() == d
				if day := dayOf(date); exists && day >= 0 && day < api.MaxDay {
					testDay(t, y, m, d, day, api.OK)
				} else {
					testDay(t, y, m, d, 0, api.ErrRange)
				}
			}
		}
	}
}

// P6.1
func TestDayOfDatesThatAreOutOfRange(t *testing.T) {
	for _, c := range [][3]int{
		{2001, 2, 29}, {2100, 2, 29}, {2200, 2, 29}, {2300, 2, 29}, {2000, 2, 30}, {2000, 4, 31}, {2000, 6, 31}, {2000, 9, 31}, {2000, 11, 31}, {2000, 1, 32}, {2000, 12, 32}, {2000, 0, 1}, {2000, 13, 1}, {2000, 1, 0},
		{1999, 12, 31}, {1600, 2, 29}, {0, 1, 1}, {-2000, 1, 1}, {4041, 7, 13}, {4041, 7, 31}, {4041, 8, 1}, {4042, 1, 1}, {9999, 12, 31}, {10000, 1, 1}, {20000, 1, 1},
	} {
		testDay(t, c[0], c[1], c[2], 0, api.ErrRange)
	}
	far := []int{math.MinInt, math.MinInt + 1, -1 << 32, -1 << 31, 1 << 31, 1 << 32, 1<<32 + 1, 1<<32 + 2000, 25252734927766555, 50505469855533110, math.MaxInt - 1, math.MaxInt}
	for _, a := range far {
		testDay(t, a, 1, 1, 0, api.ErrRange)
		testDay(t, 2000, a, 1, 0, api.ErrRange)
		testDay(t, 2000, 1, a, 0, api.ErrRange)
		for _, b := range far {
			testDay(t, a, b, a, 0, api.ErrRange)
		}
	}
}

// P6.1
func TestDateAndWeekdayNeedADay(t *testing.T) {
	for _, day := range notDays() {
		testDate(t, day, 0, 0, 0, api.ErrRange)
		testWeekday(t, day, 0, api.ErrRange)
	}
}

// nextDate is the date after one, by the lengths of months.
func nextDate(y, m, d int) (int, int, int) {
	length := []int{31, 28, 31, 30, 31, 30, 31, 31, 30, 31, 30, 31}[m-1]
	if m == 2 && (y%400 == 0 || y%4 == 0 && y%100 != 0) {
		length = 29
	}
	switch {
	case d < length:
		return y, m, d + 1
	case m < 12:
		return y, m + 1, 1
	}
	return y + 1, 1, 1
}

// P6.2
func TestTheNextDayHasTheNextDate(t *testing.T) {
	y, m, d := 2000, 1, 1
	for day := range api.MaxDay {
		testDate(t, day, y, m, d, api.OK)
		y, m, d = nextDate(y, m, d)
	}
	testDay(t, y, m, d, 0, api.ErrRange)
}

// birthdays counts the days after birth, up to day, that are a birthday; package time makes 1 March of a 29 February that there is not.
func birthdays(birth, day int) int {
	born, count := dateOf(birth), 0
	for y := born.Year() + 1; ; y++ {
		if dayOf(time.Date(y, born.Month(), born.Day(), 0, 0, 0, 0, time.UTC)) > day {
			return count
		}
		count++
	}
}

// P6.3
func TestAgeCountsBirthdays(t *testing.T) {
	source := rand.New(rand.NewSource(2))
	for _, birth := range days() {
		for range 3 {
			day := birth + source.Intn(min(100*366, api.MaxDay-birth))
			testAge(t, birth, day, birthdays(birth, day), api.OK)
		}
		testAge(t, birth, birth, 0, api.OK)
	}
}

// P6.3
func TestKnownAges(t *testing.T) {
	leapling := 59
	for _, c := range []struct{ y, m, d, age int }{
		{2000, 2, 29, 0}, {2000, 3, 1, 0}, {2000, 12, 31, 0}, {2001, 1, 1, 0}, {2001, 2, 28, 0}, {2001, 3, 1, 1}, {2002, 2, 28, 1}, {2002, 3, 1, 2}, {2004, 2, 28, 3}, {2004, 2, 29, 4}, {2004, 3, 1, 4}, {2018, 2, 28, 17}, {2018, 3, 1, 18},
		{2100, 2, 28, 99}, {2100, 3, 1, 100}, {4041, 7, 12, 2041},
	} {
		day, _ := calendar.Day(c.y, c.m, c.d)
		testAge(t, leapling, day, c.age, api.OK)
	}
	testAge(t, 0, 365, 0, api.OK)
	testAge(t, 0, 366, 1, api.OK)
	testAge(t, 365, 366, 0, api.OK)
	testAge(t, 365, 729, 0, api.OK)
	testAge(t, 365, 730, 1, api.OK)
	testAge(t, 0, api.MaxDay-1, 2041, api.OK)
	testAge(t, api.MaxDay-1, api.MaxDay-1, 0, api.OK)
}

// P6.3
func TestAgeNeverDecreases(t *testing.T) {
	for _, birth := range []int{0, 58, 59, 60, 365, 366, 1519, 1520, 36583, 36584, api.MaxDay - 1, api.MaxDay - 5000} {
		last := 0
		for day := birth; day < min(birth+9000, api.MaxDay); day++ {
			age, err := calendar.Age(birth, day)
			if err != api.OK || age < last || age > last+1 {
				t.Errorf("Age(%d, %d): %d, %v after %d", birth, day, age, err, last)
			}
			last = age
		}
	}
}

// P6.3
func TestAgeNeedsTwoDaysInOrder(t *testing.T) {
	for _, bad := range notDays() {
		testAge(t, bad, bad, 0, api.ErrRange)
		for _, day := range []int{0, 59, api.MaxDay - 1} {
			testAge(t, bad, day, 0, api.ErrRange)
			testAge(t, day, bad, 0, api.ErrRange)
		}
	}
	testAge(t, 1, 0, 0, api.ErrRange)
	testAge(t, 367, 366, 0, api.ErrRange)
	testAge(t, api.MaxDay-1, 0, 0, api.ErrRange)
	testAge(t, api.MaxDay-1, api.MaxDay-2, 0, api.ErrRange)
}

// exactPeriod finds the first and the last day of a period by going on from day to day.
func exactPeriod(t, kind int) (int, int) {
	same := func(day, other int) bool {
		a, b := dateOf(day), dateOf(other)
		switch kind {
		case 1:
			return day == other
		case 2:
			aYear, aWeek := a.ISOWeek()
			bYear, bWeek := b.ISOWeek()
			return aYear == bYear && aWeek == bWeek
		}
		return a.Year() == b.Year() && a.Month() == b.Month()
	}
	day := t / dayMinutes
	first, last := day, day
	for same(day, first-1) {
		first--
	}
	for same(day, last+1) {
		last++
	}
	return max(0, first*dayMinutes), min(api.MaxTime, last*dayMinutes+1439)
}

// P6.4
func TestPeriodIsTheDayTheWeekOrTheMonth(t *testing.T) {
	for _, at := range times() {
		for kind := 1; kind <= 3; kind++ {
			first, last := exactPeriod(at, kind)
			testPeriod(t, at, kind, first, last, api.OK)
		}
	}
}

// P6.4
func TestKnownPeriods(t *testing.T) {
	for _, c := range []struct{ at, kind, first, last int }{
		{0, 1, 0, 1439}, {1439, 1, 0, 1439}, {1440, 1, 1440, 2879}, {0, 2, 0, 2879}, {2879, 2, 0, 2879}, {2880, 2, 2880, 12959}, {12959, 2, 2880, 12959}, {12960, 2, 12960, 23039},
		{0, 3, 0, 44639}, {44639, 3, 0, 44639}, {44640, 3, 44640, 86399}, {86400, 3, 86400, 131039}, {366*1440 - 1, 3, 335 * 1440, 366*1440 - 1},
		// The day MaxDay is the Saturday 4041-07-13, and ends for this layer at 01:04.
		{api.MaxTime, 1, 1073741760, 1073741824}, {1073741760, 1, 1073741760, 1073741824}, {1073741759, 1, 1073740320, 1073741759},
		{api.MaxTime, 2, 1073734560, 1073741824}, {1073734560, 2, 1073734560, 1073741824}, {1073734559, 2, 1073724480, 1073734559}, {api.MaxTime, 3, 1073724480, 1073741824}, {1073724479, 3, 1073681280, 1073724479},
	} {
		testPeriod(t, c.at, c.kind, c.first, c.last, api.OK)
	}
}

// P6.4
func TestPeriodsAreTheSameOrDoNotOverlap(t *testing.T) {
	for kind := 1; kind <= 3; kind++ {
		for _, start := range []int{0, 800000, 17000000, api.MaxTime - 100000} {
			first, last, err := calendar.Period(start, kind)
			for at := start; at <= min(start+100000, api.MaxTime); at++ {
				if at > last {
					// One period ends where the next one begins, so that times between them have none in common.
					end := last
					if first, last, err = calendar.Period(at, kind); first != end+1 {
						t.Errorf("Period(%d, %d) begins at %d, but the one before it ends at %d", at, kind, first, end)
					}
				}
				testPeriod(t, at, kind, first, last, err)
			}
			if err != api.OK || start == 0 && first == 0 {
				t.Errorf("Period(%d, %d): %d, %d, %v", start, kind, first, last, err)
			}
		}
	}
}

// P6.4
func TestPeriodNamesTheFirstError(t *testing.T) {
	badKinds := []int{0, 4, 5, -1, math.MinInt, math.MaxInt, 1 << 32, 1<<32 + 1}
	for _, at := range notTimes() {
		for _, kind := range append([]int{1, 2, 3}, badKinds...) {
			testPeriod(t, at, kind, 0, 0, api.ErrRange)
		}
	}
	for _, at := range []int{0, 1501, api.MaxTime} {
		for _, kind := range badKinds {
			testPeriod(t, at, kind, 0, 0, api.ErrType)
		}
	}
}

// exactNext tries the minute of every day from that of after on.
func exactNext(days, at, after int) (int, api.Errno) {
	for day := after/dayMinutes - 1; day <= after/dayMinutes+8; day++ {
		t := day*dayMinutes + at
		if t >= 0 && t > after && t <= api.MaxTime && days>>weekdayOf(day)&1 == 1 {
			return t, api.OK
		}
	}
	return 0, api.ErrRange
}

// P6.5
func TestNextIsTheFirstOneAfter(t *testing.T) {
	source := rand.New(rand.NewSource(3))
	for _, after := range append(times(), -1) {
		at := source.Intn(dayMinutes)
		for _, days := range []int{1 << source.Intn(7), 1 + source.Intn(127)} {
			for _, minute := range []int{at, (after + dayMinutes) % dayMinutes, (after + 1) % dayMinutes} {
				want, wantErr := exactNext(days, minute, after)
				testNext(t, days, minute, after, want, wantErr)
			}
		}
	}
}

// P6.5
func TestNextOfEverySetOfWeekdays(t *testing.T) {
	for days := 1; days <= 127; days++ {
		for _, start := range []int{0, 8 * dayMinutes, 9820 * dayMinutes, api.MaxTime - 8*dayMinutes} {
			for _, at := range []int{0, 1, 64, 65, 720, 1438, 1439} {
				for day := range 8 {
					for _, after := range []int{start + day*dayMinutes + at - 1, start + day*dayMinutes + at, start + day*dayMinutes} {
						if after > api.MaxTime {
							continue
						}
						want, wantErr := exactNext(days, at, after)
						testNext(t, days, at, after, want, wantErr)
					}
				}
			}
		}
	}
}

// P6.5
func TestKnownNexts(t *testing.T) {
	for _, c := range []struct {
		days, at, after, want int
		err                   api.Errno
	}{
		{1, 0, -1, 2880, api.OK}, {32, 0, -1, 0, api.OK}, {127, 0, -1, 0, api.OK}, {127, 1439, -1, 1439, api.OK}, {127, 0, 0, 1440, api.OK}, {127, 1, 0, 1, api.OK}, {32, 0, 0, 10080, api.OK}, {64, 0, -1, 1440, api.OK}, {16, 1439, -1, 10079, api.OK},
		{127, 1230, 1229, 1230, api.OK}, {127, 1230, 1230, 2670, api.OK}, {32, 1230, 1230, 11310, api.OK}, {33, 1230, 1230, 4110, api.OK},
		// The last times lie on a Saturday, from 00:00 to 01:04.
		{32, 64, api.MaxTime - 1, api.MaxTime, api.OK}, {127, 64, api.MaxTime - 1, api.MaxTime, api.OK}, {32, 64, api.MaxTime - 10080, api.MaxTime, api.OK}, {32, 64, api.MaxTime - 10081, api.MaxTime - 10080, api.OK}, {32, 0, 1073741759, 1073741760, api.OK},
		{32, 64, api.MaxTime, 0, api.ErrRange}, {127, 64, api.MaxTime, 0, api.ErrRange}, {127, 65, api.MaxTime, 0, api.ErrRange}, {127, 65, 1073741759, 0, api.ErrRange}, {32, 65, 1073741700, 0, api.ErrRange}, {127, 65, 1073740384, 1073740385, api.OK},
		{95, 64, 1073741759, 0, api.ErrRange}, {64, 0, api.MaxTime - 1, 0, api.ErrRange}, {64, 0, 1073733119, 1073733120, api.OK}, {64, 0, 1073733120, 0, api.ErrRange}, {16, 1439, 1073741758, 1073741759, api.OK}, {16, 1439, 1073741759, 0, api.ErrRange},
	} {
		testNext(t, c.days, c.at, c.after, c.want, c.err)
	}
}

// P6.5
func TestNextOfArgumentsThatAreOutOfRange(t *testing.T) {
	badDays := []int{0, -1, 128, 129, 255, 256, -128, 1 << 32, 1<<32 + 1, math.MinInt, math.MaxInt}
	badMinutes := []int{-1, -2, -1440, 1440, 1441, 1 << 32, math.MinInt, math.MaxInt}
	badAfters := []int{-2, -3, -1440, -1441, math.MinInt, api.MaxTime + 1, api.MaxTime + 1440, math.MaxInt}
	for _, days := range badDays {
		for _, after := range append([]int{-1, 0, 5000, api.MaxTime}, badAfters...) {
			testNext(t, days, 0, after, 0, api.ErrRange)
			testNext(t, days, 1439, after, 0, api.ErrRange)
			testNext(t, days, -1, after, 0, api.ErrRange)
		}
	}
	for _, at := range badMinutes {
		for _, after := range append([]int{-1, 0, 5000, api.MaxTime}, badAfters...) {
			testNext(t, 1, at, after, 0, api.ErrRange)
			testNext(t, 127, at, after, 0, api.ErrRange)
		}
	}
	for _, after := range badAfters {
		for _, at := range []int{0, 1, 1438, 1439} {
			testNext(t, 1, at, after, 0, api.ErrRange)
			testNext(t, 127, at, after, 0, api.ErrRange)
		}
	}
}

// P6.6
func TestParseInvertsFormat(t *testing.T) {
	for _, at := range times() {
		testFormat(t, at, text(at), api.OK)
		testParse(t, text(at), at, api.OK)
	}
	for at := range 2 * dayMinutes {
		testFormat(t, at, text(at), api.OK)
		testParse(t, text(at), at, api.OK)
	}
}

// P6.6
func TestKnownTimes(t *testing.T) {
	for _, c := range []struct {
		at int
		s  string
	}{
		{0, "2000-01-01 00:00"}, {1, "2000-01-01 00:01"}, {59, "2000-01-01 00:59"}, {60, "2000-01-01 01:00"}, {1439, "2000-01-01 23:59"}, {1501, "2000-01-02 01:01"}, {59 * 1440, "2000-02-29 00:00"}, {366*1440 - 1, "2000-12-31 23:59"},
		{9820*1440 + 20*60 + 30, "2026-11-20 20:30"}, {1073741759, "4041-07-12 23:59"}, {1073741760, "4041-07-13 00:00"}, {api.MaxTime, "4041-07-13 01:04"},
	} {
		testFormat(t, c.at, c.s, api.OK)
		testParse(t, c.s, c.at, api.OK)
	}
}

// P6.6
func TestFormatNeedsATime(t *testing.T) {
	for _, at := range notTimes() {
		testFormat(t, at, "", api.ErrRange)
	}
}

// P6.6
func TestParseNeedsTheForm(t *testing.T) {
	const good = "2004-02-29 12:30"
	for i := range len(good) {
		digit := good[i] >= '0' && good[i] <= '9'
		for c := range 256 {
			s := good[:i] + string([]byte{byte(c)}) + good[i+1:]
			if _, err := calendar.Parse(s); (err == api.ErrSyntax) == (s == good || digit && c >= '0' && c <= '9') {
				t.Errorf("Parse(%q): %v", s, err)
			}
		}
		testParse(t, good[:i], 0, api.ErrSyntax)
		testParse(t, good[:i]+good[i+1:], 0, api.ErrSyntax)
		testParse(t, good[:i]+"0"+good[i:], 0, api.ErrSyntax)
		testParse(t, good[:i]+"٣"+good[i+1:], 0, api.ErrSyntax)
	}
	for _, s := range []string{
		"", " ", good + " ", " " + good, good + "\n", good + "\x00", good + ":00", good + good, "2004-02-29", "12:30", "2004-02-29T12:30", "2004/02/29 12:30", "2004-02-29-12:30", "2004-02-29 12-30", "2004 02 29 12:30",
		"2004-2-29 12:30", "2004-02-9 12:30", "2004-02-29 2:30", "2004-02-29 12:3", "04-02-29 12:30", "02004-02-29 2:30", "2004-2-029 12:30", "+004-02-29 12:30", "-004-02-29 12:30", "2004--2-29 12:30", "2004-02-29 -1:30", "2004-02-29 12:-3", "2004- 2-29 12:30",
		"2004-02-29  2:30", "20040-02-29 2:30", strings.Repeat("0", 16), strings.Repeat("-", 16), strings.Repeat("2004-02-29 12:30", 1000),
		// The form counts before what is out of range.
		"1999-13-32 24:6", "9999-99-99 99:9x", "1999-01-01 00;00", "2001-02-29 24:60 ",
	} {
		testParse(t, s, 0, api.ErrSyntax)
	}
}

// P6.6
func TestParseNeedsADateAndATime(t *testing.T) {
	for _, s := range []string{
		"2001-02-29 00:00", "2100-02-29 00:00", "2300-02-29 23:59", "2000-02-30 00:00", "2000-04-31 00:00", "2000-06-31 00:00", "2000-09-31 00:00", "2000-11-31 00:00", "2000-01-32 00:00", "2000-01-00 00:00", "2000-00-01 00:00", "2000-13-01 00:00", "2000-99-99 00:00",
		"2000-01-01 24:00", "2000-01-01 25:00", "2000-01-01 99:00", "2000-01-01 00:60", "2000-01-01 00:99", "2000-01-01 23:60", "2000-01-01 24:60", "2001-02-29 24:60",
		"1999-12-31 23:59", "1999-12-31 24:00", "1999-12-31 00:00", "1600-02-29 00:00", "0000-01-01 00:00", "0000-00-00 00:00", "0001-01-01 00:00",
		"4041-07-13 01:05", "4041-07-13 02:00", "4041-07-13 01:59", "4041-07-13 23:59", "4041-07-13 00:60", "4041-07-14 00:00", "4041-08-01 00:00", "4042-01-01 00:00", "9999-12-31 23:59", "9999-99-99 99:99",
	} {
		testParse(t, s, 0, api.ErrRange)
	}
}

// P6.6
func TestParseOfEveryDateAndMinute(t *testing.T) {
	for _, y := range []int{1999, 2000, 2001, 2004, 2100, 2400, 4041, 4042} {
		for m := range 15 {
			for d := range 34 {
				for _, hour := range []int{0, 1, 23, 24, 99} {
					for _, minute := range []int{0, 4, 5, 59, 60, 99} {
						s := fmt.Sprintf("%04d-%02d-%02d %02d:%02d", y, m, d, hour, minute)
						date, err := time.Parse("2006-01-02 15:04", s)
						at := int((date.Unix() - dateOf(0).Unix()) / 60)
						if err == nil && at >= 0 && at <= api.MaxTime {
							testParse(t, s, at, api.OK)
							testFormat(t, at, s, api.OK)
						} else {
							testParse(t, s, 0, api.ErrRange)
						}
					}
				}
			}
		}
	}
}
