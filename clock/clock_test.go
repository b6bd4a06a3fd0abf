package clock_test

import (
	"fmt"
	"math"
	"math/rand/v2"
	"slices"
	"testing"
	"time"

	"homehub/api"
	"homehub/clock"
)

const (
	most = api.MaxMinute
	day  = api.Day
	// startSeconds is 2000-01-01 00:00 UTC in the time of package time.
	startSeconds = 946684800
)

// lastDate is the date of MaxMinute.
var lastDate = date(4041, 7, 13, 1, 4)

func date(year, month, monthDay, hour, minute int) api.Date {
	return api.Date{Year: year, Month: month, Day: monthDay, Hour: hour, Minute: minute}
}

// timeOf returns the time of a valid minute.
func timeOf(m int) time.Time {
	return time.Unix(startSeconds+int64(m)*60, 0).UTC()
}

// dateOf returns the date of a valid minute.
func dateOf(m int) api.Date {
	at := timeOf(m)
	return date(at.Year(), int(at.Month()), at.Day(), at.Hour(), at.Minute())
}

// weekdayOf returns the weekday of a valid minute, from Monday on.
func weekdayOf(m int) int {
	return (int(timeOf(m).Weekday()) + 6) % 7
}

// minuteOf returns the minute of a date, or false if there is none.
func minuteOf(d api.Date) (int, bool) {
	if d.Year < 2000 || d.Year > 5000 || d.Month < 1 || d.Month > 12 || d.Day < 1 || d.Day > 31 || d.Hour < 0 || d.Hour > 23 || d.Minute < 0 || d.Minute > 59 {
		return 0, false
	}
	at := time.Date(d.Year, time.Month(d.Month), d.Day, d.Hour, d.Minute, 0, 0, time.UTC)
	m := (at.Unix() - startSeconds) / 60
	// A day behind the end of its month is one of the next month.
	if at.Day() != d.Day || m > most {
		return 0, false
	}
	return int(m), true
}

// limited limits a number to the valid minutes.
func limited(m int) int {
	if m < 0 {
		return 0
	}
	if m > most {
		return most
	}
	return m
}

// edges are minutes around 0, around ends of days, months and years, around
// MaxMinute and at both ends of int.
func edges() []int {
	l := []int{math.MinInt, math.MinInt + 1, math.MaxInt, math.MaxInt - 1, -1 << 32, -1 << 31, 1 << 31, 1 << 32, -most, 2 * most, 1<<62 + 7}
	for _, days := range []int{0, 1, 2, 7, 31, 59, 60, 366, 366 + 59, 36524, 36525 + 59, 146097, 745653, 745654} {
		for _, minute := range []int{-2, -1, 0, 1, 2, 59, 60, 61, 719, 720} {
			l = append(l, days*day+minute)
		}
	}
	return append(l, most-2, most-1, most, most+1, most+2)
}

func newSource() *rand.Rand {
	return rand.New(rand.NewPCG(5, 2000))
}

func checkOf(t *testing.T, m int, want api.Date) {
	t.Helper()
	if d := clock.Of(m); d != want {
		t.Errorf("Of(%d): got %v, want %v", m, d, want)
	}
}

func checkAt(t *testing.T, d api.Date, want int) {
	t.Helper()
	if m, e := clock.At(d); m != want || e != api.OK {
		t.Errorf("At(%v): got %d, %d, want %d", d, m, e, want)
	}
}

func checkNoDate(t *testing.T, d api.Date) {
	t.Helper()
	if m, e := clock.At(d); m != 0 || e != api.ErrRange {
		t.Errorf("At(%v): got %d, %d, want 0, ErrRange", d, m, e)
	}
}

// checkWeek checks the parts of a minute that belong to its day and its week.
func checkWeek(t *testing.T, m, weekday, minute int) {
	t.Helper()
	if n := clock.Weekday(m); n != weekday {
		t.Errorf("Weekday(%d): got %d, want %d", m, n, weekday)
	}
	if n := clock.OfDay(m); n != minute {
		t.Errorf("OfDay(%d): got %d, want %d", m, n, minute)
	}
	if n := clock.OfWeek(m); n != weekday*1440+minute {
		t.Errorf("OfWeek(%d): got %d, want %d", m, n, weekday*1440+minute)
	}
}

// P5.1
func TestOfExamples(t *testing.T) {
	for _, c := range []struct {
		m    int
		want api.Date
	}{
		{0, date(2000, 1, 1, 0, 0)}, {1, date(2000, 1, 1, 0, 1)}, {59, date(2000, 1, 1, 0, 59)}, {60, date(2000, 1, 1, 1, 0)},
		{1439, date(2000, 1, 1, 23, 59)}, {1440, date(2000, 1, 2, 0, 0)}, {31*day - 1, date(2000, 1, 31, 23, 59)}, {31 * day, date(2000, 2, 1, 0, 0)},
		{60*24*60 - 1, date(2000, 2, 29, 23, 59)}, {86400, date(2000, 3, 1, 0, 0)}, {366*day - 1, date(2000, 12, 31, 23, 59)}, {366 * day, date(2001, 1, 1, 0, 0)},
		{(366+59)*day - 1, date(2001, 2, 28, 23, 59)}, {(366 + 59) * day, date(2001, 3, 1, 0, 0)}, {(366+365)*day - 1, date(2001, 12, 31, 23, 59)}, {(366 + 365) * day, date(2002, 1, 1, 0, 0)},
		{(1461 + 59) * day, date(2004, 2, 29, 0, 0)}, {(36525+59)*day - 1, date(2100, 2, 28, 23, 59)}, {(36525 + 59) * day, date(2100, 3, 1, 0, 0)}, {(146097 + 59) * day, date(2400, 2, 29, 0, 0)},
		{most, lastDate}, {most - 1, date(4041, 7, 13, 1, 3)}, {most - 5, date(4041, 7, 13, 0, 59)}, {most - 65, date(4041, 7, 12, 23, 59)},
	} {
		checkOf(t, c.m, c.want)
		checkAt(t, c.want, c.m)
	}
}

// P5.1: minutes out of range.
func TestOfLimitsItsMinute(t *testing.T) {
	for _, m := range []int{-1, -2, -1439, -1440, -1441, -366 * day, -most, math.MinInt, math.MinInt + 1} {
		checkOf(t, m, date(2000, 1, 1, 0, 0))
	}
	for _, m := range []int{most + 1, most + 2, most + day, 2 * most, 1 << 40, math.MaxInt, math.MaxInt - 1} {
		checkOf(t, m, lastDate)
	}
	for _, m := range edges() {
		checkOf(t, m, dateOf(limited(m)))
	}
}

// P5.1, P5.2, P5.3, P5.7: the first, the last and some other minute of each day.
func TestEachDay(t *testing.T) {
	for days := 0; days*day <= most; days++ {
		for _, minute := range []int{0, days * 7919 % day, day - 1} {
			m := days*day + minute
			if m > most {
				continue
			}
			d := dateOf(m)
			checkOf(t, m, d)
			checkAt(t, d, m)
			checkWeek(t, m, weekdayOf(m), minute)
		}
		if t.Failed() {
			return
		}
	}
}

// P5.1, P5.2, P5.3, P5.7: each minute of the days at both limits, and of others.
func TestEachMinuteOfSomeDays(t *testing.T) {
	for _, days := range []int{0, 1, 58, 59, 60, 365, 366, 36525 + 58, 36525 + 59, 400000, 745653, 745654} {
		for minute := range day {
			m := days*day + minute
			if m > most {
				break
			}
			checkOf(t, m, dateOf(m))
			checkAt(t, dateOf(m), m)
			checkWeek(t, m, weekdayOf(m), minute)
		}
	}
}

// P5.2: the first and the last minute of each month, and the minutes beyond.
func TestAtOfEachMonth(t *testing.T) {
	for year := 2000; year <= 4041; year++ {
		for month := 1; month <= 12; month++ {
			days := time.Date(year, time.Month(month)+1, 0, 0, 0, 0, 0, time.UTC).Day()
			for monthDay := 27; monthDay <= 32; monthDay++ {
				d := date(year, month, monthDay, 23, 59)
				if m, ok := minuteOf(d); ok && monthDay <= days {
					checkAt(t, d, m)
				} else {
					checkNoDate(t, d)
				}
			}
			checkNoDate(t, date(year, month, 0, 0, 0))
			first := date(year, month, 1, 0, 0)
			if m, ok := minuteOf(first); ok {
				checkAt(t, first, m)
			} else {
				checkNoDate(t, first)
			}
		}
		checkNoDate(t, date(year, 0, 1, 0, 0))
		checkNoDate(t, date(year, 13, 1, 0, 0))
	}
}

// P5.2: February of the three kinds of years.
func TestAtInFebruary(t *testing.T) {
	for _, year := range []int{2000, 2004, 2096, 2104, 2396, 2400, 2404, 2800, 3200, 3600, 4000, 4040} {
		d := date(year, 2, 29, 23, 59)
		m, _ := minuteOf(d)
		checkAt(t, d, m)
		checkOf(t, m, d)
		checkOf(t, m+1, date(year, 3, 1, 0, 0))
		checkNoDate(t, date(year, 2, 30, 0, 0))
	}
	for _, year := range []int{2001, 2002, 2003, 2099, 2100, 2101, 2200, 2300, 2500, 2600, 2700, 2900, 3000, 3900, 4039, 4041} {
		d := date(year, 2, 28, 23, 59)
		m, _ := minuteOf(d)
		checkAt(t, d, m)
		checkOf(t, m+1, date(year, 3, 1, 0, 0))
		checkNoDate(t, date(year, 2, 29, 0, 0))
	}
	checkAt(t, date(2000, 3, 1, 0, 0), 86400)
	checkNoDate(t, date(2100, 2, 29, 0, 0))
}

// P5.2: dates of which one part, or several, do not exist.
func TestAtOfEachPart(t *testing.T) {
	years := []int{math.MinInt, -2000, -1, 0, 1, 1600, 1996, 1999, 2000, 2001, 2004, 2100, 2400, 4000, 4040, 4041, 4042, 4400, 1 << 31, 1 << 32, 1<<32 + 2000, 1 << 62, math.MaxInt}
	months := []int{math.MinInt, -11, -1, 0, 1, 2, 3, 4, 6, 9, 11, 12, 13, 14, 24, 1 << 32, 1<<32 + 1, math.MaxInt}
	days := []int{math.MinInt, -30, -1, 0, 1, 28, 29, 30, 31, 32, 61, 366, 1 << 32, 1<<32 + 1, math.MaxInt}
	hours := []int{math.MinInt, -1, 0, 1, 23, 24, 25, 1 << 32, math.MaxInt}
	minutes := []int{math.MinInt, -1, 0, 1, 59, 60, 61, 1 << 32, math.MaxInt}
	for _, year := range years {
		for _, month := range months {
			for _, monthDay := range days {
				for i := range len(hours) * len(minutes) {
					d := date(year, month, monthDay, hours[i/len(minutes)], minutes[i%len(minutes)])
					if m, ok := minuteOf(d); ok {
						checkAt(t, d, m)
					} else {
						checkNoDate(t, d)
					}
				}
			}
		}
	}
	checkNoDate(t, api.Date{})
}

// P5.2: each part alone, up to its ends and beyond them.
func TestAtOfOnePart(t *testing.T) {
	checkAt(t, date(2001, 4, 30, 23, 59), (366+120)*day-1)
	for _, d := range []api.Date{
		date(1999, 4, 30, 23, 59), date(2001, 0, 30, 23, 59), date(2001, 13, 30, 23, 59), date(2001, 4, 0, 23, 59), date(2001, 4, 31, 23, 59),
		date(2001, 4, 30, -1, 59), date(2001, 4, 30, 24, 59), date(2001, 4, 30, 23, -1), date(2001, 4, 30, 23, 60), date(-2001, 4, 30, 23, 59),
		date(1999, 12, 31, 23, 59), date(1996, 2, 29, 0, 0), date(2001, 4, 30, 24, 0), date(2000, 1, 1, -1, 60), date(2000, 1, 2, 0, -1), date(2000, 1, 2, -1, 0), date(2000, 2, 0, 0, 0),
	} {
		checkNoDate(t, d)
	}
}

// P5.2: the dates around MaxMinute.
func TestAtAtTheLimit(t *testing.T) {
	checkAt(t, lastDate, most)
	checkAt(t, date(4041, 7, 13, 1, 3), most-1)
	checkAt(t, date(4041, 7, 13, 0, 59), most-5)
	checkAt(t, date(4041, 7, 12, 23, 59), most-65)
	checkAt(t, date(4041, 6, 30, 23, 59), most-65-12*day)
	for _, d := range []api.Date{
		date(4041, 7, 13, 1, 5), date(4041, 7, 13, 1, 59), date(4041, 7, 13, 2, 0), date(4041, 7, 14, 0, 0), date(4041, 7, 31, 0, 0), date(4041, 8, 1, 0, 0), date(4041, 12, 31, 23, 59),
		date(4042, 1, 1, 0, 0), date(4042, 7, 13, 1, 4), date(4044, 2, 29, 0, 0), date(1<<20, 1, 1, 0, 0), date(math.MaxInt, 12, 31, 23, 59), date(math.MaxInt-1, 1, 1, 0, 0),
	} {
		checkNoDate(t, d)
	}
	// Years whose days or minutes would be small numbers modulo a power of two.
	for shift := 12; shift < 63; shift++ {
		for _, year := range []int{1 << shift, 1<<shift + 2000, 1<<shift + 2001, -1<<shift + 2000} {
			checkNoDate(t, date(year, 1, 1, 0, 0))
		}
	}
}

// P5.3
func TestWeekExamples(t *testing.T) {
	for _, c := range []struct{ m, weekday, minute int }{
		{0, 5, 0}, {1, 5, 1}, {1439, 5, 1439}, {1440, 6, 0}, {2879, 6, 1439}, {2880, 0, 0}, {2881, 0, 1}, {4319, 0, 1439}, {4320, 1, 0},
		{2880 + 4*day - 1, 3, 1439}, {2880 + 4*day, 4, 0}, {2880 + 5*day - 1, 4, 1439}, {2880 + 5*day, 5, 0}, {2880 + 7*day - 1, 6, 1439}, {2880 + 7*day, 0, 0},
		{most, 5, 64}, {most - 64, 5, 0}, {most - 65, 4, 1439},
		{-1, 5, 0}, {-1440, 5, 0}, {-10080, 5, 0}, {math.MinInt, 5, 0}, {most + 1, 5, 64}, {most + 10080, 5, 64}, {math.MaxInt, 5, 64},
	} {
		checkWeek(t, c.m, c.weekday, c.minute)
	}
	for _, m := range edges() {
		checkWeek(t, m, weekdayOf(limited(m)), limited(m)%day)
	}
}

// P5.7: Of undoes At, and At undoes Of.
func TestOfAndAtAreInverse(t *testing.T) {
	source := newSource()
	for range 200000 {
		m := source.IntN(most + 1)
		checkAt(t, clock.Of(m), m)
		d := date(1990+source.IntN(2060), source.IntN(14), source.IntN(33), source.IntN(25), source.IntN(61))
		if m, e := clock.At(d); e == api.OK {
			checkOf(t, m, d)
		} else {
			checkNoDate(t, d)
		}
	}
	for _, m := range edges() {
		checkAt(t, clock.Of(m), limited(m))
	}
}

// earlier reports whether a date lies before another one.
func earlier(a, b api.Date) bool {
	return slices.Compare([]int{a.Year, a.Month, a.Day, a.Hour, a.Minute}, []int{b.Year, b.Month, b.Day, b.Hour, b.Minute}) < 0
}

// checkSuccession checks a valid minute and the minutes behind it.
func checkSuccession(t *testing.T, m int) {
	t.Helper()
	if m < most && (!earlier(clock.Of(m), clock.Of(m+1)) || clock.OfWeek(m+1) != (clock.OfWeek(m)+1)%10080) {
		t.Errorf("%d is followed by %v, %d", m, clock.Of(m+1), clock.OfWeek(m+1))
	}
	if m <= most-day && (clock.OfDay(m+day) != clock.OfDay(m) || clock.Weekday(m+day) != (clock.Weekday(m)+1)%7) {
		t.Errorf("a day behind %d: %d, %d", m, clock.OfDay(m+day), clock.Weekday(m+day))
	}
}

// P5.8
func TestSuccession(t *testing.T) {
	for m := range 15 * day {
		checkSuccession(t, m)
		checkSuccession(t, most-m)
		checkSuccession(t, (36525+50)*day+m)
	}
	source := newSource()
	for range 200000 {
		a, b := source.IntN(most+1), source.IntN(most+1)
		checkSuccession(t, a)
		if a < b != earlier(clock.Of(a), clock.Of(b)) {
			t.Errorf("the dates of %d and %d: %v, %v", a, b, clock.Of(a), clock.Of(b))
		}
	}
	for days := 1; days*day <= most; days++ {
		checkSuccession(t, days*day-1)
		checkSuccession(t, days*day)
	}
}

// P5.9
func TestYears(t *testing.T) {
	first := 0
	for year := 2000; year < 4041; year++ {
		days := 365
		if year%400 == 0 || year%4 == 0 && year%100 != 0 {
			days = 366
		}
		checkAt(t, date(year, 1, 1, 0, 0), first)
		checkOf(t, first, date(year, 1, 1, 0, 0))
		first += days * day
		checkAt(t, date(year, 12, 31, 23, 59), first-1)
		checkAt(t, date(year+1, 1, 1, 0, 0), first)
	}
	checkAt(t, date(4041, 1, 1, 0, 0), 745461*day)
}

func zone(offset int, changes ...api.Change) api.Zone {
	return api.Zone{Offset: offset, Changes: changes}
}

// rising returns n changes at ascending minutes.
func rising(n int) []api.Change {
	l := make([]api.Change, n)
	for i := range l {
		l[i] = api.Change{At: i * 10, Offset: i%800 - 30}
	}
	return l
}

// shown returns the form of a zone in messages.
func shown(z api.Zone) string {
	if len(z.Changes) > 65 {
		return fmt.Sprintf("a zone of %d changes", len(z.Changes))
	}
	return fmt.Sprintf("%v", z)
}

func checkCheck(t *testing.T, z api.Zone, want api.Errno) {
	t.Helper()
	if e := clock.Check(z); e != want {
		t.Errorf("Check(%s): got %d, want %d", shown(z), e, want)
	}
}

// P5.4
func TestCheckExamples(t *testing.T) {
	checkCheck(t, api.Zone{}, api.OK)
	checkCheck(t, api.Zone{Changes: []api.Change{}}, api.OK)
	checkCheck(t, zone(60, api.Change{At: 1000, Offset: 120}), api.OK)
	checkCheck(t, zone(60, api.Change{}), api.OK)
	checkCheck(t, zone(60, api.Change{At: 5, Offset: 60}, api.Change{At: 6, Offset: 60}), api.OK)
	for _, offset := range []int{-840, -839, -1, 0, 1, 839, 840} {
		checkCheck(t, zone(offset), api.OK)
		checkCheck(t, zone(0, api.Change{At: 0, Offset: offset}, api.Change{At: most, Offset: -offset}), api.OK)
	}
	for _, n := range []int{1, 2, 63, 64} {
		checkCheck(t, zone(0, rising(n)...), api.OK)
	}
	for _, n := range []int{65, 66, 1000, 1 << 20} {
		checkCheck(t, zone(0, rising(n)...), api.ErrLimit)
	}
}

// P5.4: offsets and minutes out of range, in the zone and in each change.
func TestCheckOfNumbersOutOfRange(t *testing.T) {
	for _, n := range []int{math.MinInt, math.MinInt + 1, -1 << 32, -1680, -842, -841, 841, 842, 1680, 1 << 32, math.MaxInt - 1, math.MaxInt} {
		checkCheck(t, zone(n), api.ErrRange)
		checkCheck(t, zone(n, rising(64)...), api.ErrRange)
		for i := range 64 {
			l := rising(64)
			l[i].Offset = n
			checkCheck(t, zone(0, l...), api.ErrRange)
		}
	}
	for _, n := range []int{math.MinInt, math.MinInt + 1, -1 << 32, -2, -1, most + 1, most + 2, 1 << 32, math.MaxInt - 1, math.MaxInt} {
		checkCheck(t, zone(0, api.Change{At: n}), api.ErrRange)
		for i := range 64 {
			l := rising(64)
			l[i].At = n
			checkCheck(t, zone(0, l...), api.ErrRange)
		}
	}
}

// P5.4: equal and descending minutes, in each pair of neighbors.
func TestCheckOfTheOrder(t *testing.T) {
	for i := range 63 {
		l := rising(64)
		l[i+1].At = l[i].At
		checkCheck(t, zone(0, l...), api.ErrOrder)
		l[i+1].At = l[i].At + 1
		checkCheck(t, zone(0, l...), api.OK)
		l[i], l[i+1] = l[i+1], l[i]
		checkCheck(t, zone(0, l...), api.ErrOrder)
	}
	checkCheck(t, zone(0, api.Change{At: most}, api.Change{At: 0}), api.ErrOrder)
	checkCheck(t, zone(0, api.Change{At: most}, api.Change{At: most}), api.ErrOrder)
	checkCheck(t, zone(0, api.Change{}, api.Change{}), api.ErrOrder)
	// Ascending neighbors are not enough where only they are: 20 is less than 30.
	checkCheck(t, zone(0, api.Change{At: 30}, api.Change{At: 10}, api.Change{At: 20}), api.ErrOrder)
	checkCheck(t, zone(0, api.Change{At: 10}, api.Change{At: 30}, api.Change{At: 20}), api.ErrOrder)
}

// P5.4: all combinations of errors; wherever they are, the one named first counts.
func TestCheckOfTheOrderOfErrors(t *testing.T) {
	for faults := range 1 << 5 {
		for _, at := range []int{0, 1, 30, 62} {
			n, want := 63, api.OK
			if faults&1 != 0 {
				want = api.ErrOrder
			}
			if faults&2 != 0 {
				n, want = 65, api.ErrLimit
			}
			z := zone(0, rising(n)...)
			if faults&1 != 0 {
				z.Changes[1].At = z.Changes[0].At
			}
			if faults&4 != 0 {
				z.Offset, want = 841, api.ErrRange
			}
			if faults&8 != 0 {
				z.Changes[at].Offset, want = -841, api.ErrRange
			}
			if faults&16 != 0 {
				z.Changes[len(z.Changes)-1-at].At, want = most+1, api.ErrRange
			}
			checkCheck(t, z, want)
		}
	}
	checkCheck(t, zone(0, api.Change{At: 5}, api.Change{At: 5}, api.Change{At: -1}), api.ErrRange)
	checkCheck(t, zone(0, api.Change{At: 5}, api.Change{At: 5}, api.Change{At: 6, Offset: 841}), api.ErrRange)
	checkCheck(t, zone(0, make([]api.Change, 65)...), api.ErrLimit)
	checkCheck(t, zone(900, make([]api.Change, 65)...), api.ErrRange)
	checkCheck(t, zone(0, append(make([]api.Change, 1000), api.Change{At: -1})...), api.ErrRange)
}

// valid are zones of all kinds.
func valid() []api.Zone {
	l := []api.Zone{
		{}, zone(60), zone(-60), zone(840), zone(-840), zone(1), zone(-1),
		zone(60, api.Change{At: 1000, Offset: 120}), zone(120, api.Change{At: 1000, Offset: 60}),
		zone(60, api.Change{At: 0, Offset: -60}), zone(-60, api.Change{At: 0, Offset: 60}), zone(60, api.Change{At: 1, Offset: -60}), zone(-840, api.Change{At: 840, Offset: 840}),
		zone(60, api.Change{At: most, Offset: -60}), zone(-60, api.Change{At: most, Offset: 60}), zone(840, api.Change{At: most - 839, Offset: -840}), zone(-840, api.Change{At: most - 5, Offset: 840}),
		// A local minute that occurs once for each change, up to 65 times.
		zone(64, countdown(500, 64, 63)...), zone(32, countdown(0, 64, 31)...), zone(32, countdown(most-63, 64, 31)...),
		// Up and down within a few minutes.
		zone(0, api.Change{At: 2000, Offset: 2}, api.Change{At: 2001, Offset: -1}, api.Change{At: 2002, Offset: 3}, api.Change{At: 2004, Offset: -5}, api.Change{At: 2005, Offset: 0}),
		zone(-1, api.Change{At: 0, Offset: -2}, api.Change{At: 1, Offset: 3}, api.Change{At: 2, Offset: -3}, api.Change{At: 3, Offset: 0}, api.Change{At: 4, Offset: -4}),
		zone(0, rising(64)...),
	}
	source := newSource()
	for _, from := range []int{0, 1, 800, 5000, most / 2, most - 5000, most - 800, most} {
		for _, spread := range []int{1, 2, 3, 30, 300} {
			l = append(l, randomZone(source, from, spread, 4), randomZone(source, from, spread, 840))
		}
	}
	return l
}

// countdown returns n changes at successive minutes, each of which lowers the
// offset by one minute, so that one local minute is repeated.
func countdown(from, n, offset int) []api.Change {
	l := make([]api.Change, n)
	for i := range l {
		l[i] = api.Change{At: from + i, Offset: offset - i}
	}
	return l
}

// randomZone returns a zone with up to 64 changes from a minute on, at most
// spread minutes apart, and offsets up to widest.
func randomZone(source *rand.Rand, from, spread, widest int) api.Zone {
	offset := func() int { return source.IntN(2*widest+1) - widest }
	z := zone(offset())
	for at := from; at <= most && len(z.Changes) < 64; at += 1 + source.IntN(spread) {
		z.Changes = append(z.Changes, api.Change{At: at, Offset: offset()})
	}
	return z
}

// invalid are zones that are not valid, each with offsets other than 0.
func invalid() []api.Zone {
	return []api.Zone{
		zone(841), zone(-841), zone(900, api.Change{At: 10, Offset: 60}), zone(math.MinInt), zone(math.MaxInt),
		zone(60, api.Change{At: -1, Offset: 60}), zone(60, api.Change{At: most + 1, Offset: 60}), zone(60, api.Change{At: 10, Offset: 841}), zone(60, api.Change{At: math.MaxInt, Offset: math.MaxInt}),
		zone(60, rising(65)...), zone(60, rising(1<<20)...), zone(60, api.Change{At: 10, Offset: 60}, api.Change{At: 10, Offset: 60}), zone(60, api.Change{At: 20, Offset: 60}, api.Change{At: 10, Offset: 60}),
	}
}

// offsetOf returns the offset of a valid zone at a valid minute.
func offsetOf(z api.Zone, m int) int {
	for i := len(z.Changes) - 1; i >= 0; i-- {
		if z.Changes[i].At <= m {
			return z.Changes[i].Offset
		}
	}
	return z.Offset
}

// utcOf returns the least minute of a valid zone that has the local minute l,
// found by trying all that can have it: no offset is beyond 840.
func utcOf(z api.Zone, l int) (int, bool) {
	if l < 0 || l > most {
		return 0, false
	}
	for m := limited(l - 840); m <= limited(l+840); m++ {
		if limited(m+offsetOf(z, m)) == l {
			return m, true
		}
	}
	return 0, false
}

// around are the minutes near the changes of a zone and near both limits, with
// some that are out of range.
func around(z api.Zone) []int {
	l := []int{math.MinInt, math.MinInt + 840, -1000, -840, 4 * day, most / 3, most + 840, most + 1000, math.MaxInt - 840, math.MaxInt}
	for n := -2; n < 3; n++ {
		l = append(l, n, 60+n, 840+n, most+n, most-60+n, most-840+n)
		for _, change := range z.Changes {
			l = append(l, change.At+n, change.At+change.Offset+n, change.At+offsetOf(z, change.At-1)+n)
		}
	}
	slices.Sort(l)
	return slices.Compact(l)
}

func checkLocal(t *testing.T, z api.Zone, m, offset, local int) {
	t.Helper()
	if n := clock.Offset(z, m); n != offset {
		t.Errorf("Offset(%s, %d): got %d, want %d", shown(z), m, n, offset)
	}
	if n := clock.Local(z, m); n != local {
		t.Errorf("Local(%s, %d): got %d, want %d", shown(z), m, n, local)
	}
}

// P5.5
func TestLocalExamples(t *testing.T) {
	spring := zone(60, api.Change{At: 1000, Offset: 120})
	autumn := zone(120, api.Change{At: 1000, Offset: 60})
	for _, c := range []struct {
		z                api.Zone
		m, offset, local int
	}{
		{spring, 999, 60, 1059}, {spring, 1000, 120, 1120}, {spring, 1001, 120, 1121}, {spring, 0, 60, 60}, {spring, most, 120, most}, {spring, most - 120, 120, most}, {spring, most - 121, 120, most - 1}, {spring, most - 119, 120, most},
		{autumn, 950, 120, 1070}, {autumn, 999, 120, 1119}, {autumn, 1000, 60, 1060}, {autumn, 1010, 60, 1070},
		// The minute is limited before its offset is added.
		{spring, -1, 60, 60}, {spring, -7, 60, 60}, {spring, -60, 60, 60}, {spring, math.MinInt, 60, 60}, {spring, most + 1, 120, most}, {spring, math.MaxInt, 120, most},
		{zone(-60), most + 1, -60, most - 60}, {zone(-60), most + 60, -60, most - 60}, {zone(-60), math.MaxInt, -60, most - 60}, {zone(-60), -5, -60, 0}, {zone(-60), math.MinInt, -60, 0},
		{zone(-60), 0, -60, 0}, {zone(-60), 30, -60, 0}, {zone(-60), 59, -60, 0}, {zone(-60), 60, -60, 0}, {zone(-60), 61, -60, 1},
		{zone(840), 0, 840, 840}, {zone(840), most - 840, 840, most}, {zone(840), most - 839, 840, most}, {zone(-840), 840, -840, 0}, {zone(-840), 841, -840, 1}, {zone(-840), most, -840, most - 840},
		// Changes at both limits.
		{zone(60, api.Change{At: 0, Offset: 7}), 0, 7, 7}, {zone(60, api.Change{At: 0, Offset: 7}), -1, 7, 7},
		{zone(60, api.Change{At: most, Offset: -7}), most, -7, most - 7}, {zone(60, api.Change{At: most, Offset: -7}), most + 1, -7, most - 7}, {zone(60, api.Change{At: most, Offset: -7}), most - 1, 60, most},
	} {
		checkLocal(t, c.z, c.m, c.offset, c.local)
	}
}

// P5.5: before, at and behind each change.
func TestLocalAroundChanges(t *testing.T) {
	for _, z := range valid() {
		for _, m := range around(z) {
			offset := offsetOf(z, limited(m))
			checkLocal(t, z, m, offset, limited(limited(m)+offset))
		}
	}
}

// P5.5: all of the 64 changes count.
func TestLocalOfManyChanges(t *testing.T) {
	z := zone(-31, rising(64)...)
	for m := range 700 {
		offset := min(m/10, 63) - 30
		checkLocal(t, z, m, offset, max(m+offset, 0))
	}
}

// P5.5, P5.6: a zone that is not valid has the offset 0.
func TestZonesThatAreNotValid(t *testing.T) {
	for _, z := range invalid() {
		for _, m := range []int{math.MinInt, -1, 0, 1, 5, 10, 11, 60, 61, 999, most - 1, most, most + 1, math.MaxInt} {
			checkLocal(t, z, m, 0, limited(m))
			if limited(m) == m {
				checkUtc(t, z, m, m, true)
			} else {
				checkUtc(t, z, m, 0, false)
			}
		}
	}
}

func checkUtc(t *testing.T, z api.Zone, l, want int, ok bool) {
	t.Helper()
	if m, found := clock.Utc(z, l); m != want || found != ok {
		t.Errorf("Utc(%s, %d): got %d, %v, want %d, %v", shown(z), l, m, found, want, ok)
	}
}

// P5.6
func TestUtcExamples(t *testing.T) {
	spring := zone(60, api.Change{At: 1000, Offset: 120})
	autumn := zone(120, api.Change{At: 1000, Offset: 60})
	for _, c := range []struct {
		z    api.Zone
		l, m int
	}{
		{spring, 60, 0}, {spring, 1059, 999}, {spring, 1120, 1000}, {spring, 1121, 1001},
		{autumn, 120, 0}, {autumn, 1059, 939}, {autumn, 1060, 940}, {autumn, 1070, 950}, {autumn, 1119, 999}, {autumn, 1120, 1060},
		// Several minutes are 0, or MaxMinute, where the local time is limited.
		{zone(-60), 0, 0}, {zone(-60), 1, 61}, {zone(0), 0, 0}, {zone(-840), 0, 0}, {zone(-840), 1, 841},
		{zone(60), most, most - 60}, {zone(60), most - 1, most - 61}, {zone(840), most, most - 840}, {zone(0), most, most}, {spring, most, most - 120},
		{zone(60, api.Change{At: 0, Offset: -60}), 0, 0}, {zone(60, api.Change{At: 30, Offset: -60}), 0, 30}, {zone(60, api.Change{At: 60, Offset: -60}), 0, 60},
		{zone(60, api.Change{At: 61, Offset: -60}), 1, 61}, {zone(-60, api.Change{At: 10, Offset: 60}), 70, 10}, {zone(-60, api.Change{At: 10, Offset: 60}), 0, 0},
		{zone(-60, api.Change{At: most - 30, Offset: 60}), most, most - 30}, {zone(-60, api.Change{At: most - 60, Offset: 60}), most, most - 60}, {zone(-60, api.Change{At: most - 90, Offset: 60}), most, most - 60},
		{zone(60, api.Change{At: most - 30, Offset: -60}), most, most - 60}, {zone(60, api.Change{At: most - 30, Offset: -60}), most - 60, most - 120}, {zone(0, api.Change{At: most, Offset: -5}), most - 5, most - 5},
		// The 65 segments of this zone all have the local minute 563.
		{zone(64, countdown(500, 64, 63)...), 563, 499}, {zone(64, countdown(500, 64, 63)...), 564, 564}, {zone(64, countdown(500, 64, 63)...), 562, 498},
	} {
		checkUtc(t, c.z, c.l, c.m, true)
	}
}

// P5.6: local minutes that are skipped, before the first one and behind the
// last one, and out of range.
func TestUtcOfNoMinute(t *testing.T) {
	spring := zone(60, api.Change{At: 1000, Offset: 120})
	for _, l := range []int{1060, 1061, 1090, 1118, 1119, 59, 30, 1, 0, -1, -60, math.MinInt, most + 1, most + 120, 1 << 40, math.MaxInt} {
		checkUtc(t, spring, l, 0, false)
	}
	for _, z := range append(valid(), invalid()...) {
		for _, l := range []int{-1, -2, -60, -840, -841, math.MinInt, math.MinInt + 840, most + 1, most + 60, most + 840, most + 841, math.MaxInt, math.MaxInt - 840} {
			checkUtc(t, z, l, 0, false)
		}
	}
	for _, l := range []int{most, most - 1, most - 59} {
		checkUtc(t, zone(-60), l, 0, false)
	}
	checkUtc(t, zone(-60), most-60, most, true)
	checkUtc(t, zone(0, api.Change{At: most, Offset: -5}), most, 0, false)
	checkUtc(t, zone(0, api.Change{At: 0, Offset: 5}), 0, 0, false)
}

// P5.6, P5.10: compared with the first of all minutes that have the local minute.
func TestUtcAroundChanges(t *testing.T) {
	for _, z := range valid() {
		for _, l := range around(z) {
			m, ok := utcOf(z, l)
			checkUtc(t, z, l, m, ok)
		}
	}
	source := newSource()
	for range 3000 {
		from := []int{0, 1, 3000, most - 10}[source.IntN(4)]
		z := randomZone(source, from, 1+source.IntN(4), 1+source.IntN(6))
		z.Changes = z.Changes[:source.IntN(min(len(z.Changes), 6)+1)]
		for n := -12; n < 20; n++ {
			m, ok := utcOf(z, from+n)
			checkUtc(t, z, from+n, m, ok)
		}
	}
}

// P5.10: each minute's local minute is found, at that minute or a lesser one.
func TestUtcUndoesLocal(t *testing.T) {
	for _, z := range valid() {
		for _, m := range around(z) {
			l := clock.Local(z, m)
			first, ok := clock.Utc(z, l)
			if !ok || first > limited(m) || first < 0 || clock.Local(z, first) != l {
				t.Errorf("Utc(%s, %d): got %d, %v, but %d has it", shown(z), l, first, ok, m)
			}
			for lesser := max(first-3, 0); lesser < first; lesser++ {
				if clock.Local(z, lesser) == l {
					t.Errorf("Utc(%s, %d): got %d, but %d has it", shown(z), l, first, lesser)
				}
			}
		}
	}
}

// P1, R5: the changes of a zone are kept.
func TestZonesAreKept(t *testing.T) {
	for _, z := range append(valid(), invalid()...) {
		before := slices.Clone(z.Changes)
		roomy := append(slices.Grow(z.Changes, 1), api.Change{At: 7, Offset: 7})
		given := api.Zone{Offset: z.Offset, Changes: roomy[:len(before)]}
		for _, m := range []int{math.MinInt, 0, 999, 1000, most, math.MaxInt} {
			clock.Check(given)
			clock.Offset(given, m)
			clock.Local(given, m)
			clock.Utc(given, m)
		}
		if !slices.Equal(given.Changes, before) || roomy[len(before)] != (api.Change{At: 7, Offset: 7}) {
			t.Errorf("the changes of %s became other ones", shown(z))
		}
	}
}

// P1, R4: no changes are none, nil or empty.
func TestNoChanges(t *testing.T) {
	for _, offset := range []int{-841, -840, -60, 0, 60, 840, 841} {
		without, empty := zone(offset), api.Zone{Offset: offset, Changes: []api.Change{}}
		checkCheck(t, empty, clock.Check(without))
		for _, m := range edges() {
			checkLocal(t, empty, m, clock.Offset(without, m), clock.Local(without, m))
			utc, ok := clock.Utc(without, m)
			checkUtc(t, empty, m, utc, ok)
		}
	}
}

// P1, R7: the result of a call does not depend on the calls before it.
func TestCallsAreIndependent(t *testing.T) {
	for range 2 {
		clock.At(date(4041, 12, 31, 0, 0))
		clock.Of(math.MaxInt)
		clock.Utc(zone(841), 5)
		checkOf(t, 86400, date(2000, 3, 1, 0, 0))
		checkAt(t, date(2000, 3, 1, 0, 0), 86400)
		checkWeek(t, 2881, 0, 1)
		spring := zone(60, api.Change{At: 1000, Offset: 120})
		checkLocal(t, spring, 999, 60, 1059)
		checkUtc(t, spring, 1059, 999, true)
		checkUtc(t, spring, 1060, 0, false)
		checkCheck(t, spring, api.OK)
	}
}
