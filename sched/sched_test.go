package sched_test

import (
	"fmt"
	"math"
	"math/rand/v2"
	"slices"
	"strings"
	"testing"

	"homehub/api"
	"homehub/sched"
)

const (
	week = 10080
	day  = 1440
)

// minutes tells of each minute of the week whether it is contained.
type minutes [week]bool

// spans makes a list of its ends.
func spans(ends ...int) []api.Span {
	var l []api.Span
	for i := 0; i < len(ends); i += 2 {
		l = append(l, api.Span{From: ends[i], To: ends[i+1]})
	}
	return l
}

// of returns the minutes of a list, as the chapter defines them.
func of(l []api.Span) minutes {
	var set minutes
	for _, span := range l {
		if 0 <= span.From && span.From < span.To && span.To <= week {
			for m := span.From; m < span.To; m++ {
				set[m] = true
			}
		}
	}
	return set
}

func (set *minutes) count() int {
	n := 0
	for _, isIn := range set {
		if isIn {
			n++
		}
	}
	return n
}

// normal returns the one list in normal form that has these minutes.
func (set *minutes) normal() []api.Span {
	var l []api.Span
	for m := 0; m < week; m++ {
		if !set[m] {
			continue
		}
		from := m
		for m < week && set[m] {
			m++
		}
		l = append(l, api.Span{From: from, To: m})
	}
	return l
}

// next returns what Next returns at a minute from 0 to week - 1.
func (set *minutes) next(m int) int {
	for k := 1; k <= week; k++ {
		if set[(m+k)%week] != set[m] {
			return k
		}
	}
	return 0
}

// merged returns the minutes that keep chooses.
func merged(a, b minutes, keep func(inA, inB bool) bool) minutes {
	var set minutes
	for m := range week {
		set[m] = keep(a[m], b[m])
	}
	return set
}

// remainder returns a minute modulo week. Unlike m % week it is never negative.
func remainder(m int) int {
	if m < 0 {
		// The complement -m - 1 of a negative number always is an int.
		return week - 1 - (-(m + 1))%week
	}
	return m % week
}

// isNormal reports whether a list is in normal form.
func isNormal(l []api.Span) bool {
	end := -1
	for _, span := range l {
		if span.From <= end || span.From >= span.To || span.From < 0 || span.To > week {
			return false
		}
		end = span.To
	}
	return true
}

// shown returns the text of a list, shortened.
func shown(l []api.Span) string {
	var s strings.Builder
	for i, span := range l {
		if i == 8 {
			return fmt.Sprintf("%s .. (%d spans)", s.String(), len(l))
		}
		fmt.Fprintf(&s, "(%d, %d)", span.From, span.To)
	}
	return "[" + s.String() + "]"
}

func checkList(t *testing.T, got, want []api.Span, call string, args ...any) {
	t.Helper()
	if !slices.Equal(got, want) {
		t.Errorf("%s: got %s, want %s", fmt.Sprintf(call, args...), shown(got), shown(want))
	}
}

func checkHas(t *testing.T, l []api.Span, m int, want bool) {
	t.Helper()
	if got := sched.Has(l, m); got != want {
		t.Errorf("Has(%s, %d): got %v", shown(l), m, got)
	}
}

func checkNext(t *testing.T, l []api.Span, m, want int) {
	t.Helper()
	if got := sched.Next(l, m); got != want {
		t.Errorf("Next(%s, %d): got %d, want %d", shown(l), m, got, want)
	}
}

func checkLength(t *testing.T, l []api.Span, want int) {
	t.Helper()
	if got := sched.Length(l); got != want {
		t.Errorf("Length(%s): got %d, want %d", shown(l), got, want)
	}
}

func checkCheck(t *testing.T, l []api.Span, want api.Errno) {
	t.Helper()
	if got := sched.Check(l); got != want {
		t.Errorf("Check(%s): got %d, want %d", shown(l), got, want)
	}
}

// checkOne checks what the functions of one list return.
func checkOne(t *testing.T, l []api.Span) {
	t.Helper()
	set := of(l)
	checkList(t, sched.Norm(l), set.normal(), "Norm(%s)", shown(l))
	checkLength(t, l, set.count())
}

// checkTwo checks what the functions of two lists return.
func checkTwo(t *testing.T, a, b []api.Span) {
	t.Helper()
	setA, setB := of(a), of(b)
	union := merged(setA, setB, func(inA, inB bool) bool { return inA || inB })
	cross := merged(setA, setB, func(inA, inB bool) bool { return inA && inB })
	minus := merged(setA, setB, func(inA, inB bool) bool { return inA && !inB })
	checkList(t, sched.Union(a, b), union.normal(), "Union(%s, %s)", shown(a), shown(b))
	checkList(t, sched.Cross(a, b), cross.normal(), "Cross(%s, %s)", shown(a), shown(b))
	checkList(t, sched.Minus(a, b), minus.normal(), "Minus(%s, %s)", shown(a), shown(b))
}

// checkMinutes checks Has and Next at some minutes of the week.
func checkMinutes(t *testing.T, l []api.Span, at []int) {
	t.Helper()
	set := of(l)
	for _, m := range at {
		checkHas(t, l, m, set[remainder(m)])
		checkNext(t, l, m, set.next(remainder(m)))
	}
}

// invalid are spans that are not valid, each in another way.
func invalid() []api.Span {
	return spans(
		0, 0, 5, 5, week, week, week-1, week-1, -1, -1, week+1, week+1,
		1, 0, 9, 3, week, 0, week, week-1, week+1, week,
		-1, 4, -1, 0, -1, week, -5, -3, -week, week, 0, -1, 5, -5,
		0, week+1, 1, week+1, week-1, week+1, week, week+1, week+5, week+9, week+5, 9, 5, 2*week,
		math.MinInt, math.MaxInt, math.MaxInt, math.MinInt, math.MinInt, 5, 0, math.MaxInt, 5, math.MinInt, math.MaxInt, 5,
		math.MinInt, math.MinInt, math.MaxInt, math.MaxInt, 1<<32, 1<<32+5, 0, 1<<32+5, -1<<32, 5, 1<<40, 1<<40+1, -1<<62, 1<<62,
	)
}

// edges are minutes around ends of days and of weeks, around powers of two and
// at both ends of int.
func edges() []int {
	l := []int{math.MinInt, math.MinInt + 1, math.MinInt + 3, math.MaxInt, math.MaxInt - 1, math.MaxInt - 7}
	for _, m := range []int{0, 10, 20, day, 3 * day, week, 2 * week, 7 * week, 1 << 16, 1 << 32, 1 << 40, 1 << 62, week << 40} {
		for _, step := range []int{-2, -1, 0, 1, 2} {
			l = append(l, m+step, -m+step)
		}
	}
	return l
}

func newSource() *rand.Rand {
	return rand.New(rand.NewPCG(6, 10080))
}

// randomSpan returns a span that is mostly valid, and whose ends often are those
// of others.
func randomSpan(source *rand.Rand) api.Span {
	grid := []int{1, 1, 60, day, week}[source.IntN(5)]
	from := source.IntN(week/grid+1) * grid
	length := source.IntN([]int{3, 20, 500, 9000}[source.IntN(4)]) * min(grid, 60)
	span := api.Span{From: from, To: min(from+length, week)}
	switch source.IntN(20) {
	case 0:
		span.From, span.To = span.To, span.From
	case 1:
		span.From -= week
	case 2:
		span.To += week
	case 3:
		list := invalid()
		span = list[source.IntN(len(list))]
	}
	return span
}

func randomList(source *rand.Rand) []api.Span {
	l := make([]api.Span, source.IntN([]int{2, 5, 12, 60}[source.IntN(4)]))
	for i := range l {
		l[i] = randomSpan(source)
	}
	return l
}

// smallLists returns all lists of at most two spans, valid or not, whose ends
// are from base to base + 3.
func smallLists(base int) [][]api.Span {
	lists := [][]api.Span{nil}
	for i := range 16 {
		first := api.Span{From: base + i/4, To: base + i%4}
		lists = append(lists, []api.Span{first})
		for j := range 16 {
			lists = append(lists, []api.Span{first, {From: base + j/4, To: base + j%4}})
		}
	}
	return lists
}

// P6.1
func TestCheckOfValidSpans(t *testing.T) {
	for _, l := range [][]api.Span{
		nil, {}, spans(0, 1), spans(0, week), spans(week-1, week), spans(10, 20), spans(5, 9),
		// Spans can overlap, touch, be equal and stand in any order.
		spans(10, 20, 5, 10, 30, 40, 35, 36), spans(9, 10, 9, 10), spans(0, week, 0, week), spans(20, 30, 10, 20),
	} {
		checkCheck(t, l, api.OK)
	}
}

// P6.1
func TestCheckOfInvalidSpans(t *testing.T) {
	for _, span := range invalid() {
		checkCheck(t, []api.Span{span}, api.ErrRange)
		for at := range 4 {
			l := slices.Insert(spans(10, 20, 5, 10, 30, 40), at, span)
			checkCheck(t, l, api.ErrRange)
		}
	}
}

// P6.1: the limit comes before the range.
func TestCheckOfManySpans(t *testing.T) {
	for _, n := range []int{255, 256, 257, 258, 1000} {
		want := api.OK
		if n > 256 {
			want = api.ErrLimit
		}
		l := slices.Repeat(spans(10, 20), n)
		checkCheck(t, l, want)
		if want == api.OK {
			want = api.ErrRange
		}
		for _, at := range []int{0, n / 2, n - 1} {
			given := slices.Clone(l)
			given[at].To = 10
			checkCheck(t, given, want)
		}
		checkCheck(t, make([]api.Span, n), want)
	}
}

// P6.2
func TestNormExamples(t *testing.T) {
	for _, c := range []struct {
		l, want []api.Span
		length  int
	}{
		{spans(10, 20, 5, 10, 30, 40, 35, 36, 7, 7), spans(5, 20, 30, 40), 25},
		{nil, nil, 0},
		{spans(), nil, 0},
		{spans(0, week), spans(0, week), 10080},
		{spans(0, week, 3, 4), spans(0, week), 10080},
		{spans(3, 4, 0, week), spans(0, week), 10080},
		{spans(0, 1), spans(0, 1), 1},
		{spans(week-1, week), spans(week-1, week), 1},
		// The end of the week is never crossed.
		{spans(week-60, week, 0, 60), spans(0, 60, week-60, week), 120},
		// Spans touch if no minute is between them.
		{spans(1, 2, 2, 3), spans(1, 3), 2},
		{spans(2, 3, 1, 2), spans(1, 3), 2},
		{spans(1, 2, 3, 4), spans(1, 2, 3, 4), 2},
		{spans(3, 4, 1, 2), spans(1, 2, 3, 4), 2},
		{spans(1, 2, 3, 4, 2, 3), spans(1, 4), 3},
		{spans(10, 20, 10, 20), spans(10, 20), 10},
		{spans(10, 20, 10, 15), spans(10, 20), 10},
		{spans(10, 20, 15, 20), spans(10, 20), 10},
		{spans(10, 20, 12, 14, 16, 18), spans(10, 20), 10},
		{spans(10, 15, 12, 18, 16, 20), spans(10, 20), 10},
		{spans(0, 5000, 5000, week), spans(0, week), 10080},
		{spans(5001, week, 0, 5000), spans(0, 5000, 5001, week), 10079},
		// Spans that are not valid contain no minutes.
		{spans(-1, 4, 1, 10081, 9, 3), nil, 0},
		{spans(5, 5, 10, 20, 20, 10), spans(10, 20), 10},
		{invalid(), nil, 0},
		{append(invalid(), spans(10, 20)...), spans(10, 20), 10},
	} {
		checkList(t, sched.Norm(c.l), c.want, "Norm(%s)", shown(c.l))
		checkLength(t, c.l, c.length)
	}
}

// P6.2: each span that is not valid, alone and among valid ones.
func TestInvalidSpansContainNothing(t *testing.T) {
	for _, span := range invalid() {
		alone := []api.Span{span}
		checkList(t, sched.Norm(alone), nil, "Norm(%s)", shown(alone))
		checkLength(t, alone, 0)
		checkMinutes(t, alone, edges())
		among := append(spans(10, 20, 100, 200), span)
		checkList(t, sched.Norm(among), spans(10, 20, 100, 200), "Norm(%s)", shown(among))
		checkLength(t, among, 110)
		checkMinutes(t, among, edges())
		checkTwo(t, spans(0, 50), among)
		checkTwo(t, among, spans(0, 50))
		checkTwo(t, alone, spans(0, week))
		checkTwo(t, spans(0, week), alone)
	}
}

// P6.2
func TestHasExamples(t *testing.T) {
	for _, c := range []struct {
		l    []api.Span
		m    int
		want bool
	}{
		{spans(10, 20), 9, false}, {spans(10, 20), 10, true}, {spans(10, 20), 19, true}, {spans(10, 20), 20, false},
		{spans(0, 1), 10080, true}, {spans(0, 1), 10079, false}, {spans(0, 1), 10081, false}, {spans(0, 1), 0, true},
		{spans(10079, 10080), -1, true}, {spans(10079, 10080), 0, false}, {spans(10079, 10080), -2, false}, {spans(10079, 10080), 10080, false},
		{spans(10, 20), 10090, true}, {spans(10, 20), 10099, true}, {spans(10, 20), 10100, false}, {spans(10, 20), 10089, false},
		{spans(10, 20), -10070, true}, {spans(10, 20), -10061, true}, {spans(10, 20), -10060, false}, {spans(10, 20), -10071, false},
		{spans(0, 1), -10080, true}, {spans(0, 1), -10081, false}, {spans(0, 1), -20160, true}, {spans(0, 1), 20160, true},
		{spans(30, 40, 10, 20), 15, true}, {spans(30, 40, 10, 20), 35, true}, {spans(30, 40, 10, 20), 25, false},
		{spans(5, 5), 5, false}, {spans(-5, 5), 0, false}, {spans(5, 10081), 7, false}, {nil, 0, false}, {nil, -1, false},
		// 2^63 - 1 is 2527 modulo 10080, and -2^63 is 7552.
		{spans(2527, 2528), math.MaxInt, true}, {spans(0, 2527, 2528, week), math.MaxInt, false},
		{spans(7552, 7553), math.MinInt, true}, {spans(0, 7552, 7553, week), math.MinInt, false},
	} {
		checkHas(t, c.l, c.m, c.want)
	}
}

// P6.2
func TestHasAtEachMinute(t *testing.T) {
	for m := -2*week - 5; m < 3*week; m++ {
		checkHas(t, spans(0, week), m, true)
		checkHas(t, nil, m, false)
		minute := remainder(m)
		checkHas(t, spans(minute, minute+1), m, true)
		checkHas(t, spans(0, minute, minute+1, week), m, false)
	}
}

// P6.2
func TestNextExamples(t *testing.T) {
	for _, c := range []struct {
		l       []api.Span
		m, want int
	}{
		{spans(10, 20), 0, 10}, {spans(10, 20), 10, 10}, {spans(10, 20), 20, 10070},
		{spans(10, 20), 9, 1}, {spans(10, 20), 19, 1}, {spans(10, 20), -1, 11}, {spans(10, 20), 10079, 11}, {spans(10, 20), 10080, 10}, {spans(10, 20), 10090, 10},
		{spans(10, 20), -10080, 10}, {spans(10, 20), -10070, 10}, {spans(10, 20), -10060, 10070}, {spans(10, 20), -10081, 11},
		// No minute, or all.
		{nil, 0, 0}, {nil, 5, 0}, {nil, -5, 0}, {spans(), 9, 0}, {invalid(), 9, 0}, {spans(5, 5), 5, 0},
		{spans(0, week), 0, 0}, {spans(0, week), 5, 0}, {spans(0, week), -1, 0}, {spans(5000, week, 0, 5000), 7, 0}, {spans(0, 6000, 5000, week), 7, 0},
		// One minute, or all but one.
		{spans(5, 6), 5, 1}, {spans(5, 6), 6, 10079}, {spans(5, 6), 4, 1}, {spans(0, 5, 6, week), 5, 1}, {spans(0, 5, 6, week), 6, 10079}, {spans(0, 5, 6, week), 4, 1},
		{spans(0, 1), 0, 1}, {spans(0, 1), 1, 10079}, {spans(0, 1), -1, 1}, {spans(week-1, week), -1, 1}, {spans(week-1, week), 0, 10079}, {spans(week-1, week), -2, 1},
		// A time that crosses the end of the week.
		{spans(week-60, week, 0, 60), week - 60, 120}, {spans(week-60, week, 0, 60), -1, 61}, {spans(week-60, week, 0, 60), 0, 60}, {spans(week-60, week, 0, 60), 60, 9960}, {spans(week-60, week, 0, 60), 59, 1},
		// Spans that touch or overlap have no change between them.
		{spans(10, 20, 20, 30), 10, 20}, {spans(20, 30, 10, 20), 15, 15}, {spans(10, 20, 15, 30), 10, 20}, {spans(10, 20, 21, 30), 10, 10}, {spans(10, 20, 21, 30), 20, 1},
		{spans(10, 20, 30, 40), 20, 10}, {spans(30, 40, 10, 20), 20, 10}, {spans(30, 40, 10, 20), 40, 10050}, {spans(30, 40, 10, 20), 35, 5}, {spans(10, 20, 12, 14), 11, 9},
		{spans(2527, 2530), math.MaxInt, 3}, {spans(2528, 2530), math.MaxInt, 1}, {spans(7552, 7553), math.MinInt, 1}, {spans(7551, 7552), math.MinInt, 10079},
	} {
		checkNext(t, c.l, c.m, c.want)
	}
}

// P6.2, P6.8
func TestNextAtEachMinute(t *testing.T) {
	for _, l := range [][]api.Span{
		nil, spans(0, week), spans(10, 20), spans(0, 1), spans(week-1, week), spans(week-60, week, 0, 60), spans(60, week-60),
		spans(1, 2, 3, 4, 4, 5, 9, 8, 6, 7), spans(480, 1080, 1920, 2520, 3360, 3960, week-30, week, 0, 15, -5, 3000),
	} {
		set := of(l)
		for m := range week {
			want := set.next(m)
			checkNext(t, l, m, want)
			checkNext(t, l, m-week, want)
			checkNext(t, l, m+week, want)
		}
	}
}

// P6.2: the remainder of minutes of any size.
func TestMinutesOfAnySize(t *testing.T) {
	source := newSource()
	at := edges()
	for range 50 {
		at = append(at, int(source.Uint64()), int(source.Uint64())>>source.IntN(60))
	}
	for range 20 {
		checkMinutes(t, randomList(source), at)
	}
}

// P6.3
func TestExamplesOfTwoLists(t *testing.T) {
	for _, c := range []struct{ a, b, union, cross, minus []api.Span }{
		{spans(0, 100), spans(50, 150, 90, 95), spans(0, 150), spans(50, 100), spans(0, 50)},
		{spans(50, 150, 90, 95), spans(0, 100), spans(0, 150), spans(50, 100), spans(100, 150)},
		{nil, nil, nil, nil, nil},
		{spans(10, 20), nil, spans(10, 20), nil, spans(10, 20)},
		{nil, spans(10, 20), spans(10, 20), nil, nil},
		{spans(10, 20), spans(10, 20), spans(10, 20), spans(10, 20), nil},
		{spans(0, week), spans(0, week), spans(0, week), spans(0, week), nil},
		{spans(0, week), spans(10, 20), spans(0, week), spans(10, 20), spans(0, 10, 20, week)},
		{spans(10, 20), spans(0, week), spans(0, week), spans(10, 20), nil},
		{spans(0, week), spans(0, 10, week-10, week), spans(0, week), spans(0, 10, week-10, week), spans(10, week-10)},
		// Lists that touch.
		{spans(10, 20), spans(20, 30), spans(10, 30), nil, spans(10, 20)},
		{spans(20, 30), spans(10, 20), spans(10, 30), nil, spans(20, 30)},
		{spans(10, 20), spans(21, 30), spans(10, 20, 21, 30), nil, spans(10, 20)},
		{spans(10, 20), spans(19, 30), spans(10, 30), spans(19, 20), spans(10, 19)},
		{spans(10, 20, 20, 30), spans(15, 25), spans(10, 30), spans(15, 25), spans(10, 15, 25, 30)},
		{spans(15, 25), spans(10, 20, 20, 30), spans(10, 30), spans(15, 25), nil},
		{spans(10, 30), spans(10, 20, 20, 30), spans(10, 30), spans(10, 30), nil},
		{spans(10, 20, 30, 40), spans(15, 35), spans(10, 40), spans(15, 20, 30, 35), spans(10, 15, 35, 40)},
		{spans(10, 20, 30, 40), spans(20, 30), spans(10, 40), nil, spans(10, 20, 30, 40)},
		{spans(10, 12, 12, 14, 10, 14), spans(12, 13, 12, 13), spans(10, 14), spans(12, 13), spans(10, 12, 13, 14)},
		// Spans that are not valid.
		{spans(10, 20, -5, week), spans(15, 10081, 12, 12), spans(10, 20), nil, spans(10, 20)},
		{invalid(), invalid(), nil, nil, nil},
		{invalid(), spans(10, 20), spans(10, 20), nil, nil},
		{spans(10, 20), invalid(), spans(10, 20), nil, spans(10, 20)},
	} {
		checkList(t, sched.Union(c.a, c.b), c.union, "Union(%s, %s)", shown(c.a), shown(c.b))
		checkList(t, sched.Cross(c.a, c.b), c.cross, "Cross(%s, %s)", shown(c.a), shown(c.b))
		checkList(t, sched.Minus(c.a, c.b), c.minus, "Minus(%s, %s)", shown(c.a), shown(c.b))
	}
}

// P6.2, P6.3: all lists of at most two spans whose ends are four minutes in the
// midst of the week or around one of its ends.
func TestAllSmallLists(t *testing.T) {
	for _, base := range []int{-1, 500, week - 2} {
		lists := smallLists(base)
		for i, a := range lists {
			checkOne(t, a)
			checkMinutes(t, a, []int{base - 1, base, base + 1, base + 2, base + 3})
			for j := i % 9; j < len(lists); j += 9 {
				checkTwo(t, a, lists[j])
			}
		}
	}
}

// P6.2, P6.3, P6.5, P6.6, P6.8
func TestRandomLists(t *testing.T) {
	source := newSource()
	for range 1500 {
		a, b := randomList(source), randomList(source)
		checkOne(t, a)
		checkTwo(t, a, b)
		checkMinutes(t, a, []int{source.IntN(week), source.IntN(week) - week, int(source.Uint64())})
		if t.Failed() {
			return
		}
	}
}

// P6.2, P6.3: lists of any length, also above the limit of Check.
func TestLongLists(t *testing.T) {
	var even, odd []api.Span
	for m := week - 2; m >= 0; m -= 2 {
		even = append(even, api.Span{From: m, To: m + 1})
		odd = append(odd, api.Span{From: m + 1, To: m + 2})
	}
	checkOne(t, even)
	checkMinutes(t, even, edges())
	checkTwo(t, even, odd)
	checkTwo(t, even, spans(100, 9000))
	checkTwo(t, spans(0, week), odd)
	many := slices.Repeat(append(invalid(), spans(0, week, 20, 30, 9, 10, 25, 40)...), 20000)
	checkList(t, sched.Norm(many), spans(0, week), "Norm of a long list")
	checkList(t, sched.Minus(many, spans(10, 20)), spans(0, 10, 20, week), "Minus of a long list")
	checkList(t, sched.Cross(spans(10, 20), many), spans(10, 20), "Cross with a long list")
	checkLength(t, many, week)
	checkHas(t, many, -1, true)
	checkNext(t, many, -1, 0)
}

// recurring returns the minutes of a time that recurs on the weekdays of a mask.
func recurring(mask, from, to int) minutes {
	var set minutes
	if mask < 0 || mask > 127 || from < 0 || from > 1440 || to < 0 || to > 1440 {
		return set
	}
	length := to - from
	if from >= to {
		length = 1440 - from + to
	}
	for weekday := range 7 {
		if mask&(1<<weekday) == 0 {
			continue
		}
		for k := range length {
			set[(weekday*1440+from+k)%week] = true
		}
	}
	return set
}

func checkDaily(t *testing.T, mask, from, to int) {
	t.Helper()
	set := recurring(mask, from, to)
	checkList(t, sched.Daily(mask, from, to), set.normal(), "Daily(%d, %d, %d)", mask, from, to)
}

// P6.4
func TestDailyExamples(t *testing.T) {
	for _, c := range []struct {
		mask, from, to int
		want           []api.Span
	}{
		{1, 480, 480, spans(480, 1920)},
		{64, 1380, 60, spans(0, 60, 10020, 10080)},
		{1, 1440, 0, nil}, {64, 1440, 0, nil}, {127, 1440, 0, nil},
		{3, 480, 540, spans(480, 540, 1920, 1980)},
		{127, 0, 1440, spans(0, week)}, {127, 0, 0, spans(0, week)}, {127, 1440, 1440, spans(0, week)}, {127, 600, 600, spans(0, week)},
		{1, 0, 1440, spans(0, 1440)}, {1, 0, 0, spans(0, 1440)}, {64, 0, 1440, spans(8640, week)}, {64, 0, 0, spans(8640, week)},
		// The minute 1440 of a day is the first one of the next day.
		{1, 1440, 1440, spans(1440, 2880)}, {1, 1440, 1, spans(1440, 1441)}, {1, 1440, 1439, spans(1440, 2879)}, {1, 1439, 1440, spans(1439, 1440)},
		{64, 1440, 1440, spans(0, 1440)}, {64, 1440, 1, spans(0, 1)}, {64, 1440, 1439, spans(0, 1439)}, {64, 1439, 1440, spans(10079, 10080)},
		{64, 1439, 0, spans(10079, 10080)}, {64, 1439, 1, spans(0, 1, 10079, 10080)}, {1, 1439, 0, spans(1439, 1440)}, {1, 1439, 1, spans(1439, 1441)},
		{64, 480, 480, spans(0, 480, 9120, 10080)}, {32, 1380, 60, spans(8580, 8700)}, {65, 1380, 60, spans(0, 60, 1380, 1500, 10020, 10080)},
		// Times of days that follow each other touch or overlap.
		{3, 480, 479, spans(480, 1919, 1920, 3359)}, {3, 480, 480, spans(480, 3360)}, {3, 0, 1440, spans(0, 2880)}, {5, 0, 1440, spans(0, 1440, 2880, 4320)},
		{66, 0, 0, spans(1440, 2880, 8640, 10080)}, {127, 1, 0, spans(1, 1440, 1441, 2880, 2881, 4320, 4321, 5760, 5761, 7200, 7201, 8640, 8641, 10080)},
		{1, 5, 6, spans(5, 6)}, {2, 5, 6, spans(1445, 1446)}, {4, 5, 6, spans(2885, 2886)}, {8, 5, 6, spans(4325, 4326)}, {16, 5, 6, spans(5765, 5766)}, {32, 5, 6, spans(7205, 7206)}, {64, 5, 6, spans(8645, 8646)},
		{0, 0, 60, nil}, {0, 0, 0, nil},
	} {
		checkList(t, sched.Daily(c.mask, c.from, c.to), c.want, "Daily(%d, %d, %d)", c.mask, c.from, c.to)
	}
}

// P6.4
func TestDailyRejects(t *testing.T) {
	for _, n := range []int{math.MinInt, -1 << 32, -1440, -128, -127, -2, -1} {
		checkList(t, sched.Daily(n, 0, 60), nil, "Daily(%d, 0, 60)", n)
		checkList(t, sched.Daily(1, n, 60), nil, "Daily(1, %d, 60)", n)
		checkList(t, sched.Daily(1, 0, n), nil, "Daily(1, 0, %d)", n)
	}
	for _, mask := range []int{128, 129, 255, 256, 257, 1 << 32, 1<<32 + 1, 1<<62 + 1, math.MaxInt} {
		checkList(t, sched.Daily(mask, 0, 60), nil, "Daily(%d, 0, 60)", mask)
		checkList(t, sched.Daily(mask, 1380, 60), nil, "Daily(%d, 1380, 60)", mask)
	}
	for _, m := range []int{1441, 1442, 1500, 2880, 10080, 1 << 32, 1<<32 + 60, math.MaxInt} {
		checkList(t, sched.Daily(127, m, 60), nil, "Daily(127, %d, 60)", m)
		checkList(t, sched.Daily(127, 1400, m), nil, "Daily(127, 1400, %d)", m)
		checkList(t, sched.Daily(127, m, m), nil, "Daily(127, %d, %d)", m, m)
	}
	checkList(t, sched.Daily(127, -1, 1441), nil, "Daily(127, -1, 1441)")
}

// P6.4: each mask with times around the ends of a day.
func TestDailyOfEachMask(t *testing.T) {
	at := []int{-1, 0, 1, 2, 480, 719, 720, 1438, 1439, 1440, 1441}
	for mask := -1; mask <= 128; mask++ {
		for _, from := range at {
			for _, to := range at {
				checkDaily(t, mask, from, to)
			}
		}
		if t.Failed() {
			return
		}
	}
}

// P6.4: each minute of the day as the beginning, and as the end.
func TestDailyOfEachMinute(t *testing.T) {
	for m := range day + 1 {
		other := m * 7919 % (day + 1)
		for _, mask := range []int{1, 64, 127, 1 << (m % 7)} {
			checkDaily(t, mask, m, other)
			checkDaily(t, mask, other, m)
			checkDaily(t, mask, m, m)
		}
		if t.Failed() {
			return
		}
	}
}

// P6.5
func TestSetsHaveTheirMinutes(t *testing.T) {
	source := newSource()
	for range 30 {
		a, b := randomList(source), randomList(source)
		union, cross, minus := sched.Union(a, b), sched.Cross(a, b), sched.Minus(a, b)
		at := edges()
		for m := range week {
			at = append(at, m)
		}
		for _, m := range at {
			inA, inB := sched.Has(a, m), sched.Has(b, m)
			checkHas(t, union, m, inA || inB)
			checkHas(t, cross, m, inA && inB)
			checkHas(t, minus, m, inA && !inB)
		}
		if t.Failed() {
			return
		}
	}
}

// P6.6
func TestLengthsAddUp(t *testing.T) {
	source := newSource()
	for range 3000 {
		a, b := randomList(source), randomList(source)
		length := sched.Length(a)
		if n := sched.Length(sched.Cross(a, b)) + sched.Length(sched.Minus(a, b)); n != length {
			t.Errorf("Cross and Minus of %s and %s have %d minutes, but a has %d", shown(a), shown(b), n, length)
		}
		if n := sched.Length(sched.Union(a, b)); n != length+sched.Length(sched.Minus(b, a)) {
			t.Errorf("Union of %s and %s has %d minutes, but a has %d", shown(a), shown(b), n, length)
		}
	}
}

// P6.7
func TestNormalForm(t *testing.T) {
	source := newSource()
	for range 2000 {
		l, other := randomList(source), randomList(source)
		normal := sched.Norm(l)
		checkList(t, sched.Norm(normal), normal, "Norm(%s)", shown(normal))
		shuffled := slices.Clone(l)
		source.Shuffle(len(shuffled), func(i, j int) { shuffled[i], shuffled[j] = shuffled[j], shuffled[i] })
		checkList(t, sched.Norm(shuffled), normal, "Norm(%s)", shown(shuffled))
		daily := sched.Daily(source.IntN(128), source.IntN(day+1), source.IntN(day+1))
		for _, result := range [][]api.Span{normal, sched.Union(l, other), sched.Cross(l, other), sched.Minus(l, other), daily} {
			if !isNormal(result) {
				t.Errorf("%s is not in normal form", shown(result))
			}
		}
	}
}

// P6.7: all orders of a list.
func TestOrderDoesNotMatter(t *testing.T) {
	l := spans(10, 20, 5, 10, 30, 40, 35, 36, 7, 7)
	var permute func(k int)
	permute = func(k int) {
		if k == len(l) {
			checkList(t, sched.Norm(l), spans(5, 20, 30, 40), "Norm(%s)", shown(l))
			checkLength(t, l, 25)
			checkNext(t, l, 6, 14)
			checkTwo(t, l, spans(8, 33))
			return
		}
		for i := k; i < len(l); i++ {
			l[k], l[i] = l[i], l[k]
			permute(k + 1)
			l[k], l[i] = l[i], l[k]
		}
	}
	permute(0)
}

// P6.8
func TestNextIsTheFirstChange(t *testing.T) {
	source := newSource()
	for range 300 {
		l := randomList(source)
		m := int(source.Uint64()) >> (1 + source.IntN(62))
		k, isIn := sched.Next(l, m), sched.Has(l, m)
		if k < 0 || k > week {
			t.Errorf("Next(%s, %d): got %d", shown(l), m, k)
		}
		for j := 1; j < k; j++ {
			checkHas(t, l, m+j, isIn)
		}
		if k > 0 {
			checkHas(t, l, m+k, !isIn)
		}
	}
}

// calls returns the results of all functions that return lists.
func calls(a, b []api.Span) [][]api.Span {
	return [][]api.Span{sched.Norm(a), sched.Norm(b), sched.Union(a, b), sched.Cross(a, b), sched.Minus(a, b), sched.Minus(b, a)}
}

// P1, R5: arguments are not changed, nor is the memory behind them.
func TestArgumentsAreKept(t *testing.T) {
	source := newSource()
	for range 300 {
		a, b := randomList(source), randomList(source)
		roomy := append(slices.Clone(a), api.Span{From: 3, To: 7}, api.Span{From: 1, To: 2})
		before, beforeB := slices.Clone(roomy), slices.Clone(b)
		given := roomy[:len(a)]
		sched.Check(given)
		sched.Has(given, 5)
		sched.Length(given)
		sched.Next(given, 5)
		calls(given, b)
		calls(b, given)
		if !slices.Equal(roomy, before) || !slices.Equal(b, beforeB) {
			t.Errorf("%s and %s became %s and %s", shown(before), shown(beforeB), shown(roomy), shown(b))
		}
	}
}

// P1, R5: a result that is changed changes no argument and no other result.
func TestResultsShareNoMemory(t *testing.T) {
	for _, c := range [][2][]api.Span{
		{spans(10, 20), nil}, {nil, spans(10, 20)}, {spans(10, 20), spans(10, 20)}, {spans(10, 20, 30, 40), spans(0, week)}, {spans(0, week), spans(0, 1)},
	} {
		a, b := c[0], c[1]
		beforeA, beforeB := slices.Clone(a), slices.Clone(b)
		want := calls(a, b)
		for i, list := range calls(a, b) {
			kept := slices.Clone(want[i])
			for j := range list {
				list[j] = api.Span{From: 77, To: 78}
			}
			checkList(t, want[i], kept, "the result %d of an earlier call", i)
		}
		checkList(t, a, beforeA, "a, after its results changed,")
		checkList(t, b, beforeB, "b, after its results changed,")
		for i, list := range calls(a, b) {
			checkList(t, list, want[i], "the result %d of a later call", i)
		}
	}
	daily := sched.Daily(3, 0, 60)
	daily[0].To = 5
	checkList(t, sched.Daily(3, 0, 60), spans(0, 60, 1440, 1500), "Daily(3, 0, 60)")
}

// P1, R5: one list as both arguments.
func TestOneListTwice(t *testing.T) {
	source := newSource()
	for range 300 {
		l := randomList(source)
		set := of(l)
		checkList(t, sched.Union(l, l), set.normal(), "Union(l, l) of %s", shown(l))
		checkList(t, sched.Cross(l, l), set.normal(), "Cross(l, l) of %s", shown(l))
		checkList(t, sched.Minus(l, l), nil, "Minus(l, l) of %s", shown(l))
	}
}

// P1, R4: a nil list and an empty one mean the same.
func TestNoSpans(t *testing.T) {
	empty := []api.Span{}
	checkCheck(t, empty, api.OK)
	checkOne(t, empty)
	checkMinutes(t, empty, edges())
	for _, l := range [][]api.Span{nil, empty, spans(10, 20), invalid()} {
		for i, list := range calls(empty, l) {
			checkList(t, list, calls(nil, l)[i], "the result %d with an empty list and %s", i, shown(l))
		}
		for i, list := range calls(l, empty) {
			checkList(t, list, calls(l, nil)[i], "the result %d with %s and an empty list", i, shown(l))
		}
	}
}

// R7: the result of a call does not depend on the calls before it.
func TestCallsAreIndependent(t *testing.T) {
	for range 2 {
		checkCheck(t, make([]api.Span, 257), api.ErrLimit)
		checkCheck(t, invalid(), api.ErrRange)
		sched.Union(spans(0, week), invalid())
		sched.Daily(127, 1380, 60)
		checkCheck(t, spans(10, 20), api.OK)
		checkList(t, sched.Norm(spans(10, 20, 5, 10)), spans(5, 20), "Norm")
		checkList(t, sched.Cross(spans(0, 100), spans(50, 150)), spans(50, 100), "Cross")
		checkList(t, sched.Minus(spans(0, 100), spans(50, 150)), spans(0, 50), "Minus")
		checkList(t, sched.Daily(1, 480, 480), spans(480, 1920), "Daily")
		checkLength(t, spans(10, 20), 10)
		checkHas(t, spans(10, 20), 10, true)
		checkNext(t, spans(10, 20), 0, 10)
	}
}
