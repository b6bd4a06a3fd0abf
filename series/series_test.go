package series_test

import (
	"fmt"
	"math"
	"math/big"
	"math/rand/v2"
	"slices"
	"testing"

	"homehub/api"
	"homehub/series"
)

const (
	most  = 96
	limit = 1 << 40
)

// limited returns a number, limited to the range of values.
func limited(n int) int {
	return max(min(n, limit), -limit)
}

// read returns the elements that a list has as a series.
func read(l []int) []int {
	if len(l) > most {
		return nil
	}
	var elements []int
	for _, n := range l {
		elements = append(elements, limited(n))
	}
	return elements
}

// sum returns the sum of limited elements, limited. No sum of 96 of them passes
// the ends of int.
func sum(l []int) int {
	total := 0
	for _, n := range l {
		total += n
	}
	return limited(total)
}

// sumBetween returns what Sum returns. It looks at every index, so the ends can
// be any.
func sumBetween(l []int, from, to int) int {
	var part []int
	for i, n := range read(l) {
		if from <= i && i < to {
			part = append(part, n)
		}
	}
	return sum(part)
}

// added returns what Add returns.
func added(a, b []int) []int {
	a, b = read(a), read(b)
	if len(a) < len(b) {
		a, b = b, a
	}
	for i, n := range b {
		a[i] = limited(a[i] + n)
	}
	return a
}

// scaled returns what Scale returns for an element.
func scaled(n, a, b int) int {
	if b == 0 {
		return 0
	}
	dividend := new(big.Int).Mul(big.NewInt(int64(limited(n))), big.NewInt(int64(limited(a))))
	divisor := big.NewInt(int64(limited(b)))
	// Div rounds down only for a positive divisor.
	if divisor.Sign() < 0 {
		dividend.Neg(dividend)
		divisor.Neg(divisor)
	}
	quotient := new(big.Int).Div(dividend, divisor)
	if !quotient.IsInt64() {
		return quotient.Sign() * limit
	}
	return limited(int(quotient.Int64()))
}

// held returns what Hold returns for points in order.
func held(points [][2]int, n int) []int {
	values := make([]int, n)
	for slot := range values {
		for _, point := range points {
			if point[0] <= slot {
				values[slot] = limited(point[1])
			}
		}
	}
	return values
}

// isAscending reports whether no point has the slot of a later one, or a greater
// slot.
func isAscending(points [][2]int) bool {
	for i, point := range points {
		for _, later := range points[i+1:] {
			if later[0] <= point[0] {
				return false
			}
		}
	}
	return true
}

// resampled returns what Resample returns.
func resampled(l []int, k int) []int {
	if k < 1 {
		return nil
	}
	var sums []int
	for rest := read(l); len(rest) > 0; {
		size := min(k, len(rest))
		sums = append(sums, sum(rest[:size]))
		rest = rest[size:]
	}
	return sums
}

// peak returns what Peak returns.
func peak(l []int) int {
	elements := read(l)
	if len(elements) == 0 {
		return -1
	}
	return slices.Index(elements, slices.Max(elements))
}

// cumulated returns what Cumulate returns.
func cumulated(l []int) []int {
	var sums []int
	for i := range read(l) {
		sums = append(sums, sum(read(l)[:i+1]))
	}
	return sums
}

func checkNumbers(t *testing.T, got, want []int, call string, args ...any) {
	t.Helper()
	if !slices.Equal(got, want) {
		t.Errorf("%s: got %v, want %v", fmt.Sprintf(call, args...), got, want)
	}
}

func checkNumber(t *testing.T, got, want int, call string, args ...any) {
	t.Helper()
	if got != want {
		t.Errorf("%s: got %d, want %d", fmt.Sprintf(call, args...), got, want)
	}
}

func checkCheck(t *testing.T, l []int, lo, hi, n int, want api.Errno) {
	t.Helper()
	if got := series.Check(l, lo, hi, n); got != want {
		t.Errorf("Check(%v, %d, %d, %d): got %d, want %d", l, lo, hi, n, got, want)
	}
}

func checkHold(t *testing.T, points [][2]int, n int, want []int, wantErr api.Errno) {
	t.Helper()
	got, err := series.Hold(points, n)
	if !slices.Equal(got, want) || err != wantErr {
		t.Errorf("Hold(%v, %d): got %v and %d, want %v and %d", points, n, got, err, want, wantErr)
	}
}

// checkOne checks what the functions of one list return, but for Check.
func checkOne(t *testing.T, l []int) {
	t.Helper()
	checkNumber(t, series.Peak(l), peak(l), "Peak(%v)", l)
	checkNumbers(t, series.Cumulate(l), cumulated(l), "Cumulate(%v)", l)
	for _, k := range append(ends(), -1, 0, 1, 2, 3, 7, 48, 95, 96, 97) {
		checkNumbers(t, series.Resample(l, k), resampled(l, k), "Resample(%v, %d)", l, k)
	}
	elements := read(l)
	for _, i := range append(ends(), -1, 0, 1, 2, len(l)-1, len(l), len(l)+1, 95, 96, 97) {
		want := 0
		if 0 <= i && i < len(elements) {
			want = elements[i]
		}
		checkNumber(t, series.At(l, i), want, "At(%v, %d)", l, i)
	}
}

// checkSums checks Sum for some parts of a list.
func checkSums(t *testing.T, l []int) {
	t.Helper()
	at := append(ends(), -2, -1, 0, 1, 2, 3, len(l)-1, len(l), len(l)+1, 95, 96, 97)
	for _, from := range at {
		for _, to := range at {
			checkNumber(t, series.Sum(l, from, to), sumBetween(l, from, to), "Sum(%v, %d, %d)", l, from, to)
		}
	}
}

// checkScale checks Scale for a list.
func checkScale(t *testing.T, l []int, a, b int) {
	t.Helper()
	var want []int
	for _, n := range read(l) {
		want = append(want, scaled(n, a, b))
	}
	checkNumbers(t, series.Scale(l, a, b), want, "Scale(%v, %d, %d)", l, a, b)
}

// ends are numbers at the ends of int and of the range of values.
func ends() []int {
	return []int{
		math.MinInt, math.MinInt + 1, math.MaxInt, math.MaxInt - 1, 1 << 62, -1 << 62, 1 << 32, -1 << 32,
		limit, limit - 1, limit + 1, -limit, -limit - 1, -limit + 1,
	}
}

// row returns the numbers from 1 to n.
func row(n int) []int {
	l := make([]int, n)
	for i := range l {
		l[i] = i + 1
	}
	return l
}

// steps returns n points, one in each slot from the first one on.
func steps(first, n int) [][2]int {
	points := make([][2]int, n)
	for i := range points {
		points[i] = [2]int{first + i, 1000 + i}
	}
	return points
}

func newSource() *rand.Rand {
	return rand.New(rand.NewPCG(7, 96))
}

// randomNumber returns a number that is often small, and sometimes at an end.
func randomNumber(source *rand.Rand) int {
	switch source.IntN(8) {
	case 0:
		return ends()[source.IntN(len(ends()))]
	case 1:
		return int(source.Uint64())
	case 2:
		return source.IntN(2*limit) - limit
	case 3:
		return source.IntN(3) * limit / 2
	default:
		return source.IntN(21) - 10
	}
}

// randomList returns a list that is now and then too long for a series.
func randomList(source *rand.Rand) []int {
	l := make([]int, source.IntN([]int{3, 8, 97, 100}[source.IntN(4)]))
	for i := range l {
		l[i] = randomNumber(source)
	}
	return l
}

// smallSeries returns a series none of whose sums is limited.
func smallSeries(source *rand.Rand) []int {
	l := make([]int, source.IntN(most+1))
	for i := range l {
		l[i] = source.IntN(2*(limit/(2*most))+1) - limit/(2*most)
	}
	return l
}

// randomPoints returns points that are mostly in order.
func randomPoints(source *rand.Rand) [][2]int {
	var points [][2]int
	slot := source.IntN(40) - 20
	for range source.IntN([]int{3, 10, 40}[source.IntN(3)]) {
		points = append(points, [2]int{slot, randomNumber(source)})
		slot += 1 + source.IntN(8)
	}
	if source.IntN(4) == 0 && len(points) > 0 {
		points[source.IntN(len(points))][0] = randomNumber(source)
	}
	return points
}

// P7.1
func TestCheckExamples(t *testing.T) {
	for _, c := range []struct {
		l         []int
		lo, hi, n int
		want      api.Errno
	}{
		{[]int{1, 2}, 0, 2, 2, api.OK}, {[]int{1, 2}, 0, 2, 3, api.ErrLimit}, {[]int{1, 2}, 0, 2, 1, api.ErrLimit}, {[]int{1, 3}, 0, 2, 2, api.ErrRange},
		{[]int{0, 2, 1}, 0, 2, 3, api.OK}, {[]int{-1, 2, 1}, 0, 2, 3, api.ErrRange}, {[]int{0, 3, 1}, 0, 2, 3, api.ErrRange}, {[]int{0, 2, 9}, 0, 2, 3, api.ErrRange},
		{[]int{0, 2, -9}, 0, 2, 3, api.ErrRange}, {[]int{5}, 5, 5, 1, api.OK}, {[]int{4}, 5, 5, 1, api.ErrRange}, {[]int{6}, 5, 5, 1, api.ErrRange},
		{[]int{-3, -5}, -5, -3, 2, api.OK}, {[]int{-3, -6}, -5, -3, 2, api.ErrRange}, {[]int{-2, -5}, -5, -3, 2, api.ErrRange},
		// No number is within bounds in the wrong order.
		{[]int{3}, 5, 1, 1, api.ErrRange}, {[]int{5}, 5, 1, 1, api.ErrRange}, {[]int{1}, 5, 1, 1, api.ErrRange}, {[]int{7}, 5, 1, 1, api.ErrRange}, {nil, 5, 1, 0, api.OK},
		{nil, 0, 0, 0, api.OK}, {[]int{}, 0, 0, 0, api.OK}, {nil, 0, 0, 1, api.ErrLimit}, {nil, 0, 0, -1, api.ErrLimit}, {nil, 0, 0, math.MinInt, api.ErrLimit}, {nil, 0, 0, math.MaxInt, api.ErrLimit},
		// The limit comes before the range.
		{[]int{9}, 0, 2, -1, api.ErrLimit}, {[]int{9}, 0, 2, 0, api.ErrLimit}, {[]int{9}, 0, 2, 2, api.ErrLimit}, {[]int{9}, 0, 2, 1, api.ErrRange}, {[]int{9}, 0, 2, 97, api.ErrLimit},
		{row(96), 1, 96, 96, api.OK}, {row(96), 1, 95, 96, api.ErrRange}, {row(96), 2, 96, 96, api.ErrRange}, {row(96), 1, 96, 95, api.ErrLimit}, {row(96), 1, 96, 97, api.ErrLimit},
		{row(97), 1, 97, 97, api.ErrLimit}, {row(97), 1, 5, 97, api.ErrLimit}, {row(97), 1, 97, 96, api.ErrLimit}, {row(97), 1, 97, 0, api.ErrLimit}, {row(1000), 1, 1000, 1000, api.ErrLimit},
	} {
		checkCheck(t, c.l, c.lo, c.hi, c.n, c.want)
	}
}

// P7.1: elements are compared as they are, with bounds as they are.
func TestCheckDoesNotLimit(t *testing.T) {
	for _, n := range ends() {
		checkCheck(t, []int{0, n}, min(n, 0), max(n, 0), 2, api.OK)
		checkCheck(t, []int{n}, n, n, 1, api.OK)
		checkCheck(t, []int{n}, math.MinInt, math.MaxInt, 1, api.OK)
		if n > math.MinInt {
			checkCheck(t, []int{n}, math.MinInt, n-1, 1, api.ErrRange)
		}
		if n < math.MaxInt {
			checkCheck(t, []int{n}, n+1, math.MaxInt, 1, api.ErrRange)
		}
	}
	checkCheck(t, []int{limit + 1}, -limit, limit, 1, api.ErrRange)
	checkCheck(t, []int{-limit - 1}, -limit, limit, 1, api.ErrRange)
}

// P7.1: the one element out of range stands anywhere.
func TestCheckLooksAtEachElement(t *testing.T) {
	for at := range most {
		l := row(most)
		checkCheck(t, l, 1, 96, most, api.OK)
		l[at] = 97
		checkCheck(t, l, 1, 96, most, api.ErrRange)
		l[at] = 0
		checkCheck(t, l, 1, 96, most, api.ErrRange)
	}
}

// P7.2
func TestAtExamples(t *testing.T) {
	for _, c := range []struct {
		l       []int
		i, want int
	}{
		{[]int{4, 5}, 1, 5}, {[]int{4, 5}, 2, 0}, {[]int{4, 5}, -1, 0}, {[]int{4, 5}, 0, 4}, {nil, 0, 0}, {[]int{}, 0, 0}, {nil, -1, 0},
		{[]int{4, 5}, math.MinInt, 0}, {[]int{4, 5}, math.MaxInt, 0}, {[]int{1 << 50}, 0, limit}, {[]int{-1 << 50}, 0, -limit},
		{[]int{limit, limit + 1}, 1, limit}, {[]int{-limit, -limit + 1}, 1, -limit + 1}, {[]int{math.MinInt}, 0, -limit}, {[]int{math.MaxInt}, 0, limit},
		{row(96), 95, 96}, {row(96), 96, 0}, {row(97), 0, 0}, {row(97), 96, 0}, {row(97), 50, 0}, {row(1000), 3, 0},
	} {
		checkNumber(t, series.At(c.l, c.i), c.want, "At(%v, %d)", c.l, c.i)
	}
}

// P7.2
func TestSumExamples(t *testing.T) {
	four := []int{1, 2, 3, 4}
	for _, c := range []struct {
		l              []int
		from, to, want int
	}{
		{four, 1, 3, 5}, {four, -5, 99, 10}, {four, 0, 4, 10}, {four, 0, 3, 6}, {four, 1, 4, 9}, {four, 3, 4, 4}, {four, 0, 1, 1},
		{four, 2, 2, 0}, {four, 3, 1, 0}, {four, 4, 9, 0}, {four, -9, 0, 0}, {four, -9, 1, 1}, {four, 3, 99, 4}, {four, 4, 0, 0}, {four, 99, -5, 0},
		{four, math.MinInt, math.MaxInt, 10}, {four, math.MaxInt, math.MinInt, 0}, {four, math.MaxInt, math.MaxInt, 0}, {four, math.MinInt, math.MinInt, 0},
		{four, math.MinInt, 2, 3}, {four, 2, math.MaxInt, 7}, {nil, 0, 9, 0}, {[]int{}, -9, 9, 0},
		{row(96), 0, 96, 4656}, {row(96), 0, 97, 4656}, {row(96), 0, 95, 4560}, {row(97), 0, 97, 0}, {row(97), 5, 6, 0},
		{[]int{5, -7}, 0, 2, -2},
	} {
		checkNumber(t, series.Sum(c.l, c.from, c.to), c.want, "Sum(%v, %d, %d)", c.l, c.from, c.to)
	}
}

// P7.2: elements are limited when they are read, and the sum only at its end.
func TestSumLimits(t *testing.T) {
	for _, c := range []struct {
		l    []int
		want int
	}{
		{[]int{limit, limit, -5}, limit}, {[]int{limit, limit, -limit}, limit}, {[]int{limit, 5, -limit}, 5}, {[]int{limit, 5, -5}, limit}, {[]int{-limit, -5, limit}, -5},
		{[]int{limit, limit, -limit, -limit, 3}, 3}, {[]int{-limit, -limit, limit, limit, 3}, 3}, {[]int{-limit, -limit, 5}, -limit}, {[]int{-limit, -1}, -limit},
		{[]int{1 << 50, -3}, limit - 3}, {[]int{-1 << 50, 3}, -limit + 3}, {[]int{math.MaxInt, math.MaxInt, math.MinInt}, limit}, {[]int{math.MaxInt, math.MinInt}, 0}, {[]int{math.MinInt, math.MinInt}, -limit},
		{slices.Repeat([]int{math.MaxInt}, 96), limit}, {slices.Repeat([]int{math.MinInt}, 96), -limit}, {slices.Repeat([]int{math.MaxInt, -limit}, 48), 0},
	} {
		checkNumber(t, series.Sum(c.l, 0, len(c.l)), c.want, "Sum(%v, 0, %d)", c.l, len(c.l))
	}
}

// P7.2: all parts of lists of some lengths.
func TestSumOfAllParts(t *testing.T) {
	for _, n := range []int{0, 1, 2, 5, 95, 96, 97, 98} {
		l := row(n)
		for from := -2; from < n+3; from++ {
			for to := -2; to < n+3; to++ {
				checkNumber(t, series.Sum(l, from, to), sumBetween(l, from, to), "Sum(%v, %d, %d)", l, from, to)
			}
		}
	}
}

// P7.2
func TestAddExamples(t *testing.T) {
	for _, c := range []struct{ a, b, want []int }{
		{[]int{1, 2}, []int{10}, []int{11, 2}}, {[]int{10}, []int{1, 2}, []int{11, 2}}, {[]int{1, 2}, []int{3, 4}, []int{4, 6}},
		{nil, nil, nil}, {[]int{}, nil, nil}, {nil, []int{}, nil}, {nil, []int{1, 2}, []int{1, 2}}, {[]int{1, 2}, nil, []int{1, 2}}, {[]int{0, 0}, nil, []int{0, 0}},
		{[]int{5, 5}, []int{-5, -6}, []int{0, -1}}, {[]int{1}, []int{0, 0, 0}, []int{1, 0, 0}},
		{[]int{limit, -limit}, []int{1, -1}, []int{limit, -limit}}, {[]int{limit, -limit}, []int{-1, 1}, []int{limit - 1, -limit + 1}},
		// Elements are limited before they are added.
		{[]int{1 << 50}, []int{-5}, []int{limit - 5}}, {[]int{math.MaxInt}, []int{math.MinInt}, []int{0}}, {[]int{math.MinInt}, []int{math.MinInt}, []int{-limit}}, {[]int{math.MinInt}, []int{7}, []int{-limit + 7}},
		{[]int{limit + 1, 3}, nil, []int{limit, 3}}, {nil, []int{-limit - 1, 3}, []int{-limit, 3}},
		// A list that is too long counts as the empty series.
		{row(97), []int{1, 2}, []int{1, 2}}, {[]int{1, 2}, row(97), []int{1, 2}}, {row(97), row(97), nil}, {row(200), nil, nil}, {nil, row(97), nil},
		{row(96), nil, row(96)}, {nil, row(96), row(96)},
	} {
		checkNumbers(t, series.Add(c.a, c.b), c.want, "Add(%v, %v)", c.a, c.b)
	}
}

// P7.2: lists of all pairs of lengths around the limit and far from it.
func TestAddOfAnyLengths(t *testing.T) {
	lengths := []int{0, 1, 2, 3, 50, 95, 96, 97, 98}
	for _, m := range lengths {
		for _, n := range lengths {
			a, b := row(m), row(n)
			slices.Reverse(b)
			checkNumbers(t, series.Add(a, b), added(a, b), "Add(%v, %v)", a, b)
		}
	}
}

// P7.2
func TestScaleExamples(t *testing.T) {
	for _, c := range []struct {
		l    []int
		a, b int
		want []int
	}{
		{[]int{3, -3}, 1, 2, []int{1, -2}}, {[]int{3, -3}, -1, 2, []int{-2, 1}}, {[]int{3, -3}, 1, -2, []int{-2, 1}}, {[]int{3, -3}, -1, -2, []int{1, -2}},
		{[]int{3, -3}, 1, 0, []int{0, 0}}, {[]int{3, -3}, 0, 5, []int{0, 0}}, {[]int{3, -3}, 2, 1, []int{6, -6}}, {[]int{7}, 10, 4, []int{17}}, {[]int{-7}, 10, 4, []int{-18}},
		{nil, 1, 2, nil}, {[]int{}, 1, 0, nil}, {row(96), 1, 1, row(96)}, {row(97), 1, 1, nil}, {row(97), 1, 0, nil},
		{[]int{limit}, limit, limit, []int{limit}}, {[]int{limit}, 2, 1, []int{limit}}, {[]int{-limit}, 2, 1, []int{-limit}}, {[]int{limit}, limit, -1, []int{-limit}},
		// Elements and factors are limited first.
		{[]int{1 << 50, -1 << 50}, 1, 2, []int{limit / 2, -limit / 2}}, {[]int{1}, math.MaxInt, 2, []int{limit / 2}}, {[]int{limit}, 1, math.MaxInt, []int{1}}, {[]int{5}, math.MinInt, math.MinInt, []int{5}},
	} {
		checkNumbers(t, series.Scale(c.l, c.a, c.b), c.want, "Scale(%v, %d, %d)", c.l, c.a, c.b)
	}
}

// P7.2
func TestScaleOfAllFactors(t *testing.T) {
	factors := append(ends(), -3, -2, -1, 0, 1, 2, 3, 7, 1000000)
	for _, a := range factors {
		for _, b := range factors {
			checkScale(t, factors, a, b)
		}
	}
}

// P7.3
func TestHoldExamples(t *testing.T) {
	for _, c := range []struct {
		points [][2]int
		n      int
		want   []int
	}{
		{[][2]int{{1, 7}, {3, 9}}, 5, []int{0, 7, 7, 9, 9}}, {[][2]int{{1, 7}, {3, 9}}, 4, []int{0, 7, 7, 9}}, {[][2]int{{1, 7}, {3, 9}}, 3, []int{0, 7, 7}}, {[][2]int{{1, 7}, {3, 9}}, 1, []int{0}},
		{[][2]int{{0, 7}}, 3, []int{7, 7, 7}}, {[][2]int{{2, 7}}, 3, []int{0, 0, 7}}, {[][2]int{{3, 7}}, 3, []int{0, 0, 0}}, {[][2]int{{0, 7}, {1, 8}, {2, 9}}, 3, []int{7, 8, 9}},
		// Slots of points may be negative, or n and more.
		{[][2]int{{-4, 7}}, 2, []int{7, 7}}, {[][2]int{{-4, 7}, {-3, 8}}, 2, []int{8, 8}}, {[][2]int{{-4, 7}, {1, 8}}, 3, []int{7, 8, 8}}, {[][2]int{{-1, 7}, {0, 8}}, 2, []int{8, 8}},
		{[][2]int{{-4, 7}, {2, 9}}, 2, []int{7, 7}}, {[][2]int{{1, 7}, {2, 8}, {99, 9}}, 2, []int{0, 7}}, {[][2]int{{math.MinInt, 3}, {math.MaxInt, 4}}, 2, []int{3, 3}}, {[][2]int{{math.MaxInt, 4}}, 2, []int{0, 0}},
		{[][2]int{{math.MinInt, 3}, {math.MinInt + 1, 5}, {1, 6}}, 3, []int{5, 6, 6}},
		{nil, 2, []int{0, 0}}, {[][2]int{}, 2, []int{0, 0}}, {nil, 0, nil}, {[][2]int{{0, 7}}, 0, nil}, {[][2]int{{-1, 7}}, 0, nil}, {nil, 96, make([]int, 96)}, {[][2]int{{95, 7}}, 96, append(make([]int, 95), 7)},
		// The values are limited.
		{[][2]int{{0, 1 << 50}, {1, -1 << 50}, {2, limit}, {3, -limit}, {4, limit - 1}}, 5, []int{limit, -limit, limit, -limit, limit - 1}}, {[][2]int{{0, math.MinInt}, {1, math.MaxInt}}, 2, []int{-limit, limit}},
		{[][2]int{{0, 5}, {1, 0}, {2, -5}}, 4, []int{5, 0, -5, -5}},
	} {
		checkHold(t, c.points, c.n, c.want, api.OK)
	}
}

// P7.3
func TestHoldErrors(t *testing.T) {
	for _, c := range []struct {
		points [][2]int
		n      int
		want   api.Errno
	}{
		{nil, -1, api.ErrLimit}, {nil, 97, api.ErrLimit}, {nil, math.MinInt, api.ErrLimit}, {nil, math.MaxInt, api.ErrLimit}, {[][2]int{{0, 7}}, 97, api.ErrLimit}, {[][2]int{{0, 7}}, -1, api.ErrLimit},
		{[][2]int{{1, 7}, {1, 9}}, 5, api.ErrOrder}, {[][2]int{{1, 7}, {1, 7}}, 5, api.ErrOrder}, {[][2]int{{1, 7}, {0, 9}}, 5, api.ErrOrder}, {[][2]int{{0, 1}, {2, 2}, {1, 3}}, 5, api.ErrOrder},
		{[][2]int{{2, 1}, {0, 2}, {1, 3}}, 5, api.ErrOrder}, {[][2]int{{-1, 7}, {-1, 9}}, 5, api.ErrOrder}, {[][2]int{{-1, 7}, {-2, 9}}, 5, api.ErrOrder},
		// Points before and behind the values have an order too.
		{[][2]int{{0, 1}, {9, 2}, {8, 3}}, 5, api.ErrOrder}, {[][2]int{{0, 1}, {9, 2}, {9, 3}}, 5, api.ErrOrder}, {[][2]int{{0, 1}, {0, 2}}, 0, api.ErrOrder}, {[][2]int{{7, 1}, {6, 2}}, 0, api.ErrOrder},
		{[][2]int{{math.MaxInt, 1}, {math.MinInt, 2}}, 5, api.ErrOrder}, {[][2]int{{math.MinInt, 1}, {math.MinInt, 2}}, 5, api.ErrOrder}, {[][2]int{{math.MaxInt, 1}, {math.MaxInt, 2}}, 5, api.ErrOrder},
		// The limit comes before the order.
		{[][2]int{{1, 7}, {1, 9}}, 97, api.ErrLimit}, {[][2]int{{1, 7}, {1, 9}}, -1, api.ErrLimit}, {make([][2]int, 257), 5, api.ErrLimit}, {make([][2]int, 256), 5, api.ErrOrder},
		{steps(0, 257), 5, api.ErrLimit}, {steps(-200, 257), 96, api.ErrLimit}, {steps(0, 1000), 5, api.ErrLimit},
	} {
		checkHold(t, c.points, c.n, nil, c.want)
	}
}

// P7.3: as many points as there may be, and each number of values.
func TestHoldOfManyPoints(t *testing.T) {
	for n := range most + 1 {
		for _, first := range []int{-256, -255, -160, -1, 0, 1, 95, 96} {
			points := steps(first, 256)
			checkHold(t, points, n, held(points, n), api.OK)
		}
	}
}

// P7.3: two equal slots, at any place of a list.
func TestHoldComparesAllNeighbors(t *testing.T) {
	for at := range 255 {
		points := steps(-100, 256)
		points[at][0] = points[at+1][0]
		checkHold(t, points, 5, nil, api.ErrOrder)
	}
}

// P7.4
func TestResampleExamples(t *testing.T) {
	five := row(5)
	for _, c := range []struct {
		l    []int
		k    int
		want []int
	}{
		{five, 2, []int{3, 7, 5}}, {five, 1, five}, {five, 3, []int{6, 9}}, {five, 4, []int{10, 5}}, {five, 5, []int{15}}, {five, 6, []int{15}}, {five, math.MaxInt, []int{15}}, {five, math.MaxInt - 3, []int{15}},
		{five, 0, nil}, {five, -1, nil}, {five, math.MinInt, nil}, {nil, 2, nil}, {[]int{}, 1, nil}, {nil, 0, nil}, {[]int{4}, 1, []int{4}}, {[]int{4}, 9, []int{4}},
		{row(96), 48, []int{1176, 3480}}, {row(96), 95, []int{4560, 96}}, {row(96), 96, []int{4656}}, {row(97), 1, nil}, {row(97), 97, nil}, {row(97), 0, nil},
		{[]int{limit, limit, -limit, 1 << 50, 3}, 2, []int{limit, 0, 3}}, {[]int{limit, limit, -limit, -1 << 50, 3}, 5, []int{3}}, {[]int{math.MinInt, -1, math.MaxInt}, 1, []int{-limit, -1, limit}},
	} {
		checkNumbers(t, series.Resample(c.l, c.k), c.want, "Resample(%v, %d)", c.l, c.k)
	}
}

// P7.4
func TestResampleOfAnyGroups(t *testing.T) {
	for _, n := range []int{0, 1, 2, 5, 6, 7, 95, 96, 97} {
		for k := -1; k < n+3; k++ {
			checkNumbers(t, series.Resample(row(n), k), resampled(row(n), k), "Resample(1 .. %d, %d)", n, k)
		}
	}
}

// P7.4
func TestPeakExamples(t *testing.T) {
	for _, c := range []struct {
		l    []int
		want int
	}{
		{[]int{1, 5, 5}, 1}, {[]int{5, 1, 5}, 0}, {[]int{1, 5, 6}, 2}, {[]int{6, 5, 1}, 0}, {[]int{1, 6, 5, 6}, 1}, {[]int{0}, 0}, {[]int{0, 0}, 0},
		{[]int{-5}, 0}, {[]int{-5, -3, -4}, 1}, {[]int{-3, -3}, 0}, {[]int{-1, 0, 0}, 1}, {nil, -1}, {[]int{}, -1},
		// Limited elements are equal.
		{[]int{1 << 41, 1 << 42}, 0}, {[]int{limit - 1, limit, limit + 1}, 1}, {[]int{-limit - 5, -limit}, 0}, {[]int{math.MinInt, math.MinInt + 1}, 0}, {[]int{math.MinInt, -limit + 1, math.MinInt}, 1}, {[]int{3, math.MaxInt}, 1},
		{row(96), 95}, {row(97), -1}, {make([]int, 97), -1}, {make([]int, 96), 0},
	} {
		checkNumber(t, series.Peak(c.l), c.want, "Peak(%v)", c.l)
	}
}

// P7.4
func TestCumulateExamples(t *testing.T) {
	for _, c := range []struct{ l, want []int }{
		{[]int{1, 2, 3}, []int{1, 3, 6}}, {[]int{5, -7, 0, 2}, []int{5, -2, -2, 0}}, {[]int{4}, []int{4}}, {[]int{0, 0}, []int{0, 0}}, {nil, nil}, {[]int{}, nil}, {row(97), nil},
		// Each sum is exact until it is limited, so it can leave the limit again.
		{[]int{limit, limit, -limit, -limit}, []int{limit, limit, limit, 0}}, {[]int{-limit, -5, 5, 5}, []int{-limit, -limit, -limit, -limit + 5}}, {[]int{limit, 5, -6}, []int{limit, limit, limit - 1}},
		{[]int{1 << 50, -3, 3, -3}, []int{limit, limit - 3, limit, limit - 3}}, {[]int{math.MaxInt, math.MinInt, math.MinInt}, []int{limit, 0, -limit}},
	} {
		checkNumbers(t, series.Cumulate(c.l), c.want, "Cumulate(%v)", c.l)
	}
	checkNumbers(t, series.Cumulate(row(96)), cumulated(row(96)), "Cumulate(1 .. 96)")
	long := slices.Repeat([]int{math.MinInt}, most)
	checkNumbers(t, series.Cumulate(long), slices.Repeat([]int{-limit}, most), "Cumulate of 96 least ints")
}

// P7.5
func TestLawsOfSums(t *testing.T) {
	source := newSource()
	for range 2000 {
		a, b := smallSeries(source), smallSeries(source)
		whole := series.Sum(a, 0, len(a))
		from := source.IntN(most + 1)
		to := from + source.IntN(most+1-from)
		middle := from + source.IntN(to-from+1)
		checkNumber(t, series.Sum(a, from, middle)+series.Sum(a, middle, to), series.Sum(a, from, to), "Sums of %v from %d to %d and to %d", a, from, middle, to)
		if last := len(a) - 1; last >= 0 {
			checkNumber(t, series.Cumulate(a)[last], whole, "Last element of Cumulate(%v)", a)
		}
		sums := series.Resample(a, 1+source.IntN(most))
		checkNumber(t, series.Sum(sums, 0, len(sums)), whole, "Sum of a Resample of %v", a)
		both := series.Add(a, b)
		checkNumber(t, series.Sum(both, 0, len(both)), whole+series.Sum(b, 0, len(b)), "Sum of Add(%v, %v)", a, b)
	}
}

// P7.2, P7.4, R1, R6
func TestRandomLists(t *testing.T) {
	source := newSource()
	for range 3000 {
		a, b := randomList(source), randomList(source)
		checkOne(t, a)
		checkSums(t, a)
		checkNumbers(t, series.Add(a, b), added(a, b), "Add(%v, %v)", a, b)
		checkScale(t, a, randomNumber(source), randomNumber(source))
	}
}

// P7.1, R1
func TestRandomChecks(t *testing.T) {
	source := newSource()
	for range 20000 {
		l, lo, hi, n := randomList(source), randomNumber(source), randomNumber(source), randomNumber(source)
		if source.IntN(2) == 0 {
			n = len(l)
		}
		want := api.OK
		if len(l) != n || len(l) > most {
			want = api.ErrLimit
		} else if slices.ContainsFunc(l, func(element int) bool { return element < lo || hi < element }) {
			want = api.ErrRange
		}
		checkCheck(t, l, lo, hi, n, want)
	}
}

// P7.3, R1, R3
func TestRandomSteps(t *testing.T) {
	source := newSource()
	for range 20000 {
		points, n := randomPoints(source), source.IntN(110)-5
		switch {
		case n < 0 || n > most:
			checkHold(t, points, n, nil, api.ErrLimit)
		case !isAscending(points):
			checkHold(t, points, n, nil, api.ErrOrder)
		default:
			checkHold(t, points, n, held(points, n), api.OK)
		}
	}
}

// R4: nil and empty lists mean the same.
func TestNilIsEmpty(t *testing.T) {
	for _, l := range [][]int{nil, {}, make([]int, 0, 9), row(5)[2:2]} {
		checkCheck(t, l, 0, 0, 0, api.OK)
		checkOne(t, l)
		checkSums(t, l)
		checkScale(t, l, 2, 3)
		checkNumbers(t, series.Add(l, row(3)), row(3), "Add(%v, 1 2 3)", l)
		checkNumbers(t, series.Add(row(3), l), row(3), "Add(1 2 3, %v)", l)
	}
	for _, points := range [][][2]int{nil, {}, steps(0, 5)[2:2]} {
		checkHold(t, points, 3, []int{0, 0, 0}, api.OK)
	}
}

// lists returns the lists that the functions return for two series.
func lists(a, b []int) [][]int {
	points := [][2]int{{0, 4}, {1, 5}, {3, 6}}
	held, _ := series.Hold(points, 4)
	return [][]int{
		series.Add(a, b), series.Add(b, a), series.Add(a, nil), series.Add(nil, a), series.Scale(a, 1, 1), series.Scale(a, 0, 0),
		held, series.Resample(a, 1), series.Resample(a, 2), series.Resample(a, 99), series.Cumulate(a),
	}
}

// R5: arguments are not changed, nor is the memory behind them.
func TestArgumentsAreKept(t *testing.T) {
	memory := []int{3, math.MaxInt, -2, 5, 0, 7, math.MinInt, 9}
	points := steps(-2, 8)
	givenMemory, givenPoints := slices.Clone(memory), slices.Clone(points)
	a, b := memory[1:4], memory[5:7]
	series.Check(a, 0, 5, 3)
	series.At(a, 1)
	series.Sum(a, 0, 2)
	series.Peak(a)
	series.Hold(points[1:5], 9)
	lists(a, b)
	checkNumbers(t, memory, givenMemory, "The memory behind the lists")
	if !slices.Equal(points, givenPoints) {
		t.Errorf("Hold changed its points: %v", points)
	}
}

// R5: what is written into or behind a result shows nowhere else.
func TestResultsAreNewMemory(t *testing.T) {
	a, b := []int{4, 5, 6}, []int{7, 8}
	want, got := lists(a, b), lists(a, b)
	for i := range got {
		all := got[i][:cap(got[i])]
		for at := range all {
			all[at] = 99
		}
		_ = append(got[i], 98)
		for other := i + 1; other < len(got); other++ {
			checkNumbers(t, got[other], want[other], "Result %d after a change of result %d", other, i)
		}
	}
	checkNumbers(t, append(a, b...), []int{4, 5, 6, 7, 8}, "The arguments after changes of the results")
	again := lists(a, b)
	for i := range again {
		checkNumbers(t, again[i], want[i], "Result %d of later calls", i)
	}
}

// R7: a call does not depend on those before it.
func TestCallsAreIndependent(t *testing.T) {
	source := newSource()
	first, second := randomList(source), randomList(source)
	want := lists(first, second)
	for range 50 {
		lists(randomList(source), randomList(source))
		for i, got := range lists(first, second) {
			checkNumbers(t, got, want[i], "Result %d of a later call", i)
		}
	}
}
