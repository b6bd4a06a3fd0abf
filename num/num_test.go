package num_test

import (
	"math"
	"math/big"
	"strconv"
	"strings"
	"testing"

	"homehub/api"
	"homehub/num"
)

const most = api.MaxInt

// edges are numbers around 0, around powers of two, at both limits of values
// and at both ends of int.
func edges() []int {
	l := []int{0, 3, 7, 10, 999_999_999_989, math.MinInt, math.MinInt + 1, math.MaxInt}
	for _, bits := range []int{0, 1, 5, 19, 20, 21, 31, 32, 39, 40, 41, 50, 61, 62} {
		l = append(l, 1<<bits-1, 1<<bits, 1<<bits+1)
	}
	for _, n := range l {
		l = append(l, -n)
	}
	return l
}

func integer(n int) *big.Int {
	return big.NewInt(int64(n))
}

// limited limits a mathematical integer to the range of values.
func limited(n *big.Int) int {
	if n.Cmp(integer(most)) > 0 {
		return most
	}
	if n.Cmp(integer(-most)) < 0 {
		return -most
	}
	return int(n.Int64())
}

// floor returns a / b, rounded towards negative infinity.
func floor(a, b *big.Int) *big.Int {
	quotient, rest := new(big.Int).QuoRem(a, b, new(big.Int))
	if rest.Sign()*b.Sign() < 0 {
		quotient.Sub(quotient, integer(1))
	}
	return quotient
}

func check(t *testing.T, call string, got, want int, args ...int) {
	t.Helper()
	if got != want {
		t.Errorf("%s%v: got %d, want %d", call, args, got, want)
	}
}

// P1.1
func TestSat(t *testing.T) {
	for _, c := range [][2]int{
		{1 << 50, most}, {most + 1, most}, {most, most}, {most - 1, most - 1}, {math.MaxInt, most},
		{-1 << 50, -most}, {-most - 1, -most}, {-most, -most}, {1 - most, 1 - most}, {math.MinInt, -most},
		{0, 0}, {-7, -7}, {7, 7},
	} {
		check(t, "Sat", num.Sat(c[0]), c[1], c[0])
	}
}

// P1.1
func TestAddSubMulExamples(t *testing.T) {
	for _, c := range []struct {
		call           string
		f              func(a, b int) int
		a, b, expected int
	}{
		{"Add", num.Add, 1 << 50, 5 - 1<<50, 5},
		{"Add", num.Add, 2, 3, 5},
		{"Add", num.Add, most, 1, most},
		{"Add", num.Add, math.MaxInt, 1, most},
		{"Add", num.Add, math.MaxInt, math.MaxInt, most},
		{"Add", num.Add, math.MinInt, -1, -most},
		{"Add", num.Add, math.MinInt, math.MinInt, -most},
		{"Add", num.Add, math.MinInt, math.MaxInt, -1},
		{"Sub", num.Sub, 2, 3, -1},
		{"Sub", num.Sub, 1<<50 + 5, 1 << 50, 5},
		{"Sub", num.Sub, math.MinInt, math.MinInt, 0},
		{"Sub", num.Sub, -1, math.MinInt, most},
		{"Sub", num.Sub, 0, math.MinInt, most},
		{"Sub", num.Sub, math.MinInt, 1, -most},
		{"Sub", num.Sub, -2, math.MaxInt, -most},
		{"Mul", num.Mul, -1 << 30, 1 << 30, -most},
		{"Mul", num.Mul, -3, 5, -15},
		{"Mul", num.Mul, 1 << 20, 1 << 20, most},
		{"Mul", num.Mul, 1<<20 - 1, 1<<20 + 1, most - 1},
		{"Mul", num.Mul, math.MinInt, 0, 0},
		{"Mul", num.Mul, 0, math.MaxInt, 0},
		{"Mul", num.Mul, math.MinInt, -1, most},
		{"Mul", num.Mul, math.MinInt, math.MinInt, most},
		{"Mul", num.Mul, math.MaxInt, math.MinInt, -most},
		{"Mul", num.Mul, 1 << 32, 1 << 32, most}, // 0 modulo 2^64
	} {
		check(t, c.call, c.f(c.a, c.b), c.expected, c.a, c.b)
	}
}

// P1.1
func TestAddSubMulAreExact(t *testing.T) {
	for _, a := range edges() {
		for _, b := range edges() {
			x, y := integer(a), integer(b)
			check(t, "Add", num.Add(a, b), limited(new(big.Int).Add(x, y)), a, b)
			check(t, "Sub", num.Sub(a, b), limited(new(big.Int).Sub(x, y)), a, b)
			check(t, "Mul", num.Mul(a, b), limited(new(big.Int).Mul(x, y)), a, b)
		}
	}
}

// P1.1
func TestClamp(t *testing.T) {
	for _, c := range [][4]int{
		{5, 1, 3, 3}, {2, 1, 3, 2}, {0, 1, 3, 1}, {1, 1, 3, 1}, {3, 1, 3, 3}, {4, 4, 4, 4}, {-9, -5, -3, -5},
		// An empty range: hi, wherever the number is.
		{5, 9, 3, 3}, {3, 9, 3, 3}, {1, 9, 3, 3}, {9, 9, 3, 3}, {10, 9, 3, 3}, {0, math.MaxInt, math.MinInt, math.MinInt},
		// No limit to MaxInt.
		{1 << 50, 0, math.MaxInt, 1 << 50}, {-1 << 50, math.MinInt, 0, -1 << 50},
		{0, 1 << 50, 1 << 51, 1 << 50}, {math.MinInt, math.MinInt, math.MaxInt, math.MinInt},
		{math.MaxInt, math.MinInt, math.MaxInt, math.MaxInt}, {7, 8, -1 << 50, -1 << 50},
	} {
		check(t, "Clamp", num.Clamp(c[0], c[1], c[2]), c[3], c[:3]...)
	}
}

// P1.2
func TestFloorAndCeilExamples(t *testing.T) {
	for _, c := range []struct{ a, b, floor, ceil int }{
		{-7, 2, -4, -3}, {7, 2, 3, 4}, {7, -2, -4, -3}, {-7, -2, 3, 4},
		{-8, 2, -4, -4}, {8, -2, -4, -4}, {-8, -2, 4, 4}, {0, -5, 0, 0},
		{1, most, 0, 1}, {-1, most, -1, 0},
		{7, 0, 0, 0}, {0, 0, 0, 0}, {math.MinInt, 0, 0, 0}, {math.MaxInt, 0, 0, 0},
		// Both are limited first.
		{math.MinInt, -1, most, most}, {math.MaxInt, math.MaxInt, 1, 1}, {math.MinInt, math.MaxInt, -1, -1},
		{1 << 50, 1 << 20, 1 << 20, 1 << 20}, {3, 1 << 50, 0, 1}, {most, 1 << 50, 1, 1}, {most + 1, 3, most / 3, most/3 + 1},
	} {
		check(t, "Floor", num.Floor(c.a, c.b), c.floor, c.a, c.b)
		check(t, "Ceil", num.Ceil(c.a, c.b), c.ceil, c.a, c.b)
	}
}

// P1.2
func TestFloorAndCeilAreExact(t *testing.T) {
	for _, a := range edges() {
		for _, b := range edges() {
			if b == 0 {
				continue
			}
			x, y := integer(limited(integer(a))), integer(limited(integer(b)))
			check(t, "Floor", num.Floor(a, b), limited(floor(x, y)), a, b)
			check(t, "Ceil", num.Ceil(a, b), -limited(floor(x.Neg(x), y)), a, b)
		}
	}
}

// P1.2
func TestScaleExamples(t *testing.T) {
	for _, c := range [][4]int{
		{7, 10, 4, 17}, {-7, 10, 4, -18}, {7, -10, 4, -18}, {7, 10, -4, -18},
		{-7, -10, 4, 17}, {-7, 10, -4, 17}, {7, -10, -4, 17}, {-7, -10, -4, -18},
		{-8, 10, 4, -20}, {0, -10, 4, 0}, {-1, 1, most, -1},
		// A product of 80 bits.
		{most, most, most, most}, {most, most - 1, most, most - 1}, {-most, most - 1, most, 1 - most},
		{most - 1, most - 1, most, most - 2}, {1 - most, most - 1, most, 1 - most},
		// The result is limited.
		{most, 2, 1, most}, {most, -2, 1, -most}, {most, most, 1, most}, {-most, most, 1, -most}, {most, 3, 2, most},
		// The numbers are limited first.
		{math.MaxInt, 1, 2, most / 2}, {1, math.MinInt, 2, -most / 2}, {most, 1, 1 << 50, 1}, {math.MinInt, 1, math.MinInt, 1},
		{1, 1, 0, 0}, {0, 0, 0, 0}, {math.MinInt, math.MinInt, 0, 0}, {math.MaxInt, -1, 0, 0},
	} {
		check(t, "Scale", num.Scale(c[0], c[1], c[2]), c[3], c[:3]...)
	}
}

// P1.2
func TestScaleIsExact(t *testing.T) {
	for _, n := range edges() {
		for _, a := range edges() {
			product := new(big.Int).Mul(integer(limited(integer(n))), integer(limited(integer(a))))
			for _, b := range edges() {
				if b == 0 {
					continue
				}
				want := limited(floor(product, integer(limited(integer(b)))))
				check(t, "Scale", num.Scale(n, a, b), want, n, a, b)
			}
		}
	}
}

// P1.3
func TestDigits(t *testing.T) {
	for _, c := range []struct {
		n    int
		want string
	}{
		{0, "0"}, {5, "5"}, {-5, "-5"}, {-12, "-12"}, {10, "10"}, {9, "9"}, {100200, "100200"},
		{most, "1099511627776"}, {-most, "-1099511627776"},
		// No limit.
		{most + 1, "1099511627777"}, {math.MaxInt, "9223372036854775807"}, {math.MinInt, "-9223372036854775808"},
	} {
		if got := num.Digits(c.n); got != c.want {
			t.Errorf("Digits(%d): got %q, want %q", c.n, got, c.want)
		}
	}
	for _, n := range edges() {
		if got := num.Digits(n); got != strconv.Itoa(n) {
			t.Errorf("Digits(%d): got %q", n, got)
		}
	}
}

// P1.3
func TestParse(t *testing.T) {
	for _, c := range []struct {
		s    string
		want int
	}{
		{"0", 0}, {"7", 7}, {"-12", -12}, {"10", 10}, {"1099511627776", most}, {"-1099511627776", -most},
		{"1099511627775", most - 1}, {"-1099511627775", 1 - most}, {"999999999999", 999999999999},
	} {
		if n, ok := num.Parse(c.s); n != c.want || !ok {
			t.Errorf("Parse(%q): got %d, %v, want %d", c.s, n, ok, c.want)
		}
	}
}

// P1.3
func TestParseRejects(t *testing.T) {
	for _, s := range []string{
		"", "-", "--", "--1", "-0", "00", "007", "-007", "+1", "+", "+0", "-+1", "1-", "1-2",
		" ", " 1", "1 ", "- 1", "\t1", "1\n", "1 2", "1_000", "1,000", "1.0", "1e3", "0x1", "a", "1a", "one",
		"/", ":", "1:", "1/", "\x00", "1\x00", "\xff", "-\xff", "\xb0", "1\xb1", "\u0661", "\uff11",
		"1099511627777", "-1099511627777", "9999999999999", "-9999999999999", "2199023255552",
		"10995116277760", "01099511627776", "-01099511627776", "99999999999999", "-99999999999999",
		"9223372036854775807", "-9223372036854775808", "9223372036854775808",
		"18446744073709551616", "18446744073709551623", "99999999999999999999", "-18446744073709551617",
		strings.Repeat("0", 1000) + "7", strings.Repeat("9", 1000), "-" + strings.Repeat("9", 1000),
	} {
		if n, ok := num.Parse(s); n != 0 || ok {
			t.Errorf("Parse(%q): got %d, %v", s, n, ok)
		}
	}
}

// P1.3: a text is accepted only if it is the text of the number that is returned.
func TestParseOfAllShortTexts(t *testing.T) {
	const alphabet = "-+ 0129:\xff"
	texts := []string{""}
	for from := 0; len(texts[from]) < 4; from++ {
		for i := range len(alphabet) {
			texts = append(texts, texts[from]+alphabet[i:i+1])
		}
	}
	for _, s := range texts {
		want, err := strconv.Atoi(s)
		canonical := err == nil && strconv.Itoa(want) == s
		if !canonical {
			want = 0
		}
		if n, ok := num.Parse(s); n != want || ok != canonical {
			t.Errorf("Parse(%q): got %d, %v, want %d, %v", s, n, ok, want, canonical)
		}
	}
}

// P1.4
func TestParseUndoesDigits(t *testing.T) {
	numbers := edges()
	for n := -2000; n <= 2000; n++ {
		numbers = append(numbers, n, n-most, n+most)
	}
	for n, step := -most, 1_234_567_891; n <= most; n += step {
		numbers = append(numbers, n)
	}
	for _, n := range numbers {
		want, inside := n, -most <= n && n <= most
		if !inside {
			want = 0
		}
		if got, ok := num.Parse(num.Digits(n)); got != want || ok != inside {
			t.Errorf("Parse(Digits(%d)): got %d, %v", n, got, ok)
		}
	}
}

// R7: the result of a call does not depend on the calls before it.
func TestCallsAreIndependent(t *testing.T) {
	for range 2 {
		num.Parse("-1099511627776")
		num.Digits(math.MinInt)
		if s := num.Digits(7); s != "7" {
			t.Errorf("Digits(7): %q", s)
		}
		if n, ok := num.Parse("7"); n != 7 || !ok {
			t.Errorf("Parse(7): %d, %v", n, ok)
		}
		check(t, "Scale", num.Scale(7, 10, 4), 17, 7, 10, 4)
	}
}
