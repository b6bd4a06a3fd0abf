package wire_test

import (
	"encoding/binary"
	"math"
	"slices"
	"strings"
	"testing"

	"homehub/api"
	"homehub/wire"
)

const (
	nine     = "\xff\xff\xff\xff\xff\xff\xff\xff\xff"
	leastInt = nine + "\x01"
	mostInt  = "\xfe\xff\xff\xff\xff\xff\xff\xff\xff\x01"
)

// edges are numbers around 0, around powers of two (where encodings become
// longer) and at both ends of int.
func edges() []int {
	l := []int{0, math.MinInt, math.MinInt + 1, math.MaxInt}
	for bits := range 63 {
		l = append(l, 1<<bits-1, 1<<bits, 1<<bits+1, -1<<bits-1, -1<<bits, 1-1<<bits)
	}
	slices.Sort(l)
	return slices.Compact(l)
}

// texts are strings of all kinds of bytes, and of lengths around those where the
// encoded length becomes longer.
func texts() []string {
	l := []string{"", "a", "ab", "b", "\x00", "\x00\x00", "\x02", "\x02\x02", "\xff", "\x80\x00", "z\u00e9\u4e16", "\xe4\xb8"}
	for _, n := range []int{62, 63, 64, 65, 8191, 8192, 20000} {
		l = append(l, strings.Repeat("x", n), strings.Repeat("\x80", n))
	}
	return l
}

func lists() [][]int {
	return [][]int{
		nil, {0}, {1}, {-1}, {1, -1}, {-1, 1}, {0, 0}, {0, 0, 0}, {64}, {63, 64, 65}, {1, 2, 3, 4, 5},
		{math.MinInt}, {math.MaxInt, math.MinInt, 0}, edges(), make([]int, 63), make([]int, 64), make([]int, 8192),
	}
}

// shortTexts are all strings of up to so many of some bytes at the limits.
func shortTexts(most int) []string {
	const alphabet = "\x00\x01\x02\x03\x04\x7e\x7f\x80\x81\xff"
	l := []string{""}
	for from := 0; len(l[from]) < most; from++ {
		for i := range len(alphabet) {
			l = append(l, l[from]+alphabet[i:i+1])
		}
	}
	return l
}

// varint returns the encoding of a number by the library: it is the same.
func varint(n int) string {
	return string(binary.AppendVarint(nil, int64(n)))
}

func checkBytes(t *testing.T, what, got, want string) {
	t.Helper()
	if got != want {
		t.Errorf("%s: got % x, want % x", what, got, want)
	}
}

// checkState checks what a Reader says of itself.
func checkState(t *testing.T, what string, r *wire.Reader, err, end api.Errno, left int) {
	t.Helper()
	if r.Err() != err || r.End() != end || r.Left() != left {
		t.Errorf("%s: error %d, at the end %d, left %d; want %d, %d, %d", what, r.Err(), r.End(), r.Left(), err, end, left)
	}
}

// checkReadsNothing checks that all reading methods return zero values.
func checkReadsNothing(t *testing.T, what string, r *wire.Reader) {
	t.Helper()
	for _, most := range []int{math.MaxInt, 1, 0, -1, math.MinInt} {
		if n := r.Int(); n != 0 {
			t.Errorf("%s: Int: %d", what, n)
		}
		if s := r.Text(most); s != "" {
			t.Errorf("%s: Text: %q", what, s)
		}
		if r.Bool() {
			t.Errorf("%s: Bool: true", what)
		}
		if n := r.Count(most); n != 0 {
			t.Errorf("%s: Count: %d", what, n)
		}
		if l := r.Ints(most); len(l) > 0 {
			t.Errorf("%s: Ints: %v", what, l)
		}
	}
}

// checkStays checks that a Reader has an error, and that nothing changes it.
func checkStays(t *testing.T, what string, r *wire.Reader, e api.Errno) {
	t.Helper()
	checkState(t, what, r, e, e, 0)
	checkReadsNothing(t, what, r)
	checkState(t, what+", after reading on", r, e, e, 0)
	for _, other := range []api.Errno{api.OK, api.ErrArg, api.ErrState, api.ErrTail, -1, math.MaxInt} {
		r.Fail(other)
		checkState(t, what+", after Fail", r, e, e, 0)
		checkReadsNothing(t, what+", after Fail", r)
	}
}

// P2.1
func TestInt(t *testing.T) {
	for _, c := range []struct {
		n    int
		want string
	}{
		{0, "\x00"}, {-1, "\x01"}, {1, "\x02"}, {-2, "\x03"}, {2, "\x04"}, {63, "\x7e"}, {-64, "\x7f"},
		{64, "\x80\x01"}, {-65, "\x81\x01"}, {127, "\xfe\x01"}, {128, "\x80\x02"}, {8191, "\xfe\x7f"}, {-8192, "\xff\x7f"},
		{8192, "\x80\x80\x01"}, {-8193, "\x81\x80\x01"},
		{1<<62 - 1, "\xfe\xff\xff\xff\xff\xff\xff\xff\x7f"}, {-1 << 62, "\xff\xff\xff\xff\xff\xff\xff\xff\x7f"},
		{1 << 62, "\x80\x80\x80\x80\x80\x80\x80\x80\x80\x01"}, {-1<<62 - 1, "\x81\x80\x80\x80\x80\x80\x80\x80\x80\x01"},
		{math.MaxInt, mostInt}, {math.MinInt, leastInt}, {math.MinInt + 1, "\xfd" + leastInt[1:]},
	} {
		checkBytes(t, "Int", wire.Int(c.n), c.want)
	}
	for _, n := range edges() {
		checkBytes(t, "Int", wire.Int(n), varint(n))
	}
}

// P2.1
func TestTextBoolInts(t *testing.T) {
	checkBytes(t, "Text", wire.Text("ab"), "\x04\x61\x62")
	checkBytes(t, "Text", wire.Text(""), "\x00")
	checkBytes(t, "Text", wire.Text("\x00\xff"), "\x04\x00\xff")
	for _, s := range texts() {
		checkBytes(t, "Text", wire.Text(s), varint(len(s))+s)
	}
	checkBytes(t, "Bool", wire.Bool(false), "\x00")
	checkBytes(t, "Bool", wire.Bool(true), "\x01")
	checkBytes(t, "Ints", wire.Ints([]int{1, -1}), "\x04\x02\x01")
	checkBytes(t, "Ints", wire.Ints(nil), "\x00")
	checkBytes(t, "Ints", wire.Ints([]int{}), "\x00")
	for _, l := range lists() {
		want := varint(len(l))
		for _, n := range l {
			want += varint(n)
		}
		checkBytes(t, "Ints", wire.Ints(l), want)
	}
}

// P2.2
func TestNew(t *testing.T) {
	checkState(t, "nothing", wire.New(""), api.OK, api.OK, 0)
	checkState(t, "one byte", wire.New("\x80"), api.OK, api.ErrTail, 1)
	r := wire.New("\x02\x04\x06")
	checkState(t, "three bytes", r, api.OK, api.ErrTail, 3)
	if n := r.Int(); n != 1 {
		t.Errorf("the first number: %d", n)
	}
	checkState(t, "a second Reader of the string", wire.New("\x02\x04\x06"), api.OK, api.ErrTail, 3)
}

// P2.3: each method moves the position behind its field, and reads no further.
func TestReadersMoveBehindTheField(t *testing.T) {
	r := wire.New("\x80\x01" + "\x04ab" + "\x01" + "\x04" + "\x04\x02\x01" + "\x00")
	checkState(t, "the beginning", r, api.OK, api.ErrTail, 11)
	if n := r.Int(); n != 64 {
		t.Errorf("Int: %d", n)
	}
	checkState(t, "behind Int", r, api.OK, api.ErrTail, 9)
	if s := r.Text(2); s != "ab" {
		t.Errorf("Text: %q", s)
	}
	checkState(t, "behind Text", r, api.OK, api.ErrTail, 6)
	if !r.Bool() {
		t.Error("Bool: false")
	}
	checkState(t, "behind Bool", r, api.OK, api.ErrTail, 5)
	if n := r.Count(2); n != 2 {
		t.Errorf("Count: %d", n)
	}
	checkState(t, "behind Count", r, api.OK, api.ErrTail, 4)
	if l := r.Ints(2); !slices.Equal(l, []int{1, -1}) {
		t.Errorf("Ints: %v", l)
	}
	checkState(t, "behind Ints", r, api.OK, api.ErrTail, 1)
	if r.Bool() {
		t.Error("Bool: true")
	}
	checkState(t, "the end", r, api.OK, api.OK, 0)
}

// numberErrors are texts that do not begin with a number, and their errors.
func numberErrors() map[string]api.Errno {
	return map[string]api.Errno{
		"": api.ErrShort, "\x80": api.ErrShort, "\xff\xff": api.ErrShort, nine[:8]: api.ErrShort, nine: api.ErrShort,
		strings.Repeat("\x80", 9): api.ErrShort,
		// A byte 0 that is not the first one, whatever follows.
		"\x80\x00": api.ErrForm, "\xff\x00": api.ErrForm, "\x80\x80\x00": api.ErrForm, "\x80\x00\x01": api.ErrForm,
		"\x80\x00\x80": api.ErrForm, nine[:8] + "\x00": api.ErrForm, nine + "\x00": api.ErrForm,
		// A tenth byte above 1, even if another byte would have to follow.
		nine + "\x02": api.ErrForm, nine + "\x03": api.ErrForm, nine + "\x7f": api.ErrForm, nine + "\x80": api.ErrForm,
		nine + "\x81": api.ErrForm, nine + "\xff": api.ErrForm, nine + "\x81\x00": api.ErrForm, nine + "\x80\x01": api.ErrForm,
		strings.Repeat("\x80", 9) + "\x02": api.ErrForm, strings.Repeat("\x80", 100): api.ErrForm,
	}
}

// P2.3, P2.9
func TestNumbersWithErrors(t *testing.T) {
	for s, e := range numberErrors() {
		r := wire.New(s)
		if n := r.Int(); n != 0 {
			t.Errorf("Int of % x: %d", s, n)
		}
		checkStays(t, "Int", r, e)
		r = wire.New(s)
		if text := r.Text(math.MaxInt); text != "" {
			t.Errorf("Text of % x: %q", s, text)
		}
		checkStays(t, "Text", r, e)
		r = wire.New(s)
		if n := r.Count(0); n != 0 {
			t.Errorf("Count of % x: %d", s, n)
		}
		checkStays(t, "Count", r, e)
		for _, before := range []string{"\x02", "\x04\x02"} {
			r = wire.New(before + s)
			if l := r.Ints(math.MaxInt); len(l) > 0 {
				t.Errorf("Ints of % x: %v", before+s, l)
			}
			checkStays(t, "Ints", r, e)
		}
	}
}

// lengthErrors are texts that begin with a length, and their errors as a length
// of at most so many; api.OK if there is none.
func lengthErrors() []struct {
	s     string
	most  int
	count int
	e     api.Errno
} {
	return []struct {
		s     string
		most  int
		count int
		e     api.Errno
	}{
		{"\x00", 0, 0, api.OK}, {"\x00", -1, 0, api.OK}, {"\x00", math.MinInt, 0, api.OK}, {"\x00", 9, 0, api.OK},
		{"\x02", 1, 1, api.OK}, {"\x04", 2, 2, api.OK}, {"\x04", 3, 2, api.OK}, {"\x80\x01", 64, 64, api.OK},
		{mostInt, math.MaxInt, math.MaxInt, api.OK},
		{"\x02", 0, 0, api.ErrLimit}, {"\x04", 1, 0, api.ErrLimit}, {"\x80\x01", 63, 0, api.ErrLimit},
		{mostInt, math.MaxInt - 1, 0, api.ErrLimit},
		// A negative most counts as 0.
		{"\x02", -1, 0, api.ErrLimit}, {"\x04", -3, 0, api.ErrLimit}, {"\x02", math.MinInt, 0, api.ErrLimit},
		// A negative length is none, even below a negative most.
		{"\x01", 5, 0, api.ErrForm}, {"\x01", 0, 0, api.ErrForm}, {"\x01", -1, 0, api.ErrForm}, {"\x03", -1, 0, api.ErrForm},
		{leastInt, math.MinInt, 0, api.ErrForm}, {leastInt, math.MaxInt, 0, api.ErrForm},
	}
}

// P2.3, P2.9: the errors of a length, for all methods that read one. Bytes that
// follow change nothing, nor do bytes that are missing.
func TestLengths(t *testing.T) {
	for _, c := range lengthErrors() {
		for _, after := range []string{"", "\x00", "\x80", "abcde"} {
			r := wire.New(c.s + after)
			if n := r.Count(c.most); n != c.count || r.Err() != c.e {
				t.Errorf("Count(%d) of % x: %d, error %d", c.most, c.s+after, n, r.Err())
			}
			if c.e == api.OK {
				if r.Left() != len(after) {
					t.Errorf("Count(%d) of % x: left %d", c.most, c.s+after, r.Left())
				}
				continue
			}
			checkStays(t, "Count", r, c.e)
			r = wire.New(c.s + after)
			if s := r.Text(c.most); s != "" {
				t.Errorf("Text(%d) of % x: %q", c.most, c.s+after, s)
			}
			checkStays(t, "Text", r, c.e)
			r = wire.New(c.s + after)
			if l := r.Ints(c.most); len(l) > 0 {
				t.Errorf("Ints(%d) of % x: %v", c.most, c.s+after, l)
			}
			checkStays(t, "Ints", r, c.e)
		}
	}
}

// P2.3
func TestTextsThatEndTooEarly(t *testing.T) {
	for _, s := range []string{"\x02", "\x04", "\x04a", "\x06ab", "\x80\x01" + strings.Repeat("a", 63), mostInt, mostInt + "abc"} {
		r := wire.New(s)
		if text := r.Text(math.MaxInt); text != "" {
			t.Errorf("Text of % x: %q", s, text)
		}
		checkStays(t, "Text", r, api.ErrShort)
	}
	// ErrLimit comes first.
	r := wire.New("\x04a")
	r.Text(1)
	checkStays(t, "Text above the limit", r, api.ErrLimit)
}

// P2.3, R1: a list that cannot be there ends at once, however long it claims to be.
func TestListsThatEndTooEarly(t *testing.T) {
	for _, s := range []string{"\x02", "\x04\x02", "\x06\x02\x01", "\x04\x02\x80", "\x80\x01" + strings.Repeat("\x02", 63), mostInt, mostInt + "\x02"} {
		r := wire.New(s)
		if l := r.Ints(math.MaxInt); len(l) > 0 {
			t.Errorf("Ints of % x: %v", s, l)
		}
		checkStays(t, "Ints", r, api.ErrShort)
	}
	// The error of a list is that of its first number that has one.
	r := wire.New("\x08\x02\x80\x00")
	r.Ints(4)
	checkStays(t, "Ints with a number of the wrong form", r, api.ErrForm)
}

// P2.3
func TestBooleans(t *testing.T) {
	for b := range 256 {
		s := string([]byte{byte(b), 7})
		r := wire.New(s)
		if got := r.Bool(); got != (b == 1) {
			t.Errorf("Bool of %d: %v", b, got)
		}
		if b > 1 {
			checkStays(t, "Bool", r, api.ErrForm)
			continue
		}
		checkState(t, "Bool", r, api.OK, api.ErrTail, 1)
	}
	r := wire.New("")
	if r.Bool() {
		t.Error("Bool of nothing: true")
	}
	checkStays(t, "Bool of nothing", r, api.ErrShort)
}

// P2.4: End reports bytes that are left, but they are no error of the Reader.
func TestEndChangesNothing(t *testing.T) {
	r := wire.New("\x02\x04")
	for range 3 {
		checkState(t, "two bytes", r, api.OK, api.ErrTail, 2)
	}
	if n := r.Int(); n != 1 {
		t.Errorf("Int after End: %d", n)
	}
	checkState(t, "one byte", r, api.OK, api.ErrTail, 1)
	if n := r.Int(); n != 2 {
		t.Errorf("Int after End: %d", n)
	}
	checkState(t, "no byte", r, api.OK, api.OK, 0)
	r.Int()
	checkStays(t, "behind the end", r, api.ErrShort)
}

// P2.4, P2.9
func TestFail(t *testing.T) {
	for _, e := range []api.Errno{api.ErrArg, api.ErrState, api.ErrTail, api.ErrAccess, 99, -1, math.MinInt, math.MaxInt} {
		r := wire.New("\x02\x02\x02")
		r.Fail(api.OK)
		checkState(t, "after Fail(OK)", r, api.OK, api.ErrTail, 3)
		if n := r.Int(); n != 1 {
			t.Errorf("Int after Fail(OK): %d", n)
		}
		r.Fail(e)
		checkStays(t, "Fail", r, e)
		r = wire.New("")
		r.Fail(e)
		checkStays(t, "Fail of an empty string", r, e)
	}
}

// P2.5, P2.9
func TestReadersThatNewDidNotReturn(t *testing.T) {
	var none *wire.Reader
	checkStays(t, "nil", none, api.ErrState)
	checkStays(t, "new(Reader)", new(wire.Reader), api.ErrState)
	checkStays(t, "&Reader{}", &wire.Reader{}, api.ErrState)
	var r wire.Reader
	r.Fail(api.ErrSum)
	checkStays(t, "Fail before anything else", &r, api.ErrState)
	none.Fail(api.ErrSum)
	checkStays(t, "Fail of nil", none, api.ErrState)
}

// P2.6: for single fields. Each most is the length, the least that is enough.
func TestReadingUndoesEncoding(t *testing.T) {
	for _, n := range edges() {
		r := wire.New(wire.Int(n))
		if got := r.Int(); got != n || r.End() != api.OK {
			t.Errorf("Int of Int(%d): %d, %d", n, got, r.End())
		}
	}
	for _, s := range texts() {
		r := wire.New(wire.Text(s))
		if got := r.Text(len(s)); got != s || r.End() != api.OK {
			t.Errorf("Text of Text(%.20q..): %.20q.., %d", s, got, r.End())
		}
	}
	for _, b := range []bool{false, true} {
		r := wire.New(wire.Bool(b))
		if got := r.Bool(); got != b || r.End() != api.OK {
			t.Errorf("Bool of Bool(%v): %v, %d", b, got, r.End())
		}
	}
	for _, l := range lists() {
		r := wire.New(wire.Ints(l))
		if got := r.Ints(len(l)); !slices.Equal(got, l) || r.End() != api.OK {
			t.Errorf("Ints of Ints(%v): %v, %d", l, got, r.End())
		}
		r = wire.New(wire.Ints(l))
		if got := r.Count(len(l)); got != len(l) || r.Err() != api.OK {
			t.Errorf("Count of Ints(%v): %d, %d", l, got, r.Err())
		}
	}
}

// P2.6: for fields one after the other.
func TestReadingUndoesEncodingOfManyFields(t *testing.T) {
	var b strings.Builder
	for i, n := range edges() {
		b.WriteString(wire.Int(n))
		b.WriteString(wire.Text(texts()[i%len(texts())]))
		b.WriteString(wire.Bool(i%3 == 0))
		b.WriteString(wire.Ints(lists()[i%len(lists())]))
	}
	r := wire.New(b.String())
	for i, n := range edges() {
		s, l := texts()[i%len(texts())], lists()[i%len(lists())]
		if got := r.Int(); got != n {
			t.Errorf("%d: Int: got %d, want %d", i, got, n)
		}
		if got := r.Text(math.MaxInt); got != s {
			t.Errorf("%d: Text: got %.20q.., want %.20q..", i, got, s)
		}
		if got := r.Bool(); got != (i%3 == 0) {
			t.Errorf("%d: Bool: got %v", i, got)
		}
		if got := r.Ints(len(l) + 1); !slices.Equal(got, l) {
			t.Errorf("%d: Ints: got %v, want %v", i, got, l)
		}
	}
	checkState(t, "the end", r, api.OK, api.OK, 0)
}

// readAgain reads one kind of field up to the end, or up to an error, and
// returns the encodings of what it read.
func readAgain(r *wire.Reader, kind string) string {
	again := ""
	for r.End() == api.ErrTail {
		switch kind {
		case "Int":
			again += wire.Int(r.Int())
		case "Text":
			again += wire.Text(r.Text(math.MaxInt))
		case "Bool":
			again += wire.Bool(r.Bool())
		case "Ints":
			again += wire.Ints(r.Ints(math.MaxInt))
		}
	}
	return again
}

// P2.7
func TestOnlyEncodingsAreRead(t *testing.T) {
	samples := shortTexts(4)
	for s := range numberErrors() {
		samples = append(samples, s)
	}
	for _, s := range shortTexts(2) {
		samples = append(samples, nine+s, nine[:8]+s, "\x04"+nine+s)
	}
	for _, kind := range []string{"Int", "Text", "Bool", "Ints"} {
		accepted := 0
		for _, s := range samples {
			r := wire.New(s)
			again := readAgain(r, kind)
			if r.End() != api.OK {
				continue
			}
			accepted++
			checkBytes(t, kind, again, s)
		}
		if accepted < 10 {
			t.Errorf("%s: only %d texts were read", kind, accepted)
		}
	}
}

// checkPrefixes checks that no element begins with another one.
func checkPrefixes(t *testing.T, what string, encodings []string) {
	t.Helper()
	// Behind a string stand, in ascending order, first those that begin with it.
	slices.Sort(encodings)
	for i := 1; i < len(encodings); i++ {
		if strings.HasPrefix(encodings[i], encodings[i-1]) {
			t.Errorf("%s: % x begins with % x", what, encodings[i], encodings[i-1])
		}
	}
}

// P2.8
func TestNoEncodingBeginsWithAnother(t *testing.T) {
	var numbers, strs, sequences []string
	for n := -70000; n <= 70000; n++ {
		numbers = append(numbers, wire.Int(n))
	}
	for _, n := range edges() {
		if n < -70000 || n > 70000 {
			numbers = append(numbers, wire.Int(n))
		}
	}
	for _, s := range append(shortTexts(3), strings.Repeat("x", 63), strings.Repeat("x", 64), strings.Repeat("x", 8192)) {
		strs = append(strs, wire.Text(s))
	}
	for _, l := range lists() {
		sequences = append(sequences, wire.Ints(l))
	}
	checkPrefixes(t, "Int", numbers)
	checkPrefixes(t, "Text", strs)
	checkPrefixes(t, "Ints", sequences)
}

// R5
func TestNoMemoryIsShared(t *testing.T) {
	l := []int{1, -1, 64}
	s := wire.Ints(l)
	if !slices.Equal(l, []int{1, -1, 64}) {
		t.Errorf("Ints changed its argument: %v", l)
	}
	l[0] = 9
	r := wire.New(s + s)
	first, second := r.Ints(3), r.Ints(3)
	for i := range first {
		first[i] = 0
	}
	first = append(first, 5, 5, 5)
	if !slices.Equal(second, []int{1, -1, 64}) || len(first) != 6 {
		t.Errorf("the second list: %v", second)
	}
	checkBytes(t, "the encoding", s, "\x06\x02\x01\x80\x01")
}

// R7: each Reader has a state of its own.
func TestReadersAreIndependent(t *testing.T) {
	s := wire.Int(5) + wire.Text("ab")
	failed, one, two := wire.New(s), wire.New(s), wire.New(s)
	failed.Fail(api.ErrSum)
	if n := one.Int(); n != 5 {
		t.Errorf("Int: %d", n)
	}
	checkState(t, "the other Reader", two, api.OK, api.ErrTail, 4)
	if text := one.Text(2); text != "ab" {
		t.Errorf("Text: %q", text)
	}
	if n := two.Int(); n != 5 {
		t.Errorf("Int: %d", n)
	}
	checkState(t, "the first Reader", one, api.OK, api.OK, 0)
	checkState(t, "the Reader with an error", failed, api.ErrSum, api.ErrSum, 0)
}
