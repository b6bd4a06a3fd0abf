package replay_test

import (
	"bytes"
	"encoding/binary"
	"hash/fnv"
	"math"
	"math/rand/v2"
	"strings"
	"testing"

	"homehub/api"
	"homehub/replay"
)

const (
	lastNumber = 1 << 40
	lastNode   = 250
	mostText   = 1000
	width      = 64 // the numbers that a window records
)

// The model of a window: the numbers that it records, of which Top is the greatest.

type record map[int]bool

// recordOf returns the numbers that a window records, and whether it is valid.
func recordOf(w api.Window) (record, bool) {
	r := record{}
	bits := w.Bits
	for k := range width {
		if bits%2 == 1 {
			r[w.Top-k] = true
		}
		bits /= 2
	}
	if len(r) == 0 {
		return r, w.Top == -1
	}
	for n := range r {
		if n < 0 || n > 1099511627776 {
			return nil, false
		}
	}
	return r, r[w.Top]
}

func (r record) top() int {
	top := -1
	for n := range r {
		top = max(top, n)
	}
	return top
}

func (r record) window() api.Window {
	w := api.Window{Top: r.top()}
	value := uint64(1)
	for k := range width {
		if r[w.Top-k] {
			w.Bits += value
		}
		value *= 2
	}
	return w
}

// accepted returns what Accept returns.
func accepted(w api.Window, n int) (api.Window, bool) {
	r, ok := recordOf(w)
	if !ok || n < 0 || n > 1099511627776 || r[n] || n < r.top()-63 {
		return w, false
	}
	r[n] = true
	return r.window(), true
}

// The model of sealed messages: the numbers of the standard library, and its hash.

func number(n int) string {
	return string(binary.AppendVarint(nil, int64(n)))
}

func text(s string) string {
	return number(len(s)) + s
}

// sealed returns a string and the bytes that seal it.
func sealed(key uint64, s string) string {
	ends := binary.BigEndian.AppendUint64(nil, key)
	hash := fnv.New64a()
	hash.Write(ends)
	hash.Write([]byte(s))
	hash.Write(ends)
	return s + string(hash.Sum(nil)[:4])
}

func inRange(node, n int) bool {
	return node >= 0 && node <= 250 && n >= 0 && n <= 1099511627776
}

// seal returns what Seal returns.
func seal(key uint64, node, n int, s string) (string, api.Errno) {
	if !inRange(node, n) {
		return "", api.ErrRange
	}
	if len(s) > mostText {
		return "", api.ErrLimit
	}
	return sealed(key, number(node)+number(n)+text(s)), api.OK
}

// readNumber returns the number that a string begins with, what follows it, and the
// error.
func readNumber(s string) (int, string, api.Errno) {
	for i := range len(s) {
		switch {
		case i > 0 && s[i] == 0, i == 9 && s[i] > 1:
			return 0, "", api.ErrForm
		case s[i] < 128:
			n, _ := binary.Varint([]byte(s))
			return int(n), s[i+1:], api.OK
		}
	}
	return 0, "", api.ErrShort
}

// readText returns the text that a whole string is, and the error.
func readText(s string) (string, api.Errno) {
	length, rest, err := readNumber(s)
	switch {
	case err != api.OK:
		return "", err
	case length < 0:
		return "", api.ErrForm
	case length > mostText:
		return "", api.ErrLimit
	case length > len(rest):
		return "", api.ErrShort
	case length < len(rest):
		return "", api.ErrTail
	}
	return rest, api.OK
}

// open returns what Open returns.
func open(key uint64, node int, w api.Window, b string) (string, api.Window, api.Errno) {
	if len(b) < 4 {
		return "", w, api.ErrShort
	}
	payload := b[:len(b)-4]
	if sealed(key, payload) != b {
		return "", w, api.ErrSum
	}
	to, rest, err := readNumber(payload)
	if err != api.OK {
		return "", w, err
	}
	n, rest, err := readNumber(rest)
	if err != api.OK {
		return "", w, err
	}
	s, err := readText(rest)
	if err != api.OK {
		return "", w, err
	}
	if to != node || !inRange(to, n) {
		return "", w, api.ErrRange
	}
	after, ok := accepted(w, n)
	if !ok {
		return "", w, api.ErrReplay
	}
	return s, after, api.OK
}

// The first difference ends a test, as some of them compare very many windows.

func checkCheck(t *testing.T, w api.Window, want api.Errno) {
	t.Helper()
	if got := replay.Check(w); got != want {
		t.Fatalf("Check(%v): got %d, want %d", w, got, want)
	}
}

func checkAccept(t *testing.T, w api.Window, n int, want api.Window, wantOk bool) {
	t.Helper()
	if got, ok := replay.Accept(w, n); got != want || ok != wantOk {
		t.Fatalf("Accept(%v, %d): got %v, %t, want %v, %t", w, n, got, ok, want, wantOk)
	}
}

func checkSeal(t *testing.T, key uint64, node, n int, s, want string, wantErr api.Errno) {
	t.Helper()
	if got, err := replay.Seal(key, node, n, s); got != want || err != wantErr {
		t.Fatalf("Seal(%d, %d, %d, %q): got %q, %d, want %q, %d", key, node, n, s, got, err, want, wantErr)
	}
}

func checkOpen(t *testing.T, key uint64, node int, w api.Window, b, want string, after api.Window, wantErr api.Errno) {
	t.Helper()
	if got, x, err := replay.Open(key, node, w, b); got != want || x != after || err != wantErr {
		t.Fatalf("Open(%d, %d, %v, %q): got %q, %v, %d, want %q, %v, %d", key, node, w, b, got, x, err, want, after, wantErr)
	}
}

// checkWindow compares Check and Accept with their models.
func checkWindow(t *testing.T, w api.Window, numbers ...int) {
	t.Helper()
	want := api.OK
	if _, ok := recordOf(w); !ok {
		want = api.ErrRange
	}
	checkCheck(t, w, want)
	for _, n := range numbers {
		after, ok := accepted(w, n)
		checkAccept(t, w, n, after, ok)
	}
}

// checkMessage compares Seal with its model, and Open of what it returns, for the
// window and for the one that results.
func checkMessage(t *testing.T, key uint64, node, n int, s string, w api.Window) {
	t.Helper()
	b, err := seal(key, node, n, s)
	checkSeal(t, key, node, n, s, b, err)
	if err == api.OK {
		checkBytes(t, key, node, w, b)
		after, _ := accepted(w, n)
		checkBytes(t, key, node, after, b)
	}
}

// checkBytes compares Open with its model.
func checkBytes(t *testing.T, key uint64, node int, w api.Window, b string) {
	t.Helper()
	s, after, err := open(key, node, w, b)
	checkOpen(t, key, node, w, b, s, after, err)
}

// checkError checks that Open returns an error for a sealed payload, with any window.
func checkError(t *testing.T, node int, payload string, want api.Errno) {
	t.Helper()
	for _, w := range someWindows() {
		checkOpen(t, 7, node, w, sealed(7, payload), "", w, want)
		checkBytes(t, 7, node, w, sealed(7, payload))
	}
}

// someWindows returns windows with no number, a few and many ones, and ones that are
// not valid.
func someWindows() []api.Window {
	return []api.Window{
		{Top: -1},
		{Top: 0, Bits: 1},
		{Top: 5, Bits: 1},
		{Top: 5, Bits: 63},
		{Top: 63, Bits: math.MaxUint64},
		{Top: 100, Bits: 1<<63 | 5},
		{Top: lastNumber, Bits: 1},
		{Top: lastNumber, Bits: math.MaxUint64},
		{},
		{Top: -1, Bits: 1},
		{Top: 5, Bits: 64},
		{Top: lastNumber + 1, Bits: 1},
		{Top: math.MinInt, Bits: 1},
		{Top: math.MaxInt, Bits: math.MaxUint64},
	}
}

// farNumbers are numbers at the ends of the nodes, of the numbers and of int.
func farNumbers() []int {
	return []int{
		math.MinInt, math.MinInt + 1, math.MinInt + 63, -lastNumber - 1, -lastNumber, -1 << 32, -65, -64, -63, -2, -1,
		0, 1, 2, 62, 63, 64, 65, 127, 128, 249, 250, 251, 254, 255, 256, 1000, 1 << 32, 1<<32 + 5,
		lastNumber - 65, lastNumber - 64, lastNumber - 63, lastNumber - 62, lastNumber - 1, lastNumber,
		lastNumber + 1, lastNumber + 63, lastNumber + 64, 2 * lastNumber, math.MaxInt - 63, math.MaxInt - 1, math.MaxInt,
	}
}

func newSource() *rand.Rand {
	return rand.New(rand.NewPCG(14, 1))
}

// randomWindow returns a window that is valid more often than not.
func randomWindow(source *rand.Rand) api.Window {
	w := api.Window{Top: source.IntN(150), Bits: source.Uint64() | 1}
	switch source.IntN(8) {
	case 0:
		w.Top = farNumbers()[source.IntN(len(farNumbers()))]
	case 1:
		w.Bits &= source.Uint64()
	case 2:
		w.Top += lastNumber - 100
	}
	if w.Top >= 0 && w.Top < width && source.IntN(4) > 0 {
		w.Bits &= 1<<w.Top<<1 - 1
	}
	return w
}

// randomText returns some string of this length.
func randomText(source *rand.Rand, length int) string {
	b := make([]byte, length)
	for i := range b {
		b[i] = byte(source.Uint32())
	}
	return string(b)
}

// everyByte is the string of all bytes, in order.
func everyByte() string {
	b := make([]byte, 256)
	for i := range b {
		b[i] = byte(i)
	}
	return string(b)
}

// The chapter's example: P14.1, P14.2.
func TestExample(t *testing.T) {
	w := replay.New()
	for _, row := range []struct {
		n    int
		want api.Window
		ok   bool
	}{
		{5, api.Window{Top: 5, Bits: 1}, true},
		{3, api.Window{Top: 5, Bits: 5}, true},
		{5, api.Window{Top: 5, Bits: 5}, false},
		{70, api.Window{Top: 70, Bits: 1}, true},
		{6, api.Window{Top: 70, Bits: 1}, false},
		{7, api.Window{Top: 70, Bits: 1<<63 | 1}, true},
	} {
		checkAccept(t, w, row.n, row.want, row.ok)
		w, _ = replay.Accept(w, row.n)
	}
}

// P14.1
func TestNew(t *testing.T) {
	if got, want := replay.New(), (api.Window{Top: -1}); got != want {
		t.Errorf("got %v, want %v", got, want)
	}
	checkCheck(t, replay.New(), api.OK)
}

// P14.1
func TestCheck(t *testing.T) {
	for _, row := range []struct {
		w    api.Window
		want api.Errno
	}{
		{api.Window{Top: -1}, api.OK},
		{api.Window{Top: 0, Bits: 1}, api.OK},
		{api.Window{Top: 1, Bits: 1}, api.OK},
		{api.Window{Top: 1, Bits: 3}, api.OK},
		{api.Window{Top: 5, Bits: 63}, api.OK},
		{api.Window{Top: 5, Bits: 33}, api.OK},
		{api.Window{Top: 62, Bits: math.MaxUint64 >> 1}, api.OK},
		{api.Window{Top: 63, Bits: math.MaxUint64}, api.OK},
		{api.Window{Top: 64, Bits: math.MaxUint64}, api.OK},
		{api.Window{Top: 127, Bits: math.MaxUint64}, api.OK},
		{api.Window{Top: lastNumber - 1, Bits: math.MaxUint64}, api.OK},
		{api.Window{Top: lastNumber, Bits: math.MaxUint64}, api.OK},
		{api.Window{Top: lastNumber, Bits: 1}, api.OK},
		// A Top that is none.
		{api.Window{Top: -2}, api.ErrRange},
		{api.Window{Top: -2, Bits: 1}, api.ErrRange},
		{api.Window{Top: -64}, api.ErrRange},
		{api.Window{Top: -64, Bits: 1}, api.ErrRange},
		{api.Window{Top: math.MinInt}, api.ErrRange},
		{api.Window{Top: math.MinInt, Bits: 1}, api.ErrRange},
		{api.Window{Top: lastNumber + 1}, api.ErrRange},
		{api.Window{Top: lastNumber + 1, Bits: 1}, api.ErrRange},
		{api.Window{Top: math.MaxInt, Bits: 1}, api.ErrRange},
		// The bit of Top is not set.
		{api.Window{}, api.ErrRange},
		{api.Window{Top: 1, Bits: 2}, api.ErrRange},
		{api.Window{Top: 5}, api.ErrRange},
		{api.Window{Top: 63, Bits: 1 << 63}, api.ErrRange},
		{api.Window{Top: 64, Bits: math.MaxUint64 - 1}, api.ErrRange},
		{api.Window{Top: lastNumber}, api.ErrRange},
		// Bits of numbers below 0.
		{api.Window{Top: -1, Bits: 1}, api.ErrRange},
		{api.Window{Top: -1, Bits: 2}, api.ErrRange},
		{api.Window{Top: -1, Bits: 1 << 63}, api.ErrRange},
		{api.Window{Top: 0, Bits: 3}, api.ErrRange},
		{api.Window{Top: 0, Bits: 1<<63 | 1}, api.ErrRange},
		{api.Window{Top: 5, Bits: 1<<6 | 1}, api.ErrRange},
		{api.Window{Top: 62, Bits: math.MaxUint64}, api.ErrRange},
	} {
		checkCheck(t, row.w, row.want)
		checkWindow(t, row.w, farNumbers()...)
		if row.want != api.OK {
			for n := -3; n < 80; n++ {
				checkAccept(t, row.w, n, row.w, false)
			}
		}
	}
}

// P14.1: every bit of every window, alone, with that of Top, and with all below it.
func TestCheckOfEveryBit(t *testing.T) {
	tops := farNumbers()
	for top := -70; top < 140; top++ {
		tops = append(tops, top)
	}
	for _, top := range tops {
		checkWindow(t, api.Window{Top: top})
		for k := range width {
			bit := uint64(1) << k
			for _, bits := range []uint64{bit, bit | 1, bit | (bit - 1), ^bit, ^(bit - 1)} {
				checkWindow(t, api.Window{Top: top, Bits: bits}, top-k-1, top-k, top-k+1)
			}
		}
	}
}

// P14.2
func TestAccept(t *testing.T) {
	for _, row := range []struct {
		w    api.Window
		n    int
		want api.Window
		ok   bool
	}{
		// The first number.
		{api.Window{Top: -1}, 0, api.Window{Top: 0, Bits: 1}, true},
		{api.Window{Top: -1}, 1, api.Window{Top: 1, Bits: 1}, true},
		{api.Window{Top: -1}, 63, api.Window{Top: 63, Bits: 1}, true},
		{api.Window{Top: -1}, lastNumber, api.Window{Top: lastNumber, Bits: 1}, true},
		{api.Window{Top: -1}, -1, api.Window{Top: -1}, false},
		{api.Window{Top: -1}, -2, api.Window{Top: -1}, false},
		{api.Window{Top: -1}, math.MinInt, api.Window{Top: -1}, false},
		{api.Window{Top: -1}, lastNumber + 1, api.Window{Top: -1}, false},
		{api.Window{Top: -1}, math.MaxInt, api.Window{Top: -1}, false},
		// Numbers above Top.
		{api.Window{Top: 0, Bits: 1}, 1, api.Window{Top: 1, Bits: 3}, true},
		{api.Window{Top: 0, Bits: 1}, 63, api.Window{Top: 63, Bits: 1<<63 | 1}, true},
		{api.Window{Top: 0, Bits: 1}, 64, api.Window{Top: 64, Bits: 1}, true},
		{api.Window{Top: 0, Bits: 1}, 65, api.Window{Top: 65, Bits: 1}, true},
		{api.Window{Top: 5, Bits: 63}, 6, api.Window{Top: 6, Bits: 127}, true},
		{api.Window{Top: 5, Bits: 37}, 8, api.Window{Top: 8, Bits: 37*8 + 1}, true},
		{api.Window{Top: 63, Bits: math.MaxUint64}, 64, api.Window{Top: 64, Bits: math.MaxUint64}, true},
		{api.Window{Top: 63, Bits: math.MaxUint64}, 65, api.Window{Top: 65, Bits: math.MaxUint64 - 2}, true},
		{api.Window{Top: 63, Bits: math.MaxUint64}, 126, api.Window{Top: 126, Bits: 1<<63 | 1}, true},
		{api.Window{Top: 63, Bits: math.MaxUint64}, 127, api.Window{Top: 127, Bits: 1}, true},
		{api.Window{Top: 63, Bits: math.MaxUint64}, 128, api.Window{Top: 128, Bits: 1}, true},
		{api.Window{Top: 63, Bits: math.MaxUint64}, lastNumber, api.Window{Top: lastNumber, Bits: 1}, true},
		{api.Window{Top: lastNumber - 1, Bits: 1}, lastNumber, api.Window{Top: lastNumber, Bits: 3}, true},
		// Numbers of the window.
		{api.Window{Top: 5, Bits: 1}, 5, api.Window{Top: 5, Bits: 1}, false},
		{api.Window{Top: 5, Bits: 1}, 4, api.Window{Top: 5, Bits: 3}, true},
		{api.Window{Top: 5, Bits: 3}, 4, api.Window{Top: 5, Bits: 3}, false},
		{api.Window{Top: 5, Bits: 1}, 0, api.Window{Top: 5, Bits: 33}, true},
		{api.Window{Top: 5, Bits: 33}, 0, api.Window{Top: 5, Bits: 33}, false},
		{api.Window{Top: 5, Bits: 1}, -1, api.Window{Top: 5, Bits: 1}, false},
		{api.Window{Top: 63, Bits: 1}, 0, api.Window{Top: 63, Bits: 1<<63 | 1}, true},
		{api.Window{Top: 100, Bits: 1}, 37, api.Window{Top: 100, Bits: 1<<63 | 1}, true},
		{api.Window{Top: 100, Bits: 1<<63 | 1}, 37, api.Window{Top: 100, Bits: 1<<63 | 1}, false},
		{api.Window{Top: 100, Bits: 1}, 36, api.Window{Top: 100, Bits: 1}, false},
		{api.Window{Top: 100, Bits: 1}, 35, api.Window{Top: 100, Bits: 1}, false},
		{api.Window{Top: 100, Bits: 1}, 0, api.Window{Top: 100, Bits: 1}, false},
		{api.Window{Top: 100, Bits: math.MaxUint64}, 100, api.Window{Top: 100, Bits: math.MaxUint64}, false},
		// The last numbers.
		{api.Window{Top: lastNumber, Bits: 1}, lastNumber, api.Window{Top: lastNumber, Bits: 1}, false},
		{api.Window{Top: lastNumber, Bits: 1}, lastNumber + 1, api.Window{Top: lastNumber, Bits: 1}, false},
		{api.Window{Top: lastNumber, Bits: 1}, lastNumber - 1, api.Window{Top: lastNumber, Bits: 3}, true},
		{api.Window{Top: lastNumber, Bits: 1}, lastNumber - 63, api.Window{Top: lastNumber, Bits: 1<<63 | 1}, true},
		{api.Window{Top: lastNumber, Bits: 1}, lastNumber - 64, api.Window{Top: lastNumber, Bits: 1}, false},
		{api.Window{Top: lastNumber, Bits: 1}, 0, api.Window{Top: lastNumber, Bits: 1}, false},
		{api.Window{Top: lastNumber, Bits: 1}, math.MinInt, api.Window{Top: lastNumber, Bits: 1}, false},
		{api.Window{Top: lastNumber, Bits: 1}, math.MaxInt, api.Window{Top: lastNumber, Bits: 1}, false},
	} {
		checkAccept(t, row.w, row.n, row.want, row.ok)
		checkWindow(t, row.w, farNumbers()...)
	}
}

// P14.2: every number around and far away from windows of any kind.
func TestAcceptOfEveryNumber(t *testing.T) {
	source := newSource()
	windows := someWindows()
	for range 500 {
		windows = append(windows, randomWindow(source))
	}
	for _, w := range windows {
		checkWindow(t, w, farNumbers()...)
		for n := -70; n < 300; n++ {
			checkWindow(t, w, n)
		}
		for offset := -70; offset < 70; offset++ {
			checkWindow(t, w, w.Top+offset, lastNumber+offset)
		}
	}
}

// P14.5, P14.6: whatever numbers come, in windows that began empty.
func TestSequences(t *testing.T) {
	source := newSource()
	for round := range 300 {
		w, top, seen := replay.New(), -1, map[int]bool{}
		spread := 1 + source.IntN(1+round)
		for range 500 {
			n := top + source.IntN(spread) - spread*2/3
			switch source.IntN(60) {
			case 0:
				n = source.IntN(lastNumber + 2)
			case 1:
				n = farNumbers()[source.IntN(len(farNumbers()))]
			}
			after, ok := replay.Accept(w, n)
			isValid := n >= 0 && n <= lastNumber
			if want := isValid && n > top-width && !seen[n]; ok != want {
				t.Fatalf("Accept(%v, %d): got %t", w, n, ok)
			}
			if !ok && after != w || ok && after.Top != max(top, n) {
				t.Fatalf("Accept(%v, %d): got %v", w, n, after)
			}
			if ok {
				seen[n], top = true, max(top, n)
			}
			checkCheck(t, after, api.OK)
			checkRecorded(t, after, seen)
			w = after
			if top > lastNumber-spread {
				w, top, seen = replay.New(), -1, map[int]bool{}
			}
		}
	}
}

// checkRecorded checks that a window records those of the last 64 numbers that were
// seen, and no other ones.
func checkRecorded(t *testing.T, w api.Window, seen map[int]bool) {
	t.Helper()
	for k := range width {
		if got, want := w.Bits>>k%2 == 1, seen[w.Top-k]; got != want {
			t.Fatalf("%v records %d: got %t", w, w.Top-k, got)
		}
		if seen[w.Top-k] {
			checkAccept(t, w, w.Top-k, w, false)
		}
	}
}

// P14.5: numbers in ascending and in descending order, and each one a second time.
func TestOrders(t *testing.T) {
	for step := 1; step < 140; step++ {
		w := replay.New()
		for n := 0; n < 20*step; n += step {
			after, ok := replay.Accept(w, n)
			if !ok {
				t.Fatalf("Accept(%v, %d): rejected", w, n)
			}
			checkAccept(t, after, n, after, false)
			checkAccept(t, after, n-step, after, false)
			w = after
		}
		top, last := w.Top, w.Top
		for n := top; n > top-70; n-- {
			isNew := n >= 0 && n > top-width && n != last
			if n == last {
				last -= step
			}
			after, ok := replay.Accept(w, n)
			if ok != isNew {
				t.Fatalf("Accept(%v, %d): got %t", w, n, ok)
			}
			checkAccept(t, after, n, after, false)
			w = after
		}
	}
	w := api.Window{Top: 200, Bits: 1}
	for n := 199; n >= 0; n-- {
		after, ok := replay.Accept(w, n)
		if want := n > 136; ok != want {
			t.Fatalf("Accept(%v, %d): got %t", w, n, ok)
		}
		w = after
	}
	if want := (api.Window{Top: 200, Bits: math.MaxUint64}); w != want {
		t.Fatalf("got %v, want %v", w, want)
	}
}

// example is a message and its sealed form, which was calculated apart from the
// module.
type example struct {
	key     uint64
	node, n int
	s, b    string
}

func examples() []example {
	return []example{
		{7, 4, 6, "hello", "\x08\x0c\x0ahello\x44\xe7\x10\x50"},
		{0, 0, 0, "", "\x00\x00\x00\x76\xa3\x2a\x16"},
		{math.MaxUint64, 250, 1 << 40, "\x00\xff", "\xf4\x03\x80\x80\x80\x80\x80\x40\x04\x00\xff\x7e\x23\x4c\x2b"},
		{0x123456789abcdef0, 63, 64, "ab", "\x7e\x80\x01\x04ab\xc2\x0d\x52\x9f"},
		{1, 64, 8191, "x", "\x80\x01\xfe\x7f\x02x\x31\x0a\x27\xd9"},
		{5, 9, 8192, "on", "\x12\x80\x80\x01\x04on\x42\x0b\xd7\x94"},
		{9, 250, 1 << 40, strings.Repeat("y", mostText), "\xf4\x03\x80\x80\x80\x80\x80\x40\xd0\x0f" + strings.Repeat("y", mostText) + "\x61\x74\x7f\x0b"},
	}
}

// P14.3, P14.4, P14.7
func TestSealedExamples(t *testing.T) {
	for _, e := range examples() {
		checkSeal(t, e.key, e.node, e.n, e.s, e.b, api.OK)
		after := api.Window{Top: e.n, Bits: 1}
		checkOpen(t, e.key, e.node, api.Window{Top: -1}, e.b, e.s, after, api.OK)
		checkOpen(t, e.key, e.node, after, e.b, "", after, api.ErrReplay)
		checkOpen(t, e.key+1, e.node, api.Window{Top: -1}, e.b, "", api.Window{Top: -1}, api.ErrSum)
	}
}

// P14.3: each error, and the order of both.
func TestSealErrors(t *testing.T) {
	long := strings.Repeat("x", mostText+1)
	for _, row := range []struct {
		node, n int
		s       string
		want    api.Errno
	}{
		{0, 0, "", api.OK},
		{250, lastNumber, long[1:], api.OK},
		{-1, 0, "", api.ErrRange},
		{251, 0, "", api.ErrRange},
		{255, 0, "", api.ErrRange},
		{math.MinInt, 0, "", api.ErrRange},
		{math.MaxInt, 0, "", api.ErrRange},
		{0, -1, "", api.ErrRange},
		{0, lastNumber + 1, "", api.ErrRange},
		{0, math.MinInt, "", api.ErrRange},
		{0, math.MaxInt, "", api.ErrRange},
		{251, -1, "", api.ErrRange},
		{251, 0, long, api.ErrRange},
		{0, -1, long, api.ErrRange},
		{0, 0, long, api.ErrLimit},
		{250, lastNumber, long, api.ErrLimit},
		{0, 0, strings.Repeat("x", 100000), api.ErrLimit},
	} {
		want, err := seal(3, row.node, row.n, row.s)
		if err != row.want {
			t.Fatalf("the model returns %d, want %d", err, row.want)
		}
		checkSeal(t, 3, row.node, row.n, row.s, want, row.want)
	}
}

// P14.3, P14.4, P14.7: every node and far away ones, for numbers at all ends.
func TestEveryNode(t *testing.T) {
	nodes := farNumbers()
	for node := -5; node <= 260; node++ {
		nodes = append(nodes, node)
	}
	for _, node := range nodes {
		for _, n := range farNumbers() {
			checkMessage(t, 7, node, n, "on", api.Window{Top: -1})
		}
		b, err := replay.Seal(7, node, 6, "on")
		if err != api.OK {
			continue
		}
		for _, other := range nodes {
			w := api.Window{Top: 5, Bits: 1}
			if other == node {
				checkOpen(t, 7, other, w, b, "on", api.Window{Top: 6, Bits: 3}, api.OK)
			} else {
				checkOpen(t, 7, other, w, b, "", w, api.ErrRange)
			}
		}
	}
}

// P14.3, P14.4, P14.7: texts of every length and with any bytes.
func TestEveryText(t *testing.T) {
	source := newSource()
	for length := range mostText + 3 {
		w := randomWindow(source)
		checkMessage(t, source.Uint64(), source.IntN(256), source.IntN(200), randomText(source, length), w)
		checkMessage(t, 8, 9, w.Top+1, strings.Repeat("\x00", length), w)
	}
	for c := range 256 {
		checkMessage(t, 8, 9, c, string([]byte{byte(c)}), api.Window{Top: 130, Bits: 1})
	}
	checkMessage(t, 8, 9, 10, everyByte(), api.Window{Top: 5, Bits: 7})
}

// P14.4: what has no seal, or another one.
func TestOpenWithoutSeal(t *testing.T) {
	for _, w := range someWindows() {
		for _, b := range []string{"", "a", "ab", "abc"} {
			checkOpen(t, 7, 4, w, b, "", w, api.ErrShort)
		}
		for _, b := range []string{"abcd", "\x00\x00\x00\x00", "\x08\x0c\x0ahello", "\x08\x0c\x0ahello\x44\xe7\x10\x51", everyByte()} {
			checkOpen(t, 7, 4, w, b, "", w, api.ErrSum)
		}
	}
}

// P14.4: every change of a byte, and every part.
func TestSpoiltBytes(t *testing.T) {
	for _, e := range examples()[:6] {
		w := api.Window{Top: -1}
		for i := range len(e.b) {
			for c := range 256 {
				changed := []byte(e.b)
				changed[i] = byte(c)
				checkBytes(t, e.key, e.node, w, string(changed))
				// With a seal of its own.
				payload := changed[:len(changed)-4]
				checkBytes(t, e.key, e.node, w, sealed(e.key, string(payload)))
			}
			checkBytes(t, e.key, e.node, w, e.b[:i])
			checkBytes(t, e.key, e.node, w, e.b[i:])
			checkBytes(t, e.key, e.node, w, sealed(e.key, e.b[:i]))
			checkBytes(t, e.key, e.node, w, e.b+e.b[i:])
		}
	}
}

// P14.4: payloads that cannot be read, and the order of the errors.
func TestOpenOfPayloads(t *testing.T) {
	four, six := number(4), number(6)
	huge := strings.Repeat("\xff", 9)
	for _, row := range []struct {
		payload string
		want    api.Errno
	}{
		// The node.
		{"", api.ErrShort},
		{"\x80", api.ErrShort},
		{"\x88\x00" + six + text("on"), api.ErrForm},
		{huge, api.ErrShort},
		{huge + "\x02" + six + text("on"), api.ErrForm},
		// The number.
		{four, api.ErrShort},
		{four + "\xff", api.ErrShort},
		{four + "\x8c\x00" + text("on"), api.ErrForm},
		{four + huge + "\x03" + text("on"), api.ErrForm},
		// The text.
		{four + six, api.ErrShort},
		{four + six + "\x80", api.ErrShort},
		{four + six + "\x84\x00on", api.ErrForm},
		{four + six + number(-1) + "on", api.ErrForm},
		{four + six + number(math.MinInt) + "on", api.ErrForm},
		{four + six + number(1001), api.ErrLimit},
		{four + six + number(1001) + strings.Repeat("x", 1001), api.ErrLimit},
		{four + six + number(1001) + strings.Repeat("x", 1002), api.ErrLimit},
		{four + six + number(math.MaxInt), api.ErrLimit},
		{four + six + number(1000), api.ErrShort},
		{four + six + number(1000) + strings.Repeat("x", 999), api.ErrShort},
		{four + six + number(3) + "on", api.ErrShort},
		{four + six + number(2) + "o", api.ErrShort},
		{four + six + number(1) + "on", api.ErrTail},
		{four + six + text("on") + "\x00", api.ErrTail},
		{four + six + text("on") + text("on"), api.ErrTail},
		{four + six + number(1000) + strings.Repeat("x", 1001), api.ErrTail},
		// These errors come before those of the numbers.
		{number(5) + six + text("on") + "!", api.ErrTail},
		{number(-1) + number(-1) + number(1001), api.ErrLimit},
		{number(251) + number(lastNumber+1) + number(-2), api.ErrForm},
		{number(251), api.ErrShort},
		{number(5) + "\x8c\x00", api.ErrForm},
	} {
		checkError(t, 4, row.payload, row.want)
		checkError(t, 251, row.payload, row.want)
		checkError(t, math.MinInt, row.payload, row.want)
	}
}

// P14.4: numbers of payloads that are out of range; nothing is limited to the nearest
// end.
func TestOpenOfNumbersOutOfRange(t *testing.T) {
	for _, node := range farNumbers() {
		for _, to := range farNumbers() {
			for _, n := range farNumbers() {
				payload := number(to) + number(n) + text("on")
				if to == node && inRange(node, n) {
					checkBytes(t, 7, node, api.Window{Top: -1}, sealed(7, payload))
					continue
				}
				w := api.Window{Top: 64, Bits: 1}
				checkOpen(t, 7, node, w, sealed(7, payload), "", w, api.ErrRange)
			}
		}
	}
	checkError(t, 250, number(251)+number(6)+text("on"), api.ErrRange)
	checkError(t, 251, number(250)+number(6)+text("on"), api.ErrRange)
	checkError(t, 251, number(251)+number(6)+text("on"), api.ErrRange)
	checkError(t, 255, number(255)+number(6)+text("on"), api.ErrRange)
	checkError(t, 0, number(-1)+number(6)+text("on"), api.ErrRange)
	checkError(t, -1, number(0)+number(6)+text("on"), api.ErrRange)
	checkError(t, -1, number(-1)+number(6)+text("on"), api.ErrRange)
	checkError(t, 4, number(4)+number(-1)+text("on"), api.ErrRange)
	checkError(t, 4, number(4)+number(lastNumber+1)+text("on"), api.ErrRange)
	checkError(t, 4, number(6)+number(4)+text("on"), api.ErrRange)
}

// P14.4: numbers that the window does not accept.
func TestOpenOfReplays(t *testing.T) {
	for _, w := range someWindows() {
		for n := range 140 {
			b := sealed(7, number(4)+number(n)+text("on"))
			after, ok := accepted(w, n)
			if !ok {
				checkOpen(t, 7, 4, w, b, "", w, api.ErrReplay)
				checkOpen(t, 7, 5, w, b, "", w, api.ErrRange)
				continue
			}
			checkOpen(t, 7, 4, w, b, "on", after, api.OK)
			checkOpen(t, 7, 4, after, b, "", after, api.ErrReplay)
		}
	}
	for _, w := range someWindows()[8:] {
		for _, n := range []int{0, 6, 1000, lastNumber} {
			checkOpen(t, 7, 4, w, sealed(7, number(4)+number(n)+text("on")), "", w, api.ErrReplay)
		}
	}
}

// P14.4: payloads of a few pieces, whether or not they fit together.
func TestRandomPayloads(t *testing.T) {
	source := newSource()
	for range 60000 {
		var payload bytes.Buffer
		for range 2 + source.IntN(2) {
			switch source.IntN(12) {
			case 0:
				payload.WriteString(randomText(source, source.IntN(4)))
			case 1:
				payload.WriteString(number(farNumbers()[source.IntN(len(farNumbers()))]))
			default:
				payload.WriteString(number(source.IntN(8)))
			}
		}
		payload.WriteString(text(randomText(source, source.IntN(6))))
		if source.IntN(8) == 0 {
			payload.Truncate(source.IntN(payload.Len()))
		}
		key := source.Uint64()
		checkBytes(t, key, source.IntN(8), randomWindow(source), sealed(key, payload.String()))
	}
}

// P14.7: messages between a hub and its nodes, in any order, several times.
func TestConversation(t *testing.T) {
	source := newSource()
	for range 200 {
		key, node, count := source.Uint64(), source.IntN(lastNode+1), 1+source.IntN(width)
		var messages []string
		for n := range count {
			b, err := replay.Seal(key, node, n, "message "+number(n))
			if err != api.OK {
				t.Fatalf("Seal of %d: %d", n, err)
			}
			messages = append(messages, b)
		}
		w, opened := replay.New(), map[int]int{}
		order := append(source.Perm(count), source.Perm(count)...)
		source.Shuffle(len(order), func(i, k int) { order[i], order[k] = order[k], order[i] })
		for _, n := range order {
			s, after, err := replay.Open(key, node, w, messages[n])
			switch {
			case opened[n] > 0 && (err != api.ErrReplay || s != "" || after != w):
				t.Fatalf("%d again: %q, %v, %d", n, s, after, err)
			case opened[n] == 0 && (err != api.OK || s != "message "+number(n)):
				t.Fatalf("%d: %q, %v, %d", n, s, after, err)
			}
			opened[n]++
			w = after
		}
		if want := (api.Window{Top: count - 1, Bits: math.MaxUint64 >> (width - count)}); w != want {
			t.Fatalf("got %v, want %v", w, want)
		}
	}
}

// R7
func TestCallsAreIndependent(t *testing.T) {
	source := newSource()
	for range 500 {
		w, n := randomWindow(source), source.IntN(200)
		b, err := replay.Seal(7, 4, n, "on")
		s, after, openErr := replay.Open(7, 4, w, b)
		checkMessage(t, source.Uint64(), 4, n, "off", randomWindow(source))
		checkWindow(t, randomWindow(source), n)
		checkSeal(t, 7, 4, n, "on", b, err)
		checkOpen(t, 7, 4, w, b, s, after, openErr)
	}
}
