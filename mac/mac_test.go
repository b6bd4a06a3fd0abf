package mac_test

import (
	"math"
	"math/rand/v2"
	"slices"
	"strings"
	"testing"

	"homehub/api"
	"homehub/mac"
)

const (
	most      = 16 // entries of a queue
	mostPairs = 32 // pairs that are remembered
)

// The models of the functions. They keep the entries by places: those of a queue at
// odd ones, so that there is an even one before each of them.

type places map[int]api.Sending

func placesOf(q []api.Sending) places {
	p := places{}
	for i, entry := range q {
		if i < 16 {
			p[2*i+1] = entry
		}
	}
	return p
}

func (p places) list() []api.Sending {
	var q []api.Sending
	for n := range 40 {
		if entry, ok := p[n]; ok {
			q = append(q, entry)
		}
	}
	return q
}

// where returns the places of the entries of a kind.
func (p places) where(isIt func(api.Sending) bool) []int {
	var found []int
	for n := range 40 {
		if entry, ok := p[n]; ok && isIt(entry) {
			found = append(found, n)
		}
	}
	return found
}

func isOrdinary(entry api.Sending) bool {
	return !entry.Frame.Urgent
}

func isUntried(entry api.Sending) bool {
	return !entry.Frame.Urgent && entry.Tries < 1
}

// put returns what Put returns.
func put(q []api.Sending, f api.Frame) ([]api.Sending, bool) {
	p := placesOf(q)
	if len(p) == 16 {
		untried := p.where(isUntried)
		if len(untried) == 0 || !f.Urgent {
			return p.list(), false
		}
		delete(p, untried[len(untried)-1])
	}
	at := 38
	if ordinary := p.where(isOrdinary); f.Urgent && len(ordinary) > 0 {
		at = ordinary[0] - 1
	}
	p[at] = api.Sending{Frame: f}
	return p.list(), true
}

// next returns what Next returns.
func next(q []api.Sending) int {
	ready := placesOf(q).where(func(entry api.Sending) bool { return entry.Wait < 1 })
	if len(ready) == 0 {
		return -1
	}
	return ready[0] / 2
}

// result returns what Result returns.
func result(q []api.Sending, i int, ok bool) ([]api.Sending, bool) {
	var left []api.Sending
	isOver := false
	for n, entry := range placesOf(q).list() {
		switch {
		case n != i:
			left = append(left, entry)
		case ok:
		case entry.Tries >= 7:
			isOver = true
		default:
			left = append(left, failed(entry))
		}
	}
	return left, isOver
}

// failed returns an entry that is not given up after one more failure.
func failed(entry api.Sending) api.Sending {
	tries := 1
	if entry.Tries > 0 {
		tries = entry.Tries + 1
	}
	wait := []int{0, 1, 2, 3, 4, 4, 4, 4}[tries]
	if entry.Frame.Urgent {
		wait = 0
	}
	return api.Sending{Frame: entry.Frame, Tries: tries, Wait: wait}
}

// tick returns what Tick returns.
func tick(q []api.Sending) []api.Sending {
	p := placesOf(q)
	for _, n := range p.where(func(entry api.Sending) bool { return entry.Wait >= 1 }) {
		entry := p[n]
		entry.Wait += -1
		p[n] = entry
	}
	return p.list()
}

// fresh returns what Fresh returns.
func fresh(l []api.Pair, p api.Pair) ([]api.Pair, bool) {
	var known []api.Pair
	isNew := true
	for i, pair := range l {
		if i+32 >= len(l) {
			known = append(known, pair)
			isNew = isNew && (pair.Source != p.Source || pair.Seq != p.Seq)
		}
	}
	if isNew {
		known = append(known, p)
	}
	if len(known) == 33 {
		known = known[1:]
	}
	return known, isNew
}

// The first difference ends a test, as some of them compare very many queues.

func checkPut(t *testing.T, q []api.Sending, f api.Frame, want []api.Sending, wantOk bool) {
	t.Helper()
	if got, ok := mac.Put(q, f); !slices.Equal(got, want) || ok != wantOk {
		t.Fatalf("Put(%v, %v): got %v, %t, want %v, %t", q, f, got, ok, want, wantOk)
	}
}

func checkNext(t *testing.T, q []api.Sending, want int) {
	t.Helper()
	if got := mac.Next(q); got != want {
		t.Fatalf("Next(%v): got %d, want %d", q, got, want)
	}
}

func checkResult(t *testing.T, q []api.Sending, i int, ok bool, want []api.Sending, wantOver bool) {
	t.Helper()
	if got, isOver := mac.Result(q, i, ok); !slices.Equal(got, want) || isOver != wantOver {
		t.Fatalf("Result(%v, %d, %t): got %v, %t, want %v, %t", q, i, ok, got, isOver, want, wantOver)
	}
}

func checkTick(t *testing.T, q, want []api.Sending) {
	t.Helper()
	if got := mac.Tick(q); !slices.Equal(got, want) {
		t.Fatalf("Tick(%v): got %v, want %v", q, got, want)
	}
}

func checkFresh(t *testing.T, l []api.Pair, p api.Pair, want []api.Pair, wantOk bool) {
	t.Helper()
	if got, ok := mac.Fresh(l, p); !slices.Equal(got, want) || ok != wantOk {
		t.Fatalf("Fresh(%v, %v): got %v, %t, want %v, %t", l, p, got, ok, want, wantOk)
	}
}

// checkPuts compares Put with its model, for a frame that is not urgent and one that
// is.
func checkPuts(t *testing.T, q []api.Sending) {
	t.Helper()
	for _, urgent := range []bool{false, true} {
		f := frame(urgent, "new")
		want, ok := put(q, f)
		checkPut(t, q, f, want, ok)
	}
}

// checkResults compares Result with its model, for a success and a failure.
func checkResults(t *testing.T, q []api.Sending, i int) {
	t.Helper()
	for _, ok := range []bool{false, true} {
		want, isOver := result(q, i, ok)
		checkResult(t, q, i, ok, want, isOver)
	}
}

// checkAll compares all functions of queues with their models, and checks that they
// do not change the queue.
func checkAll(t *testing.T, q []api.Sending) {
	t.Helper()
	before := slices.Clone(q)
	checkPuts(t, q)
	checkNext(t, q, next(q))
	checkTick(t, q, tick(q))
	for i := -2; i < len(q)+3; i++ {
		checkResults(t, q, i)
	}
	if !slices.Equal(q, before) {
		t.Fatalf("the queue %v was changed to %v", before, q)
	}
}

// checkPair compares Fresh with its model, and checks that it does not change the list.
func checkPair(t *testing.T, l []api.Pair, p api.Pair) {
	t.Helper()
	before := slices.Clone(l)
	want, ok := fresh(l, p)
	checkFresh(t, l, p, want, ok)
	if !slices.Equal(l, before) {
		t.Fatalf("the list %v was changed to %v", before, l)
	}
}

func frame(urgent bool, data string) api.Frame {
	return api.Frame{Kind: api.FkData, From: 1, To: 2, Source: 3, Target: 4, Urgent: urgent, Data: data}
}

// letters returns a queue with these labels: those with capital letters are urgent. A
// digit behind a letter is the number of its tries.
func letters(text string) []api.Sending {
	var q []api.Sending
	for _, letter := range text {
		if letter >= '0' && letter <= '9' {
			q[len(q)-1].Tries = int(letter - '0')
			continue
		}
		urgent := letter >= 'A' && letter <= 'Z'
		q = append(q, api.Sending{Frame: frame(urgent, string(letter))})
	}
	return q
}

// labels tell entries apart.
const labels = "abcdefghijklmnopqrstuvwxyzABCDEFGHIJKLMNOPQRSTUVWXYZ"

// waits returns a queue with these numbers of ticks.
func waits(numbers ...int) []api.Sending {
	var q []api.Sending
	for i, wait := range numbers {
		q = append(q, api.Sending{Frame: frame(i%3 == 1, labels[i:i+1]), Tries: i % 5, Wait: wait})
	}
	return q
}

// pairs returns the pairs of a source with the numbers from one to another one.
func pairs(source, from, to int) []api.Pair {
	var l []api.Pair
	for seq := from; seq <= to; seq++ {
		l = append(l, api.Pair{Source: source, Seq: seq})
	}
	return l
}

// farNumbers are numbers at the ends of the tries, of the waits, of a queue, of the
// fields of a frame and of int.
func farNumbers() []int {
	return []int{
		math.MinInt, math.MinInt + 1, -1 << 40, -256, -8, -2, -1, 0, 1, 2, 3, 4, 5, 6, 7, 8, 9, 14, 15, 16, 17,
		31, 32, 33, 255, 256, 65535, 65536, 1 << 32, 1 << 40, math.MaxInt / 2, math.MaxInt - 1, math.MaxInt,
	}
}

func newSource() *rand.Rand {
	return rand.New(rand.NewPCG(16, 1))
}

func farNumber(source *rand.Rand) int {
	numbers := farNumbers()
	return numbers[source.IntN(len(numbers))]
}

// randomEntry returns an entry of which some numbers are far away. Few are the same.
func randomEntry(source *rand.Rand) api.Sending {
	label := source.IntN(len(labels))
	entry := api.Sending{Frame: frame(source.IntN(2) == 0, labels[label:label+1])}
	entry.Frame.Seq = source.IntN(99)
	if source.IntN(3) > 0 {
		entry.Tries, entry.Wait = source.IntN(9), source.IntN(6)
	}
	if source.IntN(8) == 0 {
		entry.Tries = farNumber(source)
	}
	if source.IntN(8) == 0 {
		entry.Wait = farNumber(source)
	}
	return entry
}

func randomQueue(source *rand.Rand, length int) []api.Sending {
	var q []api.Sending
	for range length {
		q = append(q, randomEntry(source))
	}
	return q
}

// randomPair returns one of a few pairs.
func randomPair(source *rand.Rand, kinds int) api.Pair {
	return api.Pair{Source: source.IntN(3), Seq: source.IntN(kinds)}
}

func randomPairs(source *rand.Rand, length, kinds int) []api.Pair {
	var l []api.Pair
	for range length {
		l = append(l, randomPair(source, kinds))
	}
	return l
}

// The chapter's example: P16.1, P16.2, P16.3.
func TestExample(t *testing.T) {
	a, b := frame(false, "a"), frame(true, "b")
	checkPut(t, nil, a, []api.Sending{{Frame: a}}, true)
	q := []api.Sending{{Frame: b}, {Frame: a}}
	checkPut(t, q[1:], b, q, true)
	tried := []api.Sending{{Frame: b}, {Frame: a, Tries: 1, Wait: 1}}
	checkResult(t, q, 1, false, tried, false)
	checkNext(t, tried, 0)
	left := tried[1:]
	checkResult(t, tried, 0, true, left, false)
	checkNext(t, left, -1)
	ticked := []api.Sending{{Frame: a, Tries: 1}}
	checkTick(t, left, ticked)
	checkNext(t, ticked, 0)
	for tries := 2; tries <= 7; tries++ {
		want := []api.Sending{{Frame: a, Tries: tries, Wait: min(tries, 4)}}
		checkResult(t, left, 0, false, want, false)
		left = want
	}
	checkResult(t, left, 0, false, nil, true)
	checkResult(t, left, 0, true, nil, false)
}

// P16.1: where a frame is put.
func TestPut(t *testing.T) {
	for _, row := range []struct {
		before, put, after string
		ok                 bool
	}{
		{"", "x", "x", true},
		{"", "X", "X", true},
		{"a", "x", "ax", true},
		{"a", "X", "Xa", true},
		{"A", "x", "Ax", true},
		{"A", "X", "AX", true},
		{"Aa", "X", "AXa", true},
		{"ABab", "X", "ABXab", true},
		{"ABab", "x", "ABabx", true},
		// Tries play no part as long as there is space.
		{"a1", "X", "Xa1", true},
		{"A3a2b", "X", "A3Xa2b", true},
		{"A3a2b", "x", "A3a2bx", true},
		// Not in order: before the first entry that is not urgent.
		{"aA", "X", "XaA", true},
		{"AaBb", "X", "AXaBb", true},
		{"aAbB", "x", "aAbBx", true},
		// The last free space.
		{"abcdefghijklmno", "x", "abcdefghijklmnox", true},
		{"abcdefghijklmno", "X", "Xabcdefghijklmno", true},
		{"ABCDEFGHIJKLMNO", "x", "ABCDEFGHIJKLMNOx", true},
		{"ABCDEFGHIJKLMNO", "X", "ABCDEFGHIJKLMNOX", true},
		{"a1b1c1d1e1f1g1h1i1j1k1l1m1n1o1", "X", "Xa1b1c1d1e1f1g1h1i1j1k1l1m1n1o1", true},
		// No free space.
		{"abcdefghijklmnop", "x", "abcdefghijklmnop", false},
		{"ABCDEFGHIJKLMNOP", "x", "ABCDEFGHIJKLMNOP", false},
		{"ABCDEFGHijklmnop", "x", "ABCDEFGHijklmnop", false},
		// No entry can be removed: all are urgent or were tried.
		{"ABCDEFGHIJKLMNOP", "X", "ABCDEFGHIJKLMNOP", false},
		{"A1BCDEFGHIJKLMNO7P", "X", "A1BCDEFGHIJKLMNO7P", false},
		{"ABCDEFGHIJKLMNOp1", "X", "ABCDEFGHIJKLMNOp1", false},
		{"a1b1c1d1e1f1g1h1i1j1k1l1m1n1o1p1", "X", "a1b1c1d1e1f1g1h1i1j1k1l1m1n1o1p1", false},
		{"ABCDEFGHi7j6k5l4m3n2o1p8", "X", "ABCDEFGHi7j6k5l4m3n2o1p8", false},
		// The last entry that is neither urgent nor was tried is removed.
		{"abcdefghijklmnop", "X", "Xabcdefghijklmno", true},
		{"Abcdefghijklmnop", "X", "AXbcdefghijklmno", true},
		{"ABCDEFGHijklmnop", "X", "ABCDEFGHXijklmno", true},
		{"ABCDEFGHIJKLMNop", "X", "ABCDEFGHIJKLMNXo", true},
		{"ABCDEFGHIJKLMNOp", "X", "ABCDEFGHIJKLMNOX", true},
		{"abcdefghijklmnop1", "X", "Xabcdefghijklmnp1", true},
		{"abcdefghijklmno2p1", "X", "Xabcdefghijklmo2p1", true},
		{"ab1c1d1e1f1g1h1i1j1k1l1m1n1o1p1", "X", "Xb1c1d1e1f1g1h1i1j1k1l1m1n1o1p1", true},
		{"ABCDEFGHi1j1kl1mn1o1p1", "X", "ABCDEFGHXi1j1kl1n1o1p1", true},
		{"ABCDEFGHIJKLMNo1p", "X", "ABCDEFGHIJKLMNXo1", true},
		{"ABCDEFGHIJKLMNop1", "X", "ABCDEFGHIJKLMNXp1", true},
		// Not in order: without the removed one, the new one stands before the first
		// of the others, at the end if there is none.
		{"aBCDEFGHIJKLMNOP", "X", "BCDEFGHIJKLMNOPX", true},
		{"ABCDEFGhIJKLMNOP", "X", "ABCDEFGIJKLMNOPX", true},
		{"aBCDEFGhIJKLMNOP", "X", "XaBCDEFGIJKLMNOP", true},
		{"ABcDEFGhIJkLMNOP", "X", "ABXcDEFGhIJLMNOP", true},
		{"abcdefghijklmnoP", "X", "XabcdefghijklmnP", true},
		{"aBCDEFGh1IJKLMNOP", "X", "BCDEFGXh1IJKLMNOP", true},
		{"a1BCDEFGhIJKLMNOP", "X", "Xa1BCDEFGIJKLMNOP", true},
	} {
		checkPut(t, letters(row.before), letters(row.put)[0].Frame, letters(row.after), row.ok)
		checkAll(t, letters(row.before))
	}
}

// entries returns entries of three kinds, by the digits of a number to the base 3:
// urgent, tried and untried.
func entries(number, length int) []api.Sending {
	var q []api.Sending
	for i := range length {
		kind := number % 3
		number /= 3
		q = append(q, api.Sending{Frame: frame(kind == 0, labels[i:i+1]), Tries: kind % 2, Wait: i})
	}
	return q
}

// P16.1: every order of urgent, tried and untried entries in a queue with space.
func TestPutInEveryOrder(t *testing.T) {
	count := 1
	for length := range 10 {
		for number := range count {
			checkPuts(t, entries(number, length))
		}
		count *= 3
	}
}

// P16.1: full queues in which any of the entries that are not urgent were tried.
func TestPutIntoFullQueue(t *testing.T) {
	for urgent := range most + 1 {
		ordinary := most - urgent
		for bits := range 1 << ordinary {
			q := letters(labels[26:26+urgent] + labels[:ordinary])
			for i := range ordinary {
				q[urgent+i].Tries = bits >> i % 2
			}
			checkPuts(t, q)
		}
	}
}

// P16.1: full queues with any order of urgent and other entries.
func TestPutIntoFullQueueInEveryOrder(t *testing.T) {
	source := newSource()
	for bits := range 1 << most {
		q := letters(labels[:most])
		for i := range q {
			q[i].Frame.Urgent = bits>>i%2 == 1
			q[i].Tries = source.IntN(3) - 1
		}
		checkPuts(t, q)
	}
}

// P16.1: an entry was tried if its Tries are above 0; its Wait plays no part.
func TestPutTries(t *testing.T) {
	f := frame(true, "x")
	for _, tries := range farNumbers() {
		for _, wait := range farNumbers() {
			q := slices.Repeat([]api.Sending{{Frame: frame(true, "A"), Tries: -1}}, most)
			q[15] = api.Sending{Frame: frame(false, "a"), Tries: tries, Wait: wait}
			if tries > 0 {
				checkPut(t, q, f, q, false)
			} else {
				checkPut(t, q, f, slices.Concat(q[:15], []api.Sending{{Frame: f}}), true)
			}
			q[0] = api.Sending{Frame: frame(false, "b"), Tries: tries, Wait: wait}
			checkPuts(t, q)
			checkPuts(t, q[:15])
		}
	}
}

// P16.2: the first entry that is ready.
func TestNext(t *testing.T) {
	for _, row := range []struct {
		q    []api.Sending
		want int
	}{
		{nil, -1},
		{waits(0), 0},
		{waits(1), -1},
		{waits(-1), 0},
		{waits(1, 0), 1},
		{waits(0, 0), 0},
		{waits(2, 3, 0, 1, 0), 2},
		{waits(2, 3, -4, 1, 0), 2},
		{waits(math.MaxInt, math.MinInt), 1},
		{waits(4, 3, 2, 1), -1},
		{waits(1, 1, 1, 1, 1, 1, 1, 1, 1, 1, 1, 1, 1, 1, 1, 0), 15},
		{waits(1, 1, 1, 1, 1, 1, 1, 1, 1, 1, 1, 1, 1, 1, 1, 1), -1},
		// Behind 16 others, none counts.
		{waits(1, 1, 1, 1, 1, 1, 1, 1, 1, 1, 1, 1, 1, 1, 1, 1, 0), -1},
	} {
		checkNext(t, row.q, row.want)
		checkAll(t, row.q)
	}
}

// P16.2: entries are ready in every pattern; that they are urgent or were tried plays
// no part.
func TestNextInEveryOrder(t *testing.T) {
	for bits := range 1 << most {
		q := letters("Ab1cDE8fg7hI2jkLmnOp")
		for i := range q {
			q[i].Wait = bits >> i % 2
		}
		want := -1
		for i := most - 1; i >= 0; i-- {
			if bits>>i%2 == 0 {
				want = i
			}
		}
		checkNext(t, q, want)
	}
}

// P16.2: a tick shortens each wait above 0, and nothing else changes.
func TestTick(t *testing.T) {
	checkTick(t, nil, nil)
	checkTick(t, waits(0, 1, 2, 3, 4, 5), waits(0, 0, 1, 2, 3, 4))
	checkTick(t, waits(-1, 1, -2, 0, 9), waits(-1, 0, -2, 0, 8))
	checkTick(t,
		waits(math.MinInt, math.MinInt+1, 1<<40, math.MaxInt-1, math.MaxInt),
		waits(math.MinInt, math.MinInt+1, 1<<40-1, math.MaxInt-2, math.MaxInt-1))
	for _, wait := range farNumbers() {
		for _, tries := range farNumbers() {
			for _, urgent := range []bool{false, true} {
				entry := api.Sending{Frame: frame(urgent, "a"), Tries: tries, Wait: wait}
				want := entry
				if wait > 0 {
					want.Wait = wait - 1
				}
				checkTick(t, []api.Sending{entry}, []api.Sending{want})
				checkAll(t, []api.Sending{entry, want})
			}
		}
	}
}

// P16.2: after as many ticks as it waits, not before, an entry is ready.
func TestTickUntilReady(t *testing.T) {
	for wait := range 20 {
		q := waits(wait)
		for range wait {
			checkNext(t, q, -1)
			q = mac.Tick(q)
		}
		checkNext(t, q, 0)
		checkNext(t, mac.Tick(q), 0)
	}
}

// P16.3: the tries and the wait after a failure.
func TestFailure(t *testing.T) {
	for _, row := range []struct {
		tries, after, wait int
	}{
		{math.MinInt, 1, 1}, {-9, 1, 1}, {-1, 1, 1}, {0, 1, 1}, {1, 2, 2}, {2, 3, 3},
		{3, 4, 4}, {4, 5, 4}, {5, 6, 4}, {6, 7, 4},
	} {
		for _, wait := range farNumbers() {
			f := frame(false, "a")
			q := []api.Sending{{Frame: f, Tries: row.tries, Wait: wait}}
			checkResult(t, q, 0, false, []api.Sending{{Frame: f, Tries: row.after, Wait: row.wait}}, false)
			checkResult(t, q, 0, true, nil, false)
			f = frame(true, "A")
			q[0].Frame = f
			checkResult(t, q, 0, false, []api.Sending{{Frame: f, Tries: row.after}}, false)
			checkResult(t, q, 0, true, nil, false)
		}
	}
}

// P16.3: a frame is given up.
func TestGivenUp(t *testing.T) {
	for _, tries := range []int{7, 8, 9, 15, 16, 1 << 40, math.MaxInt - 1, math.MaxInt} {
		for _, urgent := range []bool{false, true} {
			for _, wait := range farNumbers() {
				q := letters("AbcD")
				q = append(q, api.Sending{Frame: frame(urgent, "e"), Tries: tries, Wait: wait})
				checkResult(t, q, 4, false, letters("AbcD"), true)
				checkResult(t, q, 4, true, letters("AbcD"), false)
				q[1], q[4] = q[4], q[1]
				checkResult(t, q, 1, false, []api.Sending{q[0], q[2], q[3], q[4]}, true)
				checkResult(t, q, 1, true, []api.Sending{q[0], q[2], q[3], q[4]}, false)
			}
		}
	}
}

// P16.3: only the entry with the index changes.
func TestResultAtEveryIndex(t *testing.T) {
	for length := range most + 1 {
		for tries := range 9 {
			q := letters(labels[20 : 20+length])
			for i := range q {
				q[i].Tries, q[i].Wait = (i+tries)%9, i%6
			}
			checkAll(t, q)
			for i := range q {
				without := slices.Concat(q[:i], q[i+1:])
				checkResult(t, q, i, true, without, false)
				if q[i].Tries > 6 {
					checkResult(t, q, i, false, without, true)
					continue
				}
				want := slices.Clone(q)
				want[i].Tries++
				want[i].Wait = min(want[i].Tries, 4)
				if want[i].Frame.Urgent {
					want[i].Wait = 0
				}
				checkResult(t, q, i, false, want, false)
			}
		}
	}
}

// P16.3: a number that is not the index of an entry changes nothing.
func TestResultOfNoEntry(t *testing.T) {
	for length := range most + 4 {
		q := letters(labels[20 : 20+length])
		for i := range q {
			q[i].Tries, q[i].Wait = 7-i%2, i
		}
		want := q[:min(length, most)]
		for _, i := range append(farNumbers(), length-most-1, length, length+1, -length, -length-1) {
			if i < 0 || i >= len(want) {
				checkResult(t, q, i, false, want, false)
				checkResult(t, q, i, true, want, false)
			} else {
				checkResults(t, q, i)
			}
		}
	}
}

// P16.1, P16.2, P16.3: frames are not checked, and kept as they are.
func TestAnyFrame(t *testing.T) {
	for _, f := range []api.Frame{
		{},
		{Urgent: true},
		{Kind: -1, From: -1, To: -1, Source: -1, Target: -1, Seq: -1, Hops: -1, Data: "\xff\x00"},
		{Kind: 9, From: 255, To: 255, Source: 999, Target: 999, Seq: 65536, Hops: 16, Urgent: true, Data: strings.Repeat("x", 1000)},
		{Kind: math.MaxInt, From: math.MinInt, To: math.MaxInt, Source: math.MinInt, Target: math.MaxInt, Seq: math.MinInt, Hops: math.MaxInt},
		{Kind: api.FkBeacon, From: 3, To: api.Broadcast, Source: 3, Target: api.Broadcast, Seq: 2},
		{Kind: api.FkPoll, From: 3, To: 3},
	} {
		q := []api.Sending{{Frame: f}}
		checkPut(t, nil, f, q, true)
		checkPut(t, q, f, []api.Sending{{Frame: f}, {Frame: f}}, true)
		checkTick(t, []api.Sending{{Frame: f, Wait: 1}}, q)
		wait := 1
		if f.Urgent {
			wait = 0
		}
		checkResult(t, q, 0, false, []api.Sending{{Frame: f, Tries: 1, Wait: wait}}, false)
		checkResult(t, q, 0, true, nil, false)
		checkAll(t, q)
	}
}

// P16.1, P16.3: the same frame may stand in a queue more than once.
func TestSameFrame(t *testing.T) {
	f := frame(false, "a")
	q := []api.Sending{{Frame: f}, {Frame: f}, {Frame: f}}
	checkPut(t, q, f, slices.Repeat(q[:1], 4), true)
	checkResult(t, q, 1, false, []api.Sending{{Frame: f}, {Frame: f, Tries: 1, Wait: 1}, {Frame: f}}, false)
	checkResult(t, q, 1, true, q[:2], false)
	checkNext(t, q, 0)
}

// P16.1, P16.2, P16.3: of a longer list, the first 16 entries count.
func TestLongLists(t *testing.T) {
	x, y := frame(true, "X"), frame(false, "y")
	for length := most + 1; length <= 40; length++ {
		q := letters(labels[:length])
		for i := range q {
			q[i].Wait = 3
		}
		q[16].Wait, q[length-1].Wait = 0, 0
		first := q[:most]
		checkPut(t, q, y, first, false)
		checkPut(t, q, x, slices.Concat([]api.Sending{{Frame: x}}, first[:15]), true)
		checkNext(t, q, -1)
		checkNext(t, q[1:], 15)
		checkTick(t, q, tick(first))
		for _, ok := range []bool{false, true} {
			checkResult(t, q, 16, ok, first, false)
			checkResult(t, q, length-1, ok, first, false)
		}
		checkResult(t, q, 0, true, first[1:], false)
		checkResult(t, q, 15, true, first[:15], false)
		checkAll(t, q)
	}
	// Behind 16 entries of which none can be removed, others do not count; nor do such
	// entries behind others.
	full := letters("ABCDEFGHIJKLMNo1p1q")
	checkPut(t, full, x, full[:most], false)
	ordinary := letters("abcdefghijklmnopQr1")
	checkPut(t, ordinary, x, slices.Concat([]api.Sending{{Frame: x}}, ordinary[:15]), true)
}

// P16.1, P16.2, P16.3: lists of each length, with any numbers.
func TestRandomLists(t *testing.T) {
	source := newSource()
	for length := range most + 8 {
		for range 150 {
			q := randomQueue(source, length)
			checkAll(t, q)
			checkResults(t, q, farNumber(source))
		}
	}
}

// P16.4: pairs that are known and pairs that are not.
func TestFresh(t *testing.T) {
	a, b := api.Pair{Source: 1, Seq: 2}, api.Pair{Source: 2, Seq: 1}
	checkFresh(t, nil, api.Pair{}, []api.Pair{{}}, true)
	checkFresh(t, nil, a, []api.Pair{a}, true)
	checkFresh(t, []api.Pair{a}, a, []api.Pair{a}, false)
	checkFresh(t, []api.Pair{a}, b, []api.Pair{a, b}, true)
	checkFresh(t, []api.Pair{a, b}, a, []api.Pair{a, b}, false)
	checkFresh(t, []api.Pair{a, b}, b, []api.Pair{a, b}, false)
	// Both numbers are compared.
	checkFresh(t, []api.Pair{a}, api.Pair{Source: 1, Seq: 3}, []api.Pair{a, {Source: 1, Seq: 3}}, true)
	checkFresh(t, []api.Pair{a}, api.Pair{Source: 3, Seq: 2}, []api.Pair{a, {Source: 3, Seq: 2}}, true)
	checkFresh(t, []api.Pair{{Source: 1, Seq: 1}, {Source: 2, Seq: 2}}, a, []api.Pair{{Source: 1, Seq: 1}, {Source: 2, Seq: 2}, a}, true)
	// Equal elements stay.
	checkFresh(t, []api.Pair{a, a, b}, a, []api.Pair{a, a, b}, false)
	checkFresh(t, []api.Pair{a, a}, b, []api.Pair{a, a, b}, true)
}

// P16.4: lists of each length, and a pair at any of their places. Of a longer list,
// the last 32 elements count.
func TestFreshAtEveryPlace(t *testing.T) {
	other := api.Pair{Source: 8, Seq: 8}
	for length := range 3 * mostPairs {
		l := pairs(7, 1, length)
		last := l[max(0, length-32):]
		fuller := slices.Concat(l[max(0, length-31):], []api.Pair{other})
		checkFresh(t, l, other, fuller, true)
		for i, p := range l {
			if length-i <= 32 {
				checkFresh(t, l, p, last, false)
			} else {
				checkFresh(t, l, p, slices.Concat(l[length-31:], []api.Pair{p}), true)
			}
			checkPair(t, l, p)
		}
	}
}

// P16.4: numbers are not limited, and none counts as another one.
func TestFreshOfFarNumbers(t *testing.T) {
	for _, source := range farNumbers() {
		for _, seq := range farNumbers() {
			l := []api.Pair{{Source: source, Seq: seq}}
			for _, n := range farNumbers() {
				checkPair(t, l, api.Pair{Source: source, Seq: n})
				checkPair(t, l, api.Pair{Source: n, Seq: seq})
				checkPair(t, l, api.Pair{Source: seq, Seq: source})
			}
		}
	}
}

// P16.4: lists of each length, with repetitions.
func TestRandomPairs(t *testing.T) {
	source := newSource()
	for length := range 2 * mostPairs {
		for range 300 {
			kinds := 1 + source.IntN(40)
			checkPair(t, randomPairs(source, length, kinds), randomPair(source, kinds))
		}
	}
}

// P16.5: a frame that is alone in its queue is given up after eight failures.
func TestEightFailures(t *testing.T) {
	for _, urgent := range []bool{false, true} {
		q, _ := mac.Put(nil, frame(urgent, "a"))
		ticks := 0
		for failure := 1; failure <= 8; failure++ {
			for mac.Next(q) < 0 {
				q = mac.Tick(q)
				ticks++
			}
			after, isOver := mac.Result(q, mac.Next(q), false)
			if isOver != (failure == 8) || (len(after) == 0) != isOver {
				t.Fatalf("failure %d: got %v, %t", failure, after, isOver)
			}
			q = after
		}
		want := 1 + 2 + 3 + 4 + 4 + 4 + 4
		if urgent {
			want = 0
		}
		if ticks != want {
			t.Fatalf("urgent %t: got %d ticks, want %d", urgent, ticks, want)
		}
	}
}

// diary follows a queue that began empty, by what P16.5 says of it. The frames are
// numbered by Seq.
type diary struct {
	queue    []api.Sending
	next     int
	failures map[int]int // of each frame of the queue
}

// check checks that the queue is what it should be.
func (d *diary) check(t *testing.T) {
	t.Helper()
	if len(d.queue) > most || len(d.queue) != len(d.failures) {
		t.Fatalf("there are %d entries, not %d", len(d.queue), len(d.failures))
	}
	isOrdinarySeen := false
	for _, entry := range d.queue {
		if entry.Frame.Urgent && (isOrdinarySeen || entry.Wait != 0) {
			t.Fatalf("an urgent entry stands behind others, or waits: %v", d.queue)
		}
		isOrdinarySeen = isOrdinarySeen || !entry.Frame.Urgent
		failures, ok := d.failures[entry.Frame.Seq]
		if !ok || failures != entry.Tries || failures > 7 {
			t.Fatalf("of the %d failures of the frame %d, %d were counted", failures, entry.Frame.Seq, entry.Tries)
		}
	}
	d.checkTicks(t)
}

// checkTicks checks that all entries are ready after four ticks.
func (d *diary) checkTicks(t *testing.T) {
	t.Helper()
	later := mac.Tick(mac.Tick(mac.Tick(mac.Tick(d.queue))))
	if len(later) != len(d.queue) {
		t.Fatalf("%d of %d entries are left after four ticks", len(later), len(d.queue))
	}
	for i := range later {
		checkNext(t, later[i:], 0)
	}
}

// put puts a frame, and forgets the one that loses its place.
func (d *diary) put(t *testing.T, urgent bool) {
	t.Helper()
	f := frame(urgent, "")
	f.Seq = d.next
	d.next++
	isFull := len(d.queue) == most
	untried := slices.ContainsFunc(d.queue, isUntried)
	after, ok := mac.Put(d.queue, f)
	if want := !isFull || urgent && untried; ok != want {
		t.Fatalf("Put(%v, %v): got %t", d.queue, f, ok)
	}
	if ok && isFull {
		delete(d.failures, d.lost(after))
	}
	if ok {
		d.failures[f.Seq] = 0
	}
	d.queue = after
}

// lost returns the number of the last frame of the queue that is not among the entries.
func (d *diary) lost(after []api.Sending) int {
	lost := -1
	for _, entry := range d.queue {
		if !slices.Contains(after, entry) {
			lost = entry.Frame.Seq
		}
	}
	return lost
}

// transmit transmits the next entry, or another one that is ready.
func (d *diary) transmit(t *testing.T, source *rand.Rand, ok bool) {
	t.Helper()
	at := mac.Next(d.queue)
	if at < 0 {
		return
	}
	if other := source.IntN(len(d.queue)); d.queue[other].Wait == 0 {
		at = other
	}
	seq := d.queue[at].Frame.Seq
	after, isOver := mac.Result(d.queue, at, ok)
	if !ok {
		d.failures[seq]++
	}
	if want := !ok && d.failures[seq] == 8; isOver != want {
		t.Fatalf("Result(%v, %d, %t): got %t after %d failures", d.queue, at, ok, isOver, d.failures[seq])
	}
	if ok || isOver {
		delete(d.failures, seq)
	}
	d.queue = after
}

// P16.5: long sequences that begin with the empty queue.
func TestSequences(t *testing.T) {
	source := newSource()
	for round := range 80 {
		d := diary{failures: map[int]int{}}
		luck, urgency := source.IntN(10), 1+round%5
		for range 800 {
			switch action := source.IntN(12); {
			case action < 3:
				d.put(t, source.IntN(10) < urgency)
			case action < 9:
				d.transmit(t, source, source.IntN(10) < luck)
			default:
				d.queue = mac.Tick(d.queue)
			}
			d.check(t)
		}
		checkAll(t, d.queue)
	}
}

// P16.5: full queues, in which urgent frames take the places of others.
func TestSequencesOfPuts(t *testing.T) {
	source := newSource()
	for bits := range 1 << 12 {
		d := diary{failures: map[int]int{}}
		for i := range 3 * most {
			d.put(t, bits>>(i%12)%2 == 1)
			if i%5 == 0 {
				d.transmit(t, source, false)
			}
			d.check(t)
		}
	}
}

// P16.5: a pair is known for the next 31 different pairs, and forgotten with the next
// one.
func TestFreshIsRemembered(t *testing.T) {
	source := newSource()
	p := api.Pair{Source: 9, Seq: 9}
	for range 300 {
		l := randomPairs(source, source.IntN(70), 40)
		l, ok := mac.Fresh(l, p)
		if !ok {
			t.Fatalf("%v is not fresh: %v", p, l)
		}
		l = follow(t, source, l, p)
		checkFresh(t, l, p, l, false)
		l, _ = mac.Fresh(l, api.Pair{Source: 5, Seq: 31})
		checkFresh(t, l, p, slices.Concat(l[1:], []api.Pair{p}), true)
	}
}

// follow passes 31 different pairs to Fresh, and between them some again that are
// known, like p.
func follow(t *testing.T, source *rand.Rand, l []api.Pair, p api.Pair) []api.Pair {
	t.Helper()
	for seq := range 31 {
		l, _ = mac.Fresh(l, api.Pair{Source: 5, Seq: seq})
		for range source.IntN(3) {
			again := api.Pair{Source: 5, Seq: source.IntN(seq + 1)}
			checkFresh(t, l, again, l, false)
		}
		checkFresh(t, l, p, l, false)
	}
	return l
}

// P16.5: each pair that comes again soon is known.
func TestSequencesOfPairs(t *testing.T) {
	source := newSource()
	for kinds := range 30 {
		var l, came []api.Pair
		for range 600 {
			p := randomPair(source, kinds+1)
			after, ok := mac.Fresh(l, p)
			// Those that were fresh came one after the other.
			known := slices.Contains(came[max(0, len(came)-mostPairs):], p)
			if ok == known {
				t.Fatalf("Fresh(%v, %v): got %t", l, p, ok)
			}
			if ok {
				came = append(came, p)
			}
			if want := came[max(0, len(came)-mostPairs):]; !slices.Equal(after, want) {
				t.Fatalf("Fresh(%v, %v): got %v, want %v", l, p, after, want)
			}
			l = after
		}
	}
}

// results returns the queues that the functions return.
func results(q []api.Sending, i int) [][]api.Sending {
	put, _ := mac.Put(q, frame(false, "x"))
	urgent, _ := mac.Put(q, frame(true, "x"))
	succeeded, _ := mac.Result(q, i, true)
	failed, _ := mac.Result(q, i, false)
	none, _ := mac.Result(q, -1, true)
	return [][]api.Sending{put, urgent, succeeded, failed, none, mac.Tick(q)}
}

// R5: queues that are returned are new memory, and the space behind an argument is not
// used.
func TestMemory(t *testing.T) {
	source := newSource()
	behind := api.Sending{Frame: frame(true, "behind"), Wait: 99}
	spoilt := api.Sending{Frame: frame(true, "spoilt"), Wait: -1}
	for range 6000 {
		length := source.IntN(most + 4)
		whole := append(randomQueue(source, length), slices.Repeat([]api.Sending{behind}, 20)...)
		if source.IntN(3) == 0 {
			for i := range whole {
				whole[i].Frame.Urgent = i != source.IntN(most)
			}
		}
		q := whole[:length]
		before := slices.Clone(whole)
		at := source.IntN(most)
		for i, after := range results(q, at) {
			for k := range after {
				after[k] = spoilt
			}
			_ = append(after, spoilt)
			if !slices.Equal(whole, before) {
				t.Fatalf("result %d: the list %v was changed to %v", i, before, whole)
			}
		}
		after := results(q, at)
		want := results(slices.Clone(q), at)
		for i := range whole {
			whole[i] = spoilt
		}
		if !slices.EqualFunc(after, want, slices.Equal) {
			t.Fatalf("with the list, its results change from %v to %v", want, after)
		}
	}
}

// R5: the same for lists of pairs.
func TestMemoryOfPairs(t *testing.T) {
	source := newSource()
	spoilt := api.Pair{Source: -1, Seq: -1}
	for range 6000 {
		length := source.IntN(mostPairs + 8)
		whole := append(randomPairs(source, length, 40), pairs(9, 1, 20)...)
		l, p := whole[:length], randomPair(source, 40)
		before := slices.Clone(whole)
		after, _ := mac.Fresh(l, p)
		for k := range after {
			after[k] = spoilt
		}
		_ = append(after, spoilt)
		if !slices.Equal(whole, before) {
			t.Fatalf("the list %v was changed to %v", before, whole)
		}
		after, _ = mac.Fresh(l, p)
		want := slices.Clone(after)
		for i := range whole {
			whole[i] = spoilt
		}
		if !slices.Equal(after, want) {
			t.Fatalf("with the list, its result changes from %v to %v", want, after)
		}
	}
}

// R4
func TestNilAndEmptyAreTheSame(t *testing.T) {
	for _, q := range [][]api.Sending{nil, {}, make([]api.Sending, 0, 9)} {
		for _, urgent := range []bool{false, true} {
			f := frame(urgent, "a")
			checkPut(t, q, f, []api.Sending{{Frame: f}}, true)
		}
		checkNext(t, q, -1)
		checkTick(t, q, nil)
		for _, i := range farNumbers() {
			checkResult(t, q, i, true, nil, false)
			checkResult(t, q, i, false, nil, false)
		}
	}
	for _, l := range [][]api.Pair{nil, {}, make([]api.Pair, 0, 9)} {
		checkFresh(t, l, api.Pair{Source: 1, Seq: 2}, pairs(1, 2, 2), true)
	}
}

// R7
func TestCallsAreIndependent(t *testing.T) {
	source := newSource()
	for range 500 {
		q, l, p := randomQueue(source, 12), randomPairs(source, 12, 40), randomPair(source, 40)
		first := results(q, 3)
		firstPairs, _ := mac.Fresh(l, p)
		checkAll(t, randomQueue(source, most))
		checkPair(t, randomPairs(source, mostPairs, 40), p)
		if again := results(q, 3); !slices.EqualFunc(first, again, slices.Equal) {
			t.Fatalf("%v: got %v, and then %v", q, first, again)
		}
		if again, _ := mac.Fresh(l, p); !slices.Equal(firstPairs, again) {
			t.Fatalf("%v: got %v, and then %v", l, firstPairs, again)
		}
	}
}
