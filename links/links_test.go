package links_test

import (
	"math"
	"math/rand/v2"
	"slices"
	"strings"
	"testing"

	"homehub/api"
	"homehub/links"
)

const (
	most     = 24  // entries of a table
	mostNode = 250 // the greatest address
	stored   = 16  // results of an entry
	noCost   = 255
)

// histories is a model of a table: for each neighbor, its results as letters, y
// for a success and n for a failure, the latest one last.
type histories map[int]string

// checked returns what Check returns. The ends of the range of Bits are compared
// after a division, so that no power of two is needed.
func checked(l []api.Link) api.Errno {
	if len(l) > 24 {
		return api.ErrLimit
	}
	previous := -1
	for _, entry := range l {
		if entry.Node < 0 || entry.Node > 250 || entry.Count < 0 || entry.Count > 16 || entry.Bits < 0 {
			return api.ErrRange
		}
		rest := entry.Bits
		for range entry.Count {
			rest /= 2
		}
		if rest > 0 {
			return api.ErrRange
		}
		if entry.Node <= previous {
			return api.ErrOrder
		}
		previous = entry.Node
	}
	return api.OK
}

// read returns the histories of a table.
func read(l []api.Link) histories {
	h := histories{}
	if checked(l) != api.OK {
		return h
	}
	for _, entry := range l {
		results, rest := "", entry.Bits
		for range entry.Count {
			results = string("ny"[rest%2]) + results
			rest /= 2
		}
		h[entry.Node] = results
	}
	return h
}

// table returns the table of these histories.
func (h histories) table() []api.Link {
	var l []api.Link
	for node := range 251 {
		results, ok := h[node]
		if !ok {
			continue
		}
		entry := api.Link{Node: node}
		for _, letter := range results {
			entry.Bits *= 2
			if letter == 'y' {
				entry.Bits++
			}
			entry.Count++
		}
		l = append(l, entry)
	}
	return l
}

// seen returns what Seen returns.
func seen(l []api.Link, node int, ok bool) []api.Link {
	h := read(l)
	results, known := h[node]
	if node >= 0 && node <= 250 && (known || len(h) < 24) {
		if ok {
			results += "y"
		} else {
			results += "n"
		}
		h[node] = results[max(len(results)-16, 0):]
	}
	return h.table()
}

// forgotten returns what Forget returns.
func forgotten(l []api.Link, node int) []api.Link {
	h := read(l)
	delete(h, node)
	return h.table()
}

// cost returns what Cost returns: the least number that, times the successes, is
// at least ten times the results.
func cost(l []api.Link, node int) int {
	results := read(l)[node]
	successes := strings.Count(results, "y")
	if successes == 0 {
		return 255
	}
	n := 0
	for n*successes < 10*len(results) {
		n++
	}
	return n
}

// quality returns what Quality returns: the greatest number that, times the
// results, is at most a hundred times the successes.
func quality(l []api.Link, node int) int {
	results := read(l)[node]
	if results == "" {
		return 0
	}
	n := 100
	for n*len(results) > 100*strings.Count(results, "y") {
		n--
	}
	return n
}

// best returns what Best returns: the neighbors of each cost in turn.
func best(l []api.Link) []int {
	ofCost := map[int][]int{}
	for _, entry := range read(l).table() {
		n := cost([]api.Link{entry}, entry.Node)
		ofCost[n] = append(ofCost[n], entry.Node)
	}
	var nodes []int
	for n := range 255 {
		nodes = append(nodes, ofCost[n]...)
	}
	return nodes
}

// The first difference ends a test, as some of them compare very many tables.

func checkCheck(t *testing.T, l []api.Link, want api.Errno) {
	t.Helper()
	if got := links.Check(l); got != want {
		t.Fatalf("Check(%v): got %d, want %d", l, got, want)
	}
}

func checkSeen(t *testing.T, l []api.Link, node int, ok bool, want []api.Link) {
	t.Helper()
	if got := links.Seen(l, node, ok); !slices.Equal(got, want) {
		t.Fatalf("Seen(%v, %d, %t): got %v, want %v", l, node, ok, got, want)
	}
}

func checkForget(t *testing.T, l []api.Link, node int, want []api.Link) {
	t.Helper()
	if got := links.Forget(l, node); !slices.Equal(got, want) {
		t.Fatalf("Forget(%v, %d): got %v, want %v", l, node, got, want)
	}
}

func checkCost(t *testing.T, l []api.Link, node, want int) {
	t.Helper()
	if got := links.Cost(l, node); got != want {
		t.Fatalf("Cost(%v, %d): got %d, want %d", l, node, got, want)
	}
}

func checkQuality(t *testing.T, l []api.Link, node, want int) {
	t.Helper()
	if got := links.Quality(l, node); got != want {
		t.Fatalf("Quality(%v, %d): got %d, want %d", l, node, got, want)
	}
}

func checkBest(t *testing.T, l []api.Link, want []int) {
	t.Helper()
	if got := links.Best(l); !slices.Equal(got, want) {
		t.Fatalf("Best(%v): got %v, want %v", l, got, want)
	}
}

// checkNode compares the functions that concern a neighbor with their models.
func checkNode(t *testing.T, l []api.Link, node int) {
	t.Helper()
	checkSeen(t, l, node, true, seen(l, node, true))
	checkSeen(t, l, node, false, seen(l, node, false))
	checkForget(t, l, node, forgotten(l, node))
	checkCost(t, l, node, cost(l, node))
	checkQuality(t, l, node, quality(l, node))
}

// checkTable compares all functions with their models.
func checkTable(t *testing.T, l []api.Link, nodes ...int) {
	t.Helper()
	before := slices.Clone(l)
	checkCheck(t, l, checked(l))
	checkBest(t, l, best(l))
	for _, node := range nodes {
		checkNode(t, l, node)
	}
	if !slices.Equal(l, before) {
		t.Fatalf("the table %v was changed to %v", before, l)
	}
}

// farNodes are addresses at the ends of their range and outside it.
func farNodes() []int {
	return []int{0, 1, 249, 250, 251, 254, 255, 256, -1, -2, 1 << 32, 1<<32 + 1, math.MinInt, math.MaxInt}
}

// everyNode returns all addresses, and some outside.
func everyNode() []int {
	var nodes []int
	for node := -5; node <= mostNode+10; node++ {
		nodes = append(nodes, node)
	}
	return nodes
}

func newSource() *rand.Rand {
	return rand.New(rand.NewPCG(10, 1))
}

// randomEntry returns a valid entry; some have no result, some as many as fit.
func randomEntry(source *rand.Rand, node int) api.Link {
	count := min(source.IntN(stored+5), stored)
	bits := source.IntN(1 << count)
	switch source.IntN(8) {
	case 0:
		bits = 0
	case 1:
		bits = 1<<count - 1
	}
	return api.Link{Node: node, Bits: bits, Count: count}
}

// randomTable returns a valid table of this length. In some of them the neighbors
// stand close together.
func randomTable(source *rand.Rand, length int) []api.Link {
	span := mostNode + 1
	if source.IntN(2) == 0 {
		span = max(length, min(length+3, span))
	}
	var l []api.Link
	nodes := source.Perm(span)[:length]
	slices.Sort(nodes)
	for _, node := range nodes {
		l = append(l, randomEntry(source, node))
	}
	return l
}

// fullTable returns a valid table of 24 entries, of the neighbors 10, 20 .. 240.
func fullTable(source *rand.Rand) []api.Link {
	var l []api.Link
	for i := range most {
		l = append(l, randomEntry(source, 10*i+10))
	}
	return l
}

// spoil changes a field of an entry, mostly so that the table is not valid.
func spoil(source *rand.Rand, entry *api.Link) {
	switch source.IntN(4) {
	case 0:
		entry.Node = []int{-1, 0, 250, 251, math.MinInt, math.MaxInt}[source.IntN(6)]
	case 1:
		entry.Count = []int{-1, 0, 15, 16, 17, 63, 64, math.MinInt, math.MaxInt}[source.IntN(9)]
	case 2:
		entry.Bits = []int{-1, 0, 65535, 65536, math.MinInt, math.MaxInt}[source.IntN(6)]
	case 3:
		entry.Bits = 1<<(uint(entry.Count)%64) - source.IntN(2)
	}
}

// The chapter's examples: P10.2, P10.3.
func TestExamples(t *testing.T) {
	l := links.Seen(links.Seen(links.Seen(nil, 5, true), 5, false), 5, true)
	if want := []api.Link{{Node: 5, Bits: 5, Count: 3}}; !slices.Equal(l, want) {
		t.Fatalf("got %v, want %v", l, want)
	}
	checkCost(t, l, 5, 15)
	checkQuality(t, l, 5, 66)
	checkBest(t, l, []int{5})
	l = links.Seen(l, 2, false)
	if want := []api.Link{{Node: 2, Bits: 0, Count: 1}, {Node: 5, Bits: 5, Count: 3}}; !slices.Equal(l, want) {
		t.Fatalf("got %v, want %v", l, want)
	}
	checkCost(t, l, 2, noCost)
	checkQuality(t, l, 2, 0)
	checkBest(t, l, []int{5})
	checkForget(t, l, 5, []api.Link{{Node: 2, Bits: 0, Count: 1}})
}

// P10.1
func TestCheckOfEachError(t *testing.T) {
	full := fullTable(newSource())
	spoilt := slices.Clone(full)
	spoilt[0].Node = -1
	for _, row := range []struct {
		l    []api.Link
		want api.Errno
	}{
		{nil, api.OK},
		{[]api.Link{}, api.OK},
		{full, api.OK},
		{append(slices.Clone(full), api.Link{Node: 250}), api.ErrLimit},
		{append(slices.Clone(spoilt), api.Link{Node: 250}), api.ErrLimit},
		{append(slices.Clone(full), full...), api.ErrLimit},
		{make([]api.Link, 25), api.ErrLimit},
		{make([]api.Link, 24), api.ErrOrder},
		{[]api.Link{{}}, api.OK},
		{[]api.Link{{Node: 0}, {Node: 1}, {Node: 250}}, api.OK},
		{[]api.Link{{Node: 250, Bits: 65535, Count: 16}}, api.OK},
		{[]api.Link{{Node: 251}}, api.ErrRange},
		{[]api.Link{{Node: 255}}, api.ErrRange},
		{[]api.Link{{Node: -1}}, api.ErrRange},
		{[]api.Link{{Count: -1}}, api.ErrRange},
		{[]api.Link{{Count: 17}}, api.ErrRange},
		{[]api.Link{{Count: 64, Bits: 1}}, api.ErrRange},
		{[]api.Link{{Count: math.MaxInt}}, api.ErrRange},
		{[]api.Link{{Count: math.MinInt}}, api.ErrRange},
		{[]api.Link{{Bits: 1}}, api.ErrRange},
		{[]api.Link{{Bits: -1}}, api.ErrRange},
		{[]api.Link{{Count: 1, Bits: 1}}, api.OK},
		{[]api.Link{{Count: 1, Bits: 2}}, api.ErrRange},
		{[]api.Link{{Count: 16, Bits: 65536}}, api.ErrRange},
		{[]api.Link{{Count: 16, Bits: -1}}, api.ErrRange},
		{[]api.Link{{Count: 16, Bits: math.MaxInt}}, api.ErrRange},
		{[]api.Link{{Count: 16, Bits: math.MinInt}}, api.ErrRange},
		{[]api.Link{{Node: 1}, {Node: 1}}, api.ErrOrder},
		{[]api.Link{{Node: 2}, {Node: 1}}, api.ErrOrder},
		{[]api.Link{{Node: 2}, {Node: 3}, {Node: 2}}, api.ErrOrder},
		// Within an entry, the range comes first.
		{[]api.Link{{Node: 2}, {Node: 1, Count: 17}}, api.ErrRange},
		{[]api.Link{{Node: 2}, {Node: 1, Bits: 1}}, api.ErrRange},
		{[]api.Link{{Node: 2}, {Node: -1}}, api.ErrRange},
		// Otherwise, the first entry does.
		{[]api.Link{{Node: 2}, {Node: 1}, {Node: 251}}, api.ErrOrder},
		{[]api.Link{{Node: 2}, {Node: 251}, {Node: 1}}, api.ErrRange},
		{[]api.Link{{Node: 251}, {Node: 250}}, api.ErrRange},
	} {
		checkCheck(t, row.l, row.want)
		if row.want != api.OK {
			checkSeen(t, row.l, 7, true, []api.Link{{Node: 7, Bits: 1, Count: 1}})
			checkSeen(t, row.l, 251, true, nil)
			checkForget(t, row.l, 7, nil)
			checkBest(t, row.l, nil)
			for _, node := range []int{0, 1, 2, 10, 250, 251} {
				checkCost(t, row.l, node, noCost)
				checkQuality(t, row.l, node, 0)
			}
		}
		checkTable(t, row.l, append(farNodes(), 2, 7, 10, 125)...)
	}
}

// P10.1: both ends of each range, in both entries.
func TestCheckOfEachRange(t *testing.T) {
	for node := -3; node <= mostNode+8; node++ {
		checkCheck(t, []api.Link{{Node: node}}, checked([]api.Link{{Node: node}}))
		for other := -3; other <= mostNode+8; other++ {
			l := []api.Link{{Node: node, Bits: 1, Count: 1}, {Node: other, Bits: 1, Count: 1}}
			checkCheck(t, l, checked(l))
		}
	}
	for count := -70; count <= 140; count++ {
		for bits := -2; bits <= 1<<17; bits = max(2*bits, bits+1) {
			for _, delta := range []int{-1, 0, 1} {
				l := []api.Link{{Node: 4}, {Node: 5, Bits: bits + delta, Count: count}}
				checkCheck(t, l, checked(l))
			}
		}
	}
}

// P10.2, P10.3, P10.4: every entry.
func TestEveryEntry(t *testing.T) {
	for count := range stored + 1 {
		for bits := range 1 << count {
			checkTable(t, []api.Link{{Node: 5, Bits: bits, Count: count}}, 5)
			checkEffects(t, []api.Link{{Node: 5, Bits: bits, Count: count}}, 5)
		}
	}
}

// P10.3: the extremes.
func TestCostAndQuality(t *testing.T) {
	for _, row := range []struct {
		bits, count, cost, quality int
	}{
		{0, 0, 255, 0},
		{0, 1, 255, 0},
		{0, 16, 255, 0},
		{1, 1, 10, 100},
		{1, 2, 20, 50},
		{2, 2, 20, 50},
		{1, 16, 160, 6},
		{1 << 15, 16, 160, 6},
		{3, 16, 80, 12},
		{7, 16, 54, 18},
		{6, 3, 15, 66},
		{1, 3, 30, 33},
		{127, 8, 12, 87},
		{65534, 16, 11, 93},
		{65535, 16, 10, 100},
	} {
		for _, node := range []int{0, 5, 250} {
			l := []api.Link{{Node: node, Bits: row.bits, Count: row.count}}
			checkCost(t, l, node, row.cost)
			checkQuality(t, l, node, row.quality)
			for _, other := range []int{node - 1, node + 1, 100} {
				checkCost(t, l, other, noCost)
				checkQuality(t, l, other, 0)
			}
			if row.cost == noCost {
				checkBest(t, l, nil)
			} else {
				checkBest(t, l, []int{node})
			}
		}
	}
}

// P10.3: the order of equal costs, and neighbors without a success.
func TestBest(t *testing.T) {
	for _, row := range []struct {
		l    []api.Link
		want []int
	}{
		{nil, nil},
		{[]api.Link{{Node: 1}, {Node: 2, Count: 16}}, nil},
		{[]api.Link{{Node: 0, Bits: 1, Count: 2}, {Node: 1, Bits: 1, Count: 1}, {Node: 2, Count: 1}, {Node: 3, Bits: 3, Count: 2}, {Node: 250, Bits: 5, Count: 4}}, []int{1, 3, 0, 250}},
		{[]api.Link{{Node: 7, Bits: 1, Count: 16}, {Node: 8, Bits: 1 << 15, Count: 16}, {Node: 9, Bits: 3, Count: 16}}, []int{9, 7, 8}},
		// Different shares, but the same cost: 60 / 5, and 80 / 7 rounded up.
		{[]api.Link{{Node: 1, Bits: 31, Count: 6}, {Node: 2, Bits: 127, Count: 8}}, []int{1, 2}},
		{[]api.Link{{Node: 1, Bits: 127, Count: 8}, {Node: 2, Bits: 31, Count: 6}}, []int{1, 2}},
	} {
		checkBest(t, row.l, row.want)
		checkTable(t, row.l)
	}
}

// P10.3: many equal costs.
func TestBestOfManyEqualCosts(t *testing.T) {
	source := newSource()
	for range 2000 {
		l := randomTable(source, most)
		for i := range l {
			l[i].Bits, l[i].Count = 1+source.IntN(3), 2
		}
		checkTable(t, l)
	}
}

// P10.2: every address, in the empty table, in a full one, and in one with free
// space.
func TestEveryNode(t *testing.T) {
	full := fullTable(newSource())
	for _, l := range [][]api.Link{nil, full, full[1:], full[:23], full[5:9]} {
		checkTable(t, l, everyNode()...)
		checkTable(t, l, farNodes()...)
	}
}

// P10.2: a full table takes no more neighbors, but more results.
func TestFullTable(t *testing.T) {
	full := fullTable(newSource())
	for _, ok := range []bool{true, false} {
		for _, node := range []int{0, 9, 11, 239, 241, 250} {
			checkSeen(t, full, node, ok, full)
			checkForget(t, full, node, full)
		}
		for i, entry := range full {
			want := slices.Clone(full)
			want[i] = seen([]api.Link{entry}, entry.Node, ok)[0]
			checkSeen(t, full, entry.Node, ok, want)
			// Once a neighbor is forgotten, there is space for one.
			rest := links.Forget(full, entry.Node)
			if len(rest) != most-1 {
				t.Fatalf("%d entries are left", len(rest))
			}
			if grown := links.Seen(rest, 250, ok); len(grown) != most || grown[most-1].Node != 250 {
				t.Fatalf("Seen(%v, 250, %t): got %v", rest, ok, grown)
			}
		}
	}
}

// P10.2: addresses out of range are no neighbors, not those at the ends of the
// range.
func TestNodesOutOfRange(t *testing.T) {
	l := []api.Link{{Node: 0, Bits: 1, Count: 1}, {Node: 250, Bits: 1, Count: 1}}
	for _, node := range []int{-1, 251, 255, 256, math.MinInt, math.MaxInt} {
		checkSeen(t, l, node, true, l)
		checkSeen(t, l, node, false, l)
		checkSeen(t, nil, node, true, nil)
		checkForget(t, l, node, l)
		checkCost(t, l, node, noCost)
		checkQuality(t, l, node, 0)
	}
}

// P10.2, P10.4: tables of each length.
func TestRandomTables(t *testing.T) {
	source := newSource()
	for length := range most + 1 {
		for range 40 {
			l := randomTable(source, length)
			nodes := []int{source.IntN(mostNode + 1), source.IntN(length + 4)}
			for _, entry := range l {
				nodes = append(nodes, entry.Node)
			}
			checkTable(t, l, nodes...)
			for _, node := range nodes {
				checkEffects(t, l, node)
			}
		}
	}
}

// P10.1, P10.2, P10.3: tables that are mostly not valid.
func TestSpoiltTables(t *testing.T) {
	source := newSource()
	for range 5000 {
		l := randomTable(source, 1+source.IntN(most))
		for range 1 + source.IntN(2) {
			i, k := source.IntN(len(l)), source.IntN(len(l))
			switch source.IntN(3) {
			case 0:
				l[i], l[k] = l[k], l[i]
			case 1:
				l[i].Node = l[k].Node
			case 2:
				spoil(source, &l[i])
			}
		}
		i := source.IntN(len(l))
		checkTable(t, l, l[i].Node, l[0].Node, source.IntN(mostNode+1))
		checkEffects(t, l, l[i].Node)
	}
}

// checkEffects checks what P10.4 says of one result.
func checkEffects(t *testing.T, l []api.Link, node int) {
	t.Helper()
	before := links.Cost(l, node)
	better, worse, without := links.Seen(l, node, true), links.Seen(l, node, false), links.Forget(l, node)
	for _, after := range [][]api.Link{better, worse, without} {
		checkCheck(t, after, api.OK)
		checkOthers(t, l, after, node)
	}
	if n := links.Cost(better, node); n > before {
		t.Fatalf("a success of %d in %v increases its cost from %d to %d", node, l, before, n)
	}
	if n := links.Cost(worse, node); n < before {
		t.Fatalf("a failure of %d in %v decreases its cost from %d to %d", node, l, before, n)
	}
}

// checkOthers checks that the costs of all other neighbors are the same in two
// tables.
func checkOthers(t *testing.T, before, after []api.Link, node int) {
	t.Helper()
	for _, entry := range slices.Concat(before, after) {
		if entry.Node != node && links.Cost(before, entry.Node) != links.Cost(after, entry.Node) {
			t.Fatalf("from %v to %v, the cost of %d changes besides that of %d", before, after, entry.Node, node)
		}
	}
}

// P10.4: 16 successes in a row, and 15, which need not be enough.
func TestSuccessesInARow(t *testing.T) {
	source := newSource()
	for range 1000 {
		l := randomTable(source, 1+source.IntN(most))
		node := l[source.IntN(len(l))].Node
		if len(l) < most && source.IntN(3) == 0 {
			node = source.IntN(mostNode + 1)
		}
		failed := links.Seen(l, node, false)
		for range stored - 1 {
			l, failed = links.Seen(l, node, true), links.Seen(failed, node, true)
		}
		checkCost(t, failed, node, 11)
		checkQuality(t, failed, node, 93)
		for range 5 {
			l, failed = links.Seen(l, node, true), links.Seen(failed, node, true)
			checkCost(t, l, node, 10)
			checkQuality(t, l, node, 100)
			checkCost(t, failed, node, 10)
			checkQuality(t, failed, node, 100)
		}
	}
}

// P10.2: long sequences of results and removals.
func TestSequences(t *testing.T) {
	source := newSource()
	for range 20 {
		var l []api.Link
		h := histories{}
		for range 500 {
			node := source.IntN(40) - 2
			ok := source.IntN(3) > 0
			if source.IntN(12) == 0 {
				l = links.Forget(l, node)
				delete(h, node)
			} else {
				l = links.Seen(l, node, ok)
				h = read(seen(h.table(), node, ok))
			}
			if !slices.Equal(l, h.table()) {
				t.Fatalf("got %v, want %v", l, h.table())
			}
		}
		checkTable(t, l, everyNode()...)
	}
}

// R5: results are new memory, and the space behind an argument is not used.
func TestMemory(t *testing.T) {
	source := newSource()
	for range 500 {
		behind := api.Link{Node: 99, Bits: 99, Count: 99}
		whole := append(randomTable(source, 1+source.IntN(most)), behind, behind)
		l := whole[:len(whole)-2]
		before := slices.Clone(whole)
		node := l[source.IntN(len(l))].Node
		for _, after := range [][]api.Link{
			links.Seen(l, node, true), links.Seen(l, node, false), links.Seen(l, source.IntN(251), true), links.Seen(l, 251, true),
			links.Forget(l, node), links.Forget(l, source.IntN(251)), links.Forget(l, 251),
			links.Seen(whole, 251, true), links.Forget(whole, 251),
		} {
			for i := range after {
				after[i] = api.Link{Node: -1, Bits: -1, Count: -1}
			}
			_ = append(after, behind)
		}
		checkBest(t, l, best(l))
		if !slices.Equal(whole, before) {
			t.Fatalf("the table %v was changed to %v", before, whole)
		}
	}
}

// R4
func TestNilAndEmptyAreTheSame(t *testing.T) {
	for _, l := range [][]api.Link{nil, {}, make([]api.Link, 0, 9)} {
		checkCheck(t, l, api.OK)
		checkSeen(t, l, 0, true, []api.Link{{Node: 0, Bits: 1, Count: 1}})
		checkSeen(t, l, 250, false, []api.Link{{Node: 250, Count: 1}})
		checkTable(t, l, farNodes()...)
	}
}

// R7
func TestCallsAreIndependent(t *testing.T) {
	source := newSource()
	for range 500 {
		l, other := randomTable(source, 9), randomTable(source, 12)
		node := l[source.IntN(len(l))].Node
		grown, nodes := links.Seen(l, node, true), links.Best(l)
		checkTable(t, other, node)
		checkSeen(t, l, node, true, grown)
		checkBest(t, l, nodes)
	}
}
