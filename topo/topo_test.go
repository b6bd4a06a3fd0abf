package topo_test

import (
	"math"
	"math/rand/v2"
	"slices"
	"testing"

	"homehub/api"
	"homehub/topo"
)

const (
	mostEdges = 256 // of a list that Check accepts
	mostNode  = 250 // the greatest address
)

// The models search the list itself, in rounds, and do not know of neighbors.

func valid(e api.Edge) bool {
	return e.A >= 0 && e.A <= 250 && e.B >= 0 && e.B <= 250 && e.A != e.B
}

// same tells whether two edges are the same link.
func same(e, f api.Edge) bool {
	return e == f || e.A == f.B && e.B == f.A
}

// checked returns what Check returns.
func checked(l []api.Edge) api.Errno {
	if len(l) > 256 {
		return api.ErrLimit
	}
	for i, e := range l {
		if !valid(e) {
			return api.ErrRange
		}
		if slices.ContainsFunc(l[:i], func(f api.Edge) bool { return same(e, f) }) {
			return api.ErrDup
		}
	}
	return api.OK
}

// linked tells whether a list has a link of two nodes.
func linked(l []api.Edge, a, b int) bool {
	return slices.ContainsFunc(l, func(e api.Edge) bool { return valid(e) && same(e, api.Edge{A: a, B: b}) })
}

// near returns what Near returns.
func near(l []api.Edge, n int) []int {
	var nodes []int
	for m := range 251 {
		if linked(l, n, m) {
			nodes = append(nodes, m)
		}
	}
	return nodes
}

// distances returns the nodes that can be reached from one, with their distances.
// In each round, each link leads from what was found before to one more node.
func distances(l []api.Edge, from int) map[int]int {
	found := map[int]int{}
	if from < 0 || from > 250 {
		return found
	}
	found[from] = 0
	for round := 1; ; round++ {
		before := len(found)
		for _, e := range l {
			if !valid(e) {
				continue
			}
			lead(found, e.A, e.B, round)
			lead(found, e.B, e.A, round)
		}
		if len(found) == before {
			return found
		}
	}
}

// lead adds the other end of a link, if one end was found before this round.
func lead(found map[int]int, a, b, round int) {
	hops, ok := found[a]
	if _, known := found[b]; ok && hops < round && !known {
		found[b] = round
	}
}

// reach returns what Reach returns.
func reach(l []api.Edge, from int) []int {
	found := distances(l, from)
	var nodes []int
	for m := range 251 {
		if _, ok := found[m]; ok {
			nodes = append(nodes, m)
		}
	}
	return nodes
}

// hops returns what Hops returns.
func hops(l []api.Edge, a, b int) int {
	n, ok := distances(l, a)[b]
	if ok {
		return n
	}
	return -1
}

// depth returns what Depth returns.
func depth(l []api.Edge, root int) int {
	greatest := 0
	for _, n := range distances(l, root) {
		if n > greatest {
			greatest = n
		}
	}
	return greatest
}

// without returns what Without returns.
func without(l []api.Edge, off []int) []api.Edge {
	return slices.DeleteFunc(slices.Clone(l), func(e api.Edge) bool {
		return !valid(e) || slices.Contains(off, e.A) || slices.Contains(off, e.B)
	})
}

// cut returns what Cut returns.
func cut(l []api.Edge, root int) []int {
	var nodes []int
	before := reach(l, root)
	for _, c := range before {
		left := distances(without(l, []int{c}), root)
		isLost := func(n int) bool {
			_, ok := left[n]
			return n != c && !ok
		}
		if c != root && slices.ContainsFunc(before, isLost) {
			nodes = append(nodes, c)
		}
	}
	return nodes
}

// parent returns what Parent returns.
func parent(l []api.Edge, root, n int) int {
	found := distances(l, root)
	for m := range 251 {
		up, ok := found[m]
		if down, known := found[n]; ok && known && up == down-1 && linked(l, m, n) {
			return m
		}
	}
	return -1
}

// The first difference ends a test, as some of them compare very many graphs.

func checkCheck(t *testing.T, l []api.Edge, want api.Errno) {
	t.Helper()
	if got := topo.Check(l); got != want {
		t.Fatalf("Check(%v): got %d, want %d", l, got, want)
	}
}

func checkNear(t *testing.T, l []api.Edge, n int, want ...int) {
	t.Helper()
	if got := topo.Near(l, n); !slices.Equal(got, want) {
		t.Fatalf("Near(%v, %d): got %v, want %v", l, n, got, want)
	}
}

func checkReach(t *testing.T, l []api.Edge, from int, want ...int) {
	t.Helper()
	if got := topo.Reach(l, from); !slices.Equal(got, want) {
		t.Fatalf("Reach(%v, %d): got %v, want %v", l, from, got, want)
	}
}

func checkHops(t *testing.T, l []api.Edge, a, b, want int) {
	t.Helper()
	if got := topo.Hops(l, a, b); got != want {
		t.Fatalf("Hops(%v, %d, %d): got %d, want %d", l, a, b, got, want)
	}
}

func checkDepth(t *testing.T, l []api.Edge, root, want int) {
	t.Helper()
	if got := topo.Depth(l, root); got != want {
		t.Fatalf("Depth(%v, %d): got %d, want %d", l, root, got, want)
	}
}

func checkWithout(t *testing.T, l []api.Edge, off []int, want ...api.Edge) {
	t.Helper()
	if got := topo.Without(l, off); !slices.Equal(got, want) {
		t.Fatalf("Without(%v, %v): got %v, want %v", l, off, got, want)
	}
}

func checkCut(t *testing.T, l []api.Edge, root int, want ...int) {
	t.Helper()
	if got := topo.Cut(l, root); !slices.Equal(got, want) {
		t.Fatalf("Cut(%v, %d): got %v, want %v", l, root, got, want)
	}
}

func checkParent(t *testing.T, l []api.Edge, root, n, want int) {
	t.Helper()
	if got := topo.Parent(l, root, n); got != want {
		t.Fatalf("Parent(%v, %d, %d): got %d, want %d", l, root, n, got, want)
	}
}

// checkNode compares the functions that concern one node with their models.
func checkNode(t *testing.T, l []api.Edge, n int) {
	t.Helper()
	checkNear(t, l, n, near(l, n)...)
	checkReach(t, l, n, reach(l, n)...)
	checkDepth(t, l, n, depth(l, n))
	checkCut(t, l, n, cut(l, n)...)
	checkWithout(t, l, []int{n}, without(l, []int{n})...)
}

// checkPair compares the functions that concern two nodes with their models.
func checkPair(t *testing.T, l []api.Edge, a, b int) {
	t.Helper()
	checkHops(t, l, a, b, hops(l, a, b))
	checkParent(t, l, a, b, parent(l, a, b))
	checkWithout(t, l, []int{a, b}, without(l, []int{a, b})...)
}

// checkAll compares all functions with their models, for the given nodes and all
// pairs of them.
func checkAll(t *testing.T, l []api.Edge, nodes ...int) {
	t.Helper()
	before, nodesBefore := slices.Clone(l), slices.Clone(nodes)
	checkCheck(t, l, checked(l))
	checkWithout(t, l, nil, without(l, nil)...)
	checkWithout(t, l, nodes, without(l, nodes)...)
	for _, a := range nodes {
		checkNode(t, l, a)
		for _, b := range nodes {
			checkPair(t, l, a, b)
		}
	}
	if !slices.Equal(l, before) || !slices.Equal(nodes, nodesBefore) {
		t.Fatalf("arguments were changed: %v to %v, %v to %v", before, l, nodesBefore, nodes)
	}
}

func newSource() *rand.Rand {
	return rand.New(rand.NewPCG(12, 1))
}

// edges returns the edges of pairs of ends.
func edges(pairs ...[2]int) []api.Edge {
	var l []api.Edge
	for _, p := range pairs {
		l = append(l, api.Edge{A: p[0], B: p[1]})
	}
	return l
}

// pathOf returns the links from each of the nodes to the next one.
func pathOf(nodes ...int) []api.Edge {
	var l []api.Edge
	for i := 1; i < len(nodes); i++ {
		l = append(l, api.Edge{A: nodes[i-1], B: nodes[i]})
	}
	return l
}

// fullOf returns a link for each two of the nodes.
func fullOf(nodes ...int) []api.Edge {
	var l []api.Edge
	for i, a := range nodes {
		for _, b := range nodes[:i] {
			l = append(l, api.Edge{A: a, B: b})
		}
	}
	return l
}

// between returns the numbers from one to another.
func between(first, last int) []int {
	var nodes []int
	for n := first; n <= last; n++ {
		nodes = append(nodes, n)
	}
	return nodes
}

// farNodes are addresses at the ends of their range, and numbers outside it.
func farNodes() []int {
	return []int{0, 1, 249, 250, 251, 252, 255, 256, -1, -2, 1 << 32, 1<<32 + 1, math.MinInt, math.MaxInt}
}

// randomNodes returns different addresses, in any order.
func randomNodes(source *rand.Rand, n int) []int {
	return source.Perm(mostNode + 1)[:n]
}

// randomGraph returns some of the links of the nodes, in any order and direction.
func randomGraph(source *rand.Rand, nodes []int, percent int) []api.Edge {
	var l []api.Edge
	for _, e := range fullOf(nodes...) {
		if source.IntN(100) < percent {
			l = append(l, turned(source, e))
		}
	}
	return mixed(source, l)
}

// turned returns an edge or, half of the time, the same link with the ends swapped.
func turned(source *rand.Rand, e api.Edge) api.Edge {
	if source.IntN(2) == 0 {
		return api.Edge{A: e.B, B: e.A}
	}
	return e
}

// mixed returns the edges in another order.
func mixed(source *rand.Rand, l []api.Edge) []api.Edge {
	l = slices.Clone(l)
	source.Shuffle(len(l), func(i, k int) { l[i], l[k] = l[k], l[i] })
	return l
}

// spoilt returns the edges with repeated ones, and ones that are not valid, between
// them.
func spoilt(source *rand.Rand, l []api.Edge) []api.Edge {
	l = slices.Clone(l)
	numbers := append(farNodes(), 5, 5)
	for range 1 + source.IntN(6) {
		e := api.Edge{A: numbers[source.IntN(len(numbers))], B: numbers[source.IntN(len(numbers))]}
		switch {
		case source.IntN(2) == 0 && len(l) > 0:
			e = turned(source, l[source.IntN(len(l))])
		case valid(e):
			e.B = e.A
		}
		l = slices.Insert(l, source.IntN(len(l)+1), e)
	}
	return l
}

// The examples of the chapter.

func TestExampleOfAPath(t *testing.T) {
	l := pathOf(0, 1, 2, 3)
	checkNear(t, l, 1, 0, 2)
	checkHops(t, l, 0, 3, 3)
	checkDepth(t, l, 0, 3)
	checkDepth(t, l, 1, 2)
	checkCut(t, l, 0, 1, 2)
	checkParent(t, l, 0, 3, 2)
}

func TestExampleOfARing(t *testing.T) {
	l := pathOf(0, 1, 2, 3, 0)
	checkHops(t, l, 0, 3, 1)
	checkCut(t, l, 0)
	checkParent(t, l, 0, 2, 1)
}

func TestExampleOfWithout(t *testing.T) {
	l := pathOf(0, 1, 2, 3)
	checkWithout(t, l, []int{1}, api.Edge{A: 2, B: 3})
	checkReach(t, topo.Without(l, []int{1}), 0, 0)
}

func TestExampleOfCheck(t *testing.T) {
	checkCheck(t, edges([2]int{0, 1}, [2]int{1, 0}), api.ErrDup)
	checkCheck(t, edges([2]int{3, 3}), api.ErrRange)
}

// P12.1
func TestCheckOfEachError(t *testing.T) {
	most := fullOf(between(0, 30)...)[:mostEdges]
	more := fullOf(between(0, 30)...)[:mostEdges+1]
	invalid, repeated := slices.Clone(more), slices.Clone(more)
	invalid[0] = api.Edge{A: -1, B: 4}
	repeated[1] = repeated[0]
	for _, row := range []struct {
		l    []api.Edge
		want api.Errno
	}{
		{nil, api.OK},
		{[]api.Edge{}, api.OK},
		{most, api.OK},
		{pathOf(between(0, 250)...), api.OK},
		{fullOf(between(228, 250)...), api.OK},
		{more, api.ErrLimit},
		{invalid, api.ErrLimit},
		{repeated, api.ErrLimit},
		{fullOf(between(0, 250)...), api.ErrLimit},
		{make([]api.Edge, 257), api.ErrLimit},
		{make([]api.Edge, 256), api.ErrRange},
		{invalid[:256], api.ErrRange},
		{repeated[:256], api.ErrDup},
		{edges([2]int{0, 250}), api.OK},
		{edges([2]int{250, 0}), api.OK},
		{edges([2]int{0, 251}), api.ErrRange},
		{edges([2]int{251, 0}), api.ErrRange},
		{edges([2]int{-1, 0}), api.ErrRange},
		{edges([2]int{0, -1}), api.ErrRange},
		{edges([2]int{0, 0}), api.ErrRange},
		{edges([2]int{250, 250}), api.ErrRange},
		{edges([2]int{1, 255}), api.ErrRange},
		{edges([2]int{math.MinInt, math.MaxInt}), api.ErrRange},
		{edges([2]int{1, 1 << 32}), api.ErrRange},
		{edges([2]int{1, 2}, [2]int{1, 2}), api.ErrDup},
		{edges([2]int{1, 2}, [2]int{2, 1}), api.ErrDup},
		{edges([2]int{2, 1}, [2]int{1, 2}), api.ErrDup},
		{edges([2]int{1, 2}, [2]int{2, 3}, [2]int{3, 4}, [2]int{2, 1}), api.ErrDup},
		{edges([2]int{1, 2}, [2]int{2, 3}, [2]int{3, 1}), api.OK},
		// Links that share an end, the sum or the digits of their ends.
		{edges([2]int{1, 12}, [2]int{11, 2}, [2]int{1, 22}, [2]int{3, 10}), api.OK},
		// Within an edge, the range comes first.
		{edges([2]int{3, 251}, [2]int{3, 251}), api.ErrRange},
		{edges([2]int{1, 2}, [2]int{3, 3}, [2]int{3, 3}), api.ErrRange},
		// Otherwise, the first edge does.
		{edges([2]int{1, 2}, [2]int{2, 1}, [2]int{3, 3}), api.ErrDup},
		{edges([2]int{1, 2}, [2]int{3, 3}, [2]int{2, 1}), api.ErrRange},
		{edges([2]int{3, 3}, [2]int{1, 2}, [2]int{1, 2}), api.ErrRange},
	} {
		checkCheck(t, row.l, row.want)
		checkCheck(t, row.l, checked(row.l))
	}
}

// P12.1, P12.2: every two ends, in their range and beyond it.
func TestEveryEdge(t *testing.T) {
	ends := append(between(-3, mostNode+8), math.MinInt, math.MaxInt)
	for _, a := range ends {
		for _, b := range ends {
			l := edges([2]int{a, b})
			checkCheck(t, l, checked(l))
			checkWithout(t, l, nil, without(l, nil)...)
			if valid(l[0]) {
				checkNear(t, l, a, b)
				checkNear(t, l, b, a)
				checkHops(t, l, a, b, 1)
				checkCheck(t, edges([2]int{a, b}, [2]int{b, a}), api.ErrDup)
			} else {
				checkNear(t, l, a)
				checkNear(t, l, b)
			}
		}
	}
}

// P12.1: every edge behind every other one of a few nodes.
func TestEveryTwoEdges(t *testing.T) {
	ends := []int{-1, 0, 1, 2, 249, 250, 251}
	for _, a := range ends {
		for _, b := range ends {
			for _, c := range ends {
				for _, d := range ends {
					checkAll(t, edges([2]int{a, b}, [2]int{c, d}), a, d)
				}
			}
		}
	}
}

// P12.2, P12.3: every address is a node, also without links; no other number is,
// nor does it count as the nearest one.
func TestNodesWithoutLinks(t *testing.T) {
	for _, l := range [][]api.Edge{nil, pathOf(0, 250, 3), edges([2]int{-1, 0}, [2]int{251, 250}, [2]int{-1, 251}, [2]int{7, 7})} {
		for n := -5; n <= mostNode+10; n++ {
			checkNode(t, l, n)
			checkPair(t, l, n, n)
			checkPair(t, l, n, 3)
			checkPair(t, l, 3, n)
		}
		checkAll(t, l, farNodes()...)
	}
	for _, n := range []int{0, 1, 7, 250} {
		checkNear(t, nil, n)
		checkReach(t, nil, n, n)
		checkHops(t, nil, n, n, 0)
		checkHops(t, nil, n, 2, -1)
		checkHops(t, nil, 2, n, -1)
		checkDepth(t, nil, n, 0)
		checkCut(t, nil, n)
		checkParent(t, nil, n, n, -1)
		checkParent(t, nil, n, 2, -1)
	}
}

// P12.2, P12.3
func TestNumbersThatAreNotNodes(t *testing.T) {
	l := edges([2]int{0, 1}, [2]int{250, 0}, [2]int{-1, 0}, [2]int{251, 250}, [2]int{-1, 251}, [2]int{251, 252})
	for _, n := range []int{-1, 251, 252, 255, 256, math.MinInt, math.MaxInt} {
		checkNear(t, l, n)
		checkReach(t, l, n)
		checkHops(t, l, n, n, -1)
		checkHops(t, l, n, 0, -1)
		checkHops(t, l, 0, n, -1)
		checkHops(t, l, 250, n, -1)
		checkDepth(t, l, n, 0)
		checkCut(t, l, n)
		checkParent(t, l, n, 0, -1)
		checkParent(t, l, 0, n, -1)
		checkParent(t, l, 250, n, -1)
		checkParent(t, l, n, n, -1)
		checkWithout(t, l, []int{n}, api.Edge{A: 0, B: 1}, api.Edge{A: 250, B: 0})
	}
	checkReach(t, l, 0, 0, 1, 250)
	checkNear(t, l, 0, 1, 250)
	checkNear(t, l, 250, 0)
	checkCut(t, l, 250, 0)
}

// P12.2 to P12.4: all graphs of five nodes.
func TestEverySmallGraph(t *testing.T) {
	nodes := []int{250, 0, 120, 3, 7}
	links := fullOf(nodes...)
	for chosen := range 1 << len(links) {
		checkAll(t, chosenOf(links, chosen), nodes...)
	}
}

// P12.3: many graphs of six nodes, in which there are more ways around a node.
func TestManyGraphsOfSixNodes(t *testing.T) {
	nodes := []int{4, 249, 11, 0, 200, 50}
	links := fullOf(nodes...)
	for chosen := 0; chosen < 1<<len(links); chosen += 7 {
		l := chosenOf(links, chosen)
		for _, n := range nodes {
			checkCut(t, l, n, cut(l, n)...)
			checkDepth(t, l, n, depth(l, n))
			checkParent(t, l, 0, n, parent(l, 0, n))
		}
	}
}

// chosenOf returns the edges whose bits are set.
func chosenOf(l []api.Edge, chosen int) []api.Edge {
	var some []api.Edge
	for i, e := range l {
		if chosen>>i&1 == 1 {
			some = append(some, e)
		}
	}
	return some
}

// P12.1 to P12.4: graphs of up to 24 nodes, from few links to all, also in lists
// that are not valid.
func TestRandomGraphs(t *testing.T) {
	source := newSource()
	for size := 2; size <= 24; size++ {
		for _, percent := range []int{3, 6, 9, 12, 15, 20, 30, 60, 100} {
			nodes := randomNodes(source, size)
			l := randomGraph(source, nodes, percent)
			some := []int{nodes[0], nodes[size-1], nodes[size/2], source.IntN(mostNode + 1)}
			checkAll(t, l, some...)
			checkAll(t, spoilt(source, l), append(some, 5, 0)...)
		}
	}
}

// P12.3: random trees, with a few links more.
func TestRandomTrees(t *testing.T) {
	source := newSource()
	for round := range 300 {
		nodes := randomNodes(source, 3+source.IntN(20))
		l := treeOf(nodes, func(i int) int { return source.IntN(i) })
		for range round % 4 {
			l = append(l, api.Edge{A: nodes[0], B: nodes[1+source.IntN(len(nodes)-1)]})
		}
		l = mixed(source, l)
		root := nodes[source.IntN(len(nodes))]
		checkNode(t, l, root)
		for _, n := range nodes {
			checkPair(t, l, root, n)
		}
	}
}

// treeOf returns the links from each node but the first one to an earlier one.
func treeOf(nodes []int, earlier func(i int) int) []api.Edge {
	var l []api.Edge
	for i := 1; i < len(nodes); i++ {
		l = append(l, api.Edge{A: nodes[i], B: nodes[earlier(i)]})
	}
	return l
}

// P12.2, P12.3: the path of all nodes.
func TestLongPath(t *testing.T) {
	nodes := between(0, mostNode)
	l := mixed(newSource(), pathOf(nodes...))
	for a := range 251 {
		checkReach(t, l, a, nodes...)
		checkDepth(t, l, a, max(a, 250-a))
		for b := a % 31; b < 251; b += 31 {
			checkHops(t, l, a, b, max(a-b, b-a))
			checkParent(t, l, a, b, stepTo(a, b))
		}
	}
	for _, root := range []int{0, 1, 100, 250} {
		checkCut(t, l, root, slices.DeleteFunc(between(1, 249), func(n int) bool { return n == root })...)
	}
}

// stepTo returns the number next to b that is nearer to a, or -1.
func stepTo(a, b int) int {
	switch {
	case a < b:
		return b - 1
	case a > b:
		return b + 1
	}
	return -1
}

// P12.2, P12.3: a ring of all nodes, and one of 250, in which two ways to the
// opposite node are equally long.
func TestLongRings(t *testing.T) {
	for _, size := range []int{251, 250} {
		nodes := between(0, size-1)
		l := mixed(newSource(), pathOf(append(nodes, 0)...))
		for a := 0; a < size; a += 25 {
			checkReach(t, l, a, nodes...)
			checkDepth(t, l, a, 125)
			for b := range size {
				around := (b - a + size) % size
				checkHops(t, l, a, b, min(around, size-around))
			}
			opposite := (a + 125) % size
			checkParent(t, l, a, opposite, parent(l, a, opposite))
		}
		checkCut(t, l, 0)
		checkCut(t, l, 7)
	}
	l := pathOf(append(between(0, 249), 0)...)
	checkParent(t, l, 0, 125, 124)
	checkParent(t, l, 200, 75, 74)
	checkParent(t, l, 125, 0, 1)
	checkParent(t, l, 124, 249, 0)
}

// P12.2, P12.3: lists of any length, more links than Check accepts among them.
func TestAllLinks(t *testing.T) {
	nodes := between(0, mostNode)
	l := fullOf(nodes...)
	checkCut(t, l, 100)
	for _, n := range []int{0, 100, 250} {
		checkNear(t, l, n, slices.DeleteFunc(between(0, 250), func(m int) bool { return m == n })...)
		checkReach(t, l, n, nodes...)
		checkDepth(t, l, n, 1)
		checkHops(t, l, n, 249, 1)
		checkParent(t, l, n, 249, n)
		checkReach(t, topo.Without(l, []int{n}), n, n)
	}
	if left := topo.Without(l, []int{0}); len(left) != 250*249/2 {
		t.Fatalf("%d links are left", len(left))
	}
}

// P12.2, P12.3: a path in a long list, in which a link of it is repeated very often,
// between edges that are not valid.
func TestLongLists(t *testing.T) {
	l := pathOf(5, 6)
	for range 100000 {
		l = append(l, api.Edge{A: 8, B: 7}, api.Edge{A: 7, B: 8}, api.Edge{A: 0, B: 251})
	}
	l = append(l, pathOf(6, 7)...)
	// Unlike the other checks, this one does not print the list, which is too long.
	checkResults := func(n int, near, reach, cut []int, depth, parent int) {
		if got := topo.Near(l, n); !slices.Equal(got, near) {
			t.Errorf("Near(%d): got %v, want %v", n, got, near)
		}
		if got := topo.Reach(l, n); !slices.Equal(got, reach) {
			t.Errorf("Reach(%d): got %v, want %v", n, got, reach)
		}
		if got := topo.Cut(l, n); !slices.Equal(got, cut) {
			t.Errorf("Cut(%d): got %v, want %v", n, got, cut)
		}
		if got := topo.Depth(l, n); got != depth {
			t.Errorf("Depth(%d): got %d, want %d", n, got, depth)
		}
		if got := topo.Parent(l, 5, n); got != parent {
			t.Errorf("Parent(5, %d): got %d, want %d", n, got, parent)
		}
	}
	all := between(5, 8)
	checkResults(5, []int{6}, all, []int{6, 7}, 3, -1)
	checkResults(6, []int{5, 7}, all, []int{7}, 2, 5)
	checkResults(8, []int{7}, all, []int{6, 7}, 3, 7)
	checkResults(9, nil, []int{9}, nil, 0, -1)
	if left := topo.Without(l, []int{6}); len(left) != 200000 {
		t.Errorf("%d edges are left", len(left))
	}
	if topo.Check(l) != api.ErrLimit {
		t.Error("Check accepts the long list")
	}
}

// P12.3: nodes that many others depend on.
func TestCut(t *testing.T) {
	// A star, seen from its center and from its ends.
	star := treeOf(between(0, 250), func(int) int { return 0 })
	checkCut(t, star, 0)
	checkCut(t, star, 1, 0)
	checkCut(t, star, 250, 0)
	// Two full parts that share a node, or are linked by one edge or by two.
	parts := append(fullOf(between(1, 6)...), fullOf(between(6, 11)...)...)
	checkCut(t, parts, 1, 6)
	checkCut(t, parts, 11, 6)
	checkCut(t, parts, 6)
	parts = append(fullOf(between(1, 6)...), fullOf(between(7, 11)...)...)
	checkCut(t, parts, 1)
	parts = append(parts, api.Edge{A: 11, B: 1})
	checkCut(t, parts, 1, 11)
	checkCut(t, parts, 3, 1, 11)
	checkCut(t, parts, 11, 1)
	checkCut(t, append(parts, api.Edge{A: 8, B: 1}), 3, 1)
	checkCut(t, append(parts, api.Edge{A: 7, B: 5}), 3)
	// What cannot be reached from the root does not count.
	checkCut(t, append(parts, pathOf(20, 21, 22)...), 3, 1, 11)
	checkCut(t, append(parts, pathOf(20, 21, 22)...), 20, 21)
	checkCut(t, append(parts, pathOf(20, 21, 22)...), 21)
	// A binary tree, each node of which has nodes behind it but the last ones.
	tree := treeOf(between(0, 250), func(i int) int { return (i - 1) / 2 })
	checkCut(t, tree, 0, between(1, 124)...)
	checkCut(t, tree, 250, between(0, 124)...)
	checkDepth(t, tree, 0, 7)
	checkDepth(t, tree, 250, 14)
	// In a rectangle there is always another way, but not to what hangs on it.
	grid := edges([2]int{30, 0}, [2]int{31, 19})
	for n := range 20 {
		if n%5 < 4 {
			grid = append(grid, api.Edge{A: n, B: n + 1})
		}
		if n < 15 {
			grid = append(grid, api.Edge{A: n + 5, B: n})
		}
	}
	checkCut(t, grid, 12, 0, 19)
	checkCut(t, grid, 30, 0, 19)
	checkCut(t, grid, 19, 0)
	checkDepth(t, grid, 30, 9)
}

// P12.3: the least one of several parents.
func TestParent(t *testing.T) {
	l := edges([2]int{9, 40}, [2]int{9, 4}, [2]int{30, 9}, [2]int{250, 30}, [2]int{4, 250}, [2]int{250, 40}, [2]int{3, 250}, [2]int{9, 2}, [2]int{2, 1})
	checkParent(t, l, 9, 250, 4)
	checkParent(t, l, 9, 3, 250)
	checkParent(t, l, 9, 40, 9)
	checkParent(t, l, 9, 9, -1)
	// The neighbors 2 and 3 are less, but not nearer.
	checkParent(t, l, 250, 9, 4)
	checkParent(t, l, 250, 1, 2)
	checkParent(t, l, 1, 250, 4)
	checkParent(t, l, 9, 100, -1)
	checkParent(t, l, 100, 9, -1)
	checkParent(t, append(l, pathOf(100, 101)...), 9, 101, -1)
}

// P12.4
func TestWithout(t *testing.T) {
	l := edges([2]int{5, 1}, [2]int{2, 2}, [2]int{1, 2}, [2]int{5, 1}, [2]int{250, 0}, [2]int{-1, 3}, [2]int{2, 1}, [2]int{3, 251}, [2]int{3, 2})
	for _, row := range []struct {
		off  []int
		want []api.Edge
	}{
		{nil, edges([2]int{5, 1}, [2]int{1, 2}, [2]int{5, 1}, [2]int{250, 0}, [2]int{2, 1}, [2]int{3, 2})},
		{[]int{}, edges([2]int{5, 1}, [2]int{1, 2}, [2]int{5, 1}, [2]int{250, 0}, [2]int{2, 1}, [2]int{3, 2})},
		{[]int{-1, 251, 255, 4, math.MinInt, math.MaxInt, 1 << 32}, edges([2]int{5, 1}, [2]int{1, 2}, [2]int{5, 1}, [2]int{250, 0}, [2]int{2, 1}, [2]int{3, 2})},
		{[]int{1}, edges([2]int{250, 0}, [2]int{3, 2})},
		{[]int{2}, edges([2]int{5, 1}, [2]int{5, 1}, [2]int{250, 0})},
		{[]int{3, 3, 5, 3}, edges([2]int{1, 2}, [2]int{250, 0}, [2]int{2, 1})},
		{[]int{0, 5}, edges([2]int{1, 2}, [2]int{2, 1}, [2]int{3, 2})},
		{[]int{250}, edges([2]int{5, 1}, [2]int{1, 2}, [2]int{5, 1}, [2]int{2, 1}, [2]int{3, 2})},
		{[]int{0, 1, 2}, nil},
		{between(-300, 300), nil},
	} {
		checkWithout(t, l, row.off, row.want...)
		checkWithout(t, nil, row.off)
	}
}

// P12.4: many nodes that are off.
func TestWithoutManyNodes(t *testing.T) {
	source := newSource()
	for range 300 {
		l := spoilt(source, randomGraph(source, randomNodes(source, 30), 10))
		off := randomNodes(source, source.IntN(120))
		for range source.IntN(5) {
			off = append(off, farNodes()[source.IntN(len(farNodes()))])
		}
		checkWithout(t, l, off, without(l, off)...)
	}
}

// P12.5
func TestDistances(t *testing.T) {
	source := newSource()
	for _, percent := range []int{5, 10, 15, 20, 30, 50, 80} {
		for range 4 {
			nodes := randomNodes(source, 12)
			l := spoilt(source, randomGraph(source, nodes, percent))
			for _, a := range nodes {
				for _, b := range nodes {
					checkDistance(t, l, a, b)
					for _, c := range nodes {
						checkTriangle(t, l, a, b, c)
					}
				}
			}
		}
	}
}

func checkDistance(t *testing.T, l []api.Edge, a, b int) {
	t.Helper()
	n := topo.Hops(l, a, b)
	checkHops(t, l, b, a, n)
	if (n == 1) != slices.Contains(topo.Near(l, a), b) {
		t.Fatalf("in %v, the distance of %d and %d is %d, but Near says otherwise", l, a, b, n)
	}
	if (n != -1) != slices.Contains(topo.Reach(l, a), b) {
		t.Fatalf("in %v, the distance of %d and %d is %d, but Reach says otherwise", l, a, b, n)
	}
}

func checkTriangle(t *testing.T, l []api.Edge, a, b, c int) {
	t.Helper()
	first, second, direct := topo.Hops(l, a, b), topo.Hops(l, b, c), topo.Hops(l, a, c)
	if first == -1 || second == -1 {
		return
	}
	if direct == -1 || first+second < direct {
		t.Fatalf("in %v, the distances of %d, %d and %d are %d and %d, but %d of both ends", l, a, b, c, first, second, direct)
	}
}

// P12.6
func TestParentsLeadToTheRoot(t *testing.T) {
	source := newSource()
	for _, percent := range []int{4, 8, 12, 16, 20, 40} {
		for range 10 {
			nodes := randomNodes(source, 20)
			l := spoilt(source, randomGraph(source, nodes, percent))
			for _, n := range topo.Reach(l, nodes[0]) {
				checkWay(t, l, nodes[0], n)
			}
		}
	}
	path := pathOf(randomNodes(source, 251)...)
	checkWay(t, path, path[0].A, path[249].B)
}

func checkWay(t *testing.T, l []api.Edge, root, n int) {
	t.Helper()
	at := n
	for range topo.Hops(l, root, n) {
		next := topo.Parent(l, root, at)
		if !slices.Contains(topo.Near(l, at), next) {
			t.Fatalf("in %v, the parent of %d towards %d is %d", l, at, root, next)
		}
		at = next
	}
	if at != root {
		t.Fatalf("in %v, the way from %d to %d ends at %d", l, n, root, at)
	}
}

// P12.7
func TestRemoval(t *testing.T) {
	source := newSource()
	for _, percent := range []int{5, 10, 15, 20, 40} {
		for range 6 {
			nodes := randomNodes(source, 12)
			l := spoilt(source, randomGraph(source, nodes, percent))
			off := append(randomNodes(source, 3), nodes[:source.IntN(4)]...)
			left := topo.Without(l, off)
			for _, a := range nodes {
				for _, b := range nodes {
					if n := topo.Hops(left, a, b); n != -1 && n < topo.Hops(l, a, b) {
						t.Fatalf("without %v, the path from %d to %d in %v has become shorter", off, a, b, l)
					}
				}
			}
			for _, n := range off {
				checkReach(t, left, n, n)
				checkNear(t, left, n)
			}
		}
	}
}

// P12.8
func TestOrder(t *testing.T) {
	source := newSource()
	for _, percent := range []int{5, 10, 15, 20, 40} {
		for range 8 {
			nodes := randomNodes(source, 14)
			l := randomGraph(source, nodes, percent)
			other := slices.Clone(l)
			for range source.IntN(30) * min(len(l), 1) {
				other = append(other, l[source.IntN(len(l))])
			}
			for i := range other {
				other[i] = turned(source, other[i])
			}
			other = mixed(source, other)
			for _, a := range nodes {
				checkNear(t, other, a, topo.Near(l, a)...)
				checkReach(t, other, a, topo.Reach(l, a)...)
				checkDepth(t, other, a, topo.Depth(l, a))
				checkCut(t, other, a, topo.Cut(l, a)...)
				for _, b := range nodes {
					checkHops(t, other, a, b, topo.Hops(l, a, b))
					checkParent(t, other, a, b, topo.Parent(l, a, b))
				}
			}
		}
	}
}

// R5: results are new memory, and the space behind an argument is not used.
func TestMemory(t *testing.T) {
	source := newSource()
	for range 200 {
		behind := api.Edge{A: 99, B: 98}
		whole := append(randomGraph(source, between(0, 6), 50), behind, behind)
		l := whole[:len(whole)-2]
		off := []int{1, 2, 3}
		before := slices.Clone(whole)
		for _, left := range [][]api.Edge{topo.Without(l, nil), topo.Without(l, off[:2]), topo.Without(whole, []int{7})} {
			for i := range left {
				left[i] = api.Edge{A: -1, B: -1}
			}
			_ = append(left, api.Edge{A: -1, B: -1})
		}
		for n := range 7 {
			for _, nodes := range [][]int{topo.Near(l, n), topo.Reach(l, n), topo.Cut(l, n)} {
				for i := range nodes {
					nodes[i] = -1
				}
			}
			checkNode(t, l, n)
		}
		if !slices.Equal(whole, before) || !slices.Equal(off, []int{1, 2, 3}) {
			t.Fatalf("arguments were changed: %v to %v, and %v", before, whole, off)
		}
	}
}

// R4
func TestNilAndEmptyAreTheSame(t *testing.T) {
	for _, l := range [][]api.Edge{nil, {}, make([]api.Edge, 0, 9)} {
		checkAll(t, l, farNodes()...)
		checkWithout(t, l, []int{})
		checkWithout(t, l, []int{0})
	}
}

// R7
func TestCallsAreIndependent(t *testing.T) {
	source := newSource()
	for range 200 {
		nodes := randomNodes(source, 8)
		l, other := randomGraph(source, nodes, 30), randomGraph(source, nodes, 40)
		reached, critical := topo.Reach(l, nodes[0]), topo.Cut(l, nodes[0])
		checkNode(t, other, nodes[0])
		checkReach(t, l, nodes[0], reached...)
		checkCut(t, l, nodes[0], critical...)
	}
}
