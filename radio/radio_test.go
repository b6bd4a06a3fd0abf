package radio_test

import (
	"math"
	"math/rand/v2"
	"slices"
	"strings"
	"testing"

	"homehub/api"
	"homehub/radio"
	"homehub/topo"
)

const (
	mostNodes = 24  // of a list of a medium
	mostNode  = 250 // the greatest address
	all       = 255 // the address of all neighbors
)

// The models look at each address by itself, and keep what is known of it in maps.

// setOf returns the addresses of lists.
func setOf(lists ...[]int) map[int]bool {
	set := map[int]bool{}
	for _, l := range lists {
		for _, n := range l {
			if n >= 0 && n <= 250 {
				set[n] = true
			}
		}
	}
	return set
}

// checked returns what Check returns. The edges are those of package topo.
func checked(a api.Air) api.Errno {
	if err := topo.Check(a.Edges); err != 0 {
		return err
	}
	for _, n := range slices.Concat(a.Noisy, a.Off) {
		if n < 0 || n > 250 {
			return api.ErrRange
		}
	}
	if len(a.Noisy) >= 25 || len(a.Off) >= 25 {
		return api.ErrLimit
	}
	return 0
}

// counted returns the medium as which one counts.
func counted(a api.Air) api.Air {
	if checked(a) == 0 {
		return a
	}
	return api.Air{}
}

func linked(l []api.Edge, a, b int) bool {
	return slices.ContainsFunc(l, func(e api.Edge) bool { return e.A == a && e.B == b || e.A == b && e.B == a })
}

// delivered returns what Deliver returns.
func delivered(a api.Air, from, to int) ([]int, bool) {
	a = counted(a)
	off, noisy := setOf(a.Off), setOf(a.Noisy)
	var nodes []int
	for n := range 251 {
		hears := linked(a.Edges, from, n) && !off[from] && !off[n] && !noisy[n]
		if hears && (to == n || to == 255) {
			nodes = append(nodes, n)
		}
	}
	if to == 255 {
		return nodes, !off[from]
	}
	return nodes, len(nodes) > 0 && !noisy[from]
}

// channel returns what Channel returns.
func channel(levels []int, now, limit int) int {
	best, isKept := -1, false
	for i := len(levels) - 1; i >= 0; i-- {
		if best == -1 || levels[i] <= levels[best] {
			best = i
		}
		isKept = isKept || i == now && levels[i] <= limit
	}
	if isKept {
		return now
	}
	return best
}

// jammed returns what Jam returns.
func jammed(a api.Air, nodes []int) api.Air {
	a = counted(a)
	after := api.Air{Edges: a.Edges, Off: a.Off}
	noisy := setOf(nodes, a.Noisy)
	for n := range 251 {
		if noisy[n] && len(after.Noisy) < 24 {
			after.Noisy = append(after.Noisy, n)
		}
	}
	return after
}

// cleared returns what Clear returns.
func cleared(a api.Air) api.Air {
	a = counted(a)
	a.Noisy = nil
	return a
}

// up returns what Up returns.
func up(a api.Air) []api.Edge {
	a = counted(a)
	off := setOf(a.Off)
	var l []api.Edge
	for _, e := range a.Edges {
		if !off[e.A] && !off[e.B] {
			l = append(l, e)
		}
	}
	return l
}

// isSame tells whether two media are equal, disregarding whether lists are nil.
func isSame(a, b api.Air) bool {
	return slices.Equal(a.Edges, b.Edges) && slices.Equal(a.Off, b.Off) && slices.Equal(a.Noisy, b.Noisy)
}

func copyOf(a api.Air) api.Air {
	return api.Air{Edges: slices.Clone(a.Edges), Off: slices.Clone(a.Off), Noisy: slices.Clone(a.Noisy)}
}

// The first difference ends a test, as some of them compare very many media.

func checkCheck(t *testing.T, a api.Air, want api.Errno) {
	t.Helper()
	if got := radio.Check(a); got != want {
		t.Fatalf("Check(%v): got %d, want %d", a, got, want)
	}
}

func checkDeliver(t *testing.T, a api.Air, from, to int, want []int, wantOk bool) {
	t.Helper()
	got, ok := radio.Deliver(a, api.Frame{From: from, To: to})
	if !slices.Equal(got, want) || ok != wantOk {
		t.Fatalf("Deliver(%v) from %d to %d: got %v, %t, want %v, %t", a, from, to, got, ok, want, wantOk)
	}
}

func checkChannel(t *testing.T, levels []int, now, limit, want int) {
	t.Helper()
	if got := radio.Channel(levels, now, limit); got != want {
		t.Fatalf("Channel(%v, %d, %d): got %d, want %d", levels, now, limit, got, want)
	}
}

func checkJam(t *testing.T, a api.Air, nodes []int, want api.Air) {
	t.Helper()
	if got := radio.Jam(a, nodes); !isSame(got, want) {
		t.Fatalf("Jam(%v, %v): got %v, want %v", a, nodes, got, want)
	}
}

func checkClear(t *testing.T, a, want api.Air) {
	t.Helper()
	if got := radio.Clear(a); !isSame(got, want) {
		t.Fatalf("Clear(%v): got %v, want %v", a, got, want)
	}
}

func checkUp(t *testing.T, a api.Air, want []api.Edge) {
	t.Helper()
	if got := radio.Up(a); !slices.Equal(got, want) {
		t.Fatalf("Up(%v): got %v, want %v", a, got, want)
	}
}

// checkFrames compares Deliver with its model, for frames between all of the nodes and
// to all.
func checkFrames(t *testing.T, a api.Air, nodes ...int) {
	t.Helper()
	for _, from := range nodes {
		for _, to := range append(slices.Clone(nodes), all) {
			want, ok := delivered(a, from, to)
			checkDeliver(t, a, from, to, want, ok)
		}
	}
}

// checkAll compares all functions of media with their models, for these nodes, and
// checks that they do not change the medium.
func checkAll(t *testing.T, a api.Air, nodes ...int) {
	t.Helper()
	before, nodesBefore := copyOf(a), slices.Clone(nodes)
	checkCheck(t, a, checked(a))
	checkFrames(t, a, nodes...)
	checkJam(t, a, nil, jammed(a, nil))
	checkJam(t, a, nodes, jammed(a, nodes))
	checkClear(t, a, cleared(a))
	checkUp(t, a, up(a))
	if !isSame(a, before) || !slices.Equal(nodes, nodesBefore) {
		t.Fatalf("arguments were changed: %v to %v, %v to %v", before, a, nodesBefore, nodes)
	}
}

func newSource() *rand.Rand {
	return rand.New(rand.NewPCG(18, 1))
}

// pathOf returns the links from each of the nodes to the next one.
func pathOf(nodes ...int) []api.Edge {
	var l []api.Edge
	for i := 1; i < len(nodes); i++ {
		l = append(l, api.Edge{A: nodes[i-1], B: nodes[i]})
	}
	return l
}

// fullOf returns a link for each two of the nodes.
func fullOf(nodes ...int) []api.Edge {
	var l []api.Edge
	for i, a := range nodes {
		for _, b := range nodes[:i] {
			l = append(l, api.Edge{A: a, B: b})
		}
	}
	return l
}

// between returns the numbers from one to another.
func between(first, last int) []int {
	var nodes []int
	for n := first; n <= last; n++ {
		nodes = append(nodes, n)
	}
	return nodes
}

// farNumbers are addresses at the ends of their range, and numbers outside it.
func farNumbers() []int {
	return []int{0, 1, 249, 250, 251, 252, 254, 255, 256, -1, -2, 1 << 32, 1<<32 + 1, -1 << 32, math.MinInt, math.MaxInt}
}

// outside are the far numbers that are no addresses.
func outside() []int {
	return farNumbers()[4:]
}

// randomNodes returns different addresses, in any order.
func randomNodes(source *rand.Rand, n int) []int {
	return source.Perm(mostNode + 1)[:n]
}

// some returns so many of the nodes, in any order, any of them several times.
func some(source *rand.Rand, nodes []int, n int) []int {
	var l []int
	for range n {
		l = append(l, nodes[source.IntN(len(nodes))])
	}
	return l
}

// randomAir returns a medium of the nodes that Check accepts.
func randomAir(source *rand.Rand, nodes []int, percent int) api.Air {
	var a api.Air
	for _, e := range fullOf(nodes...) {
		if source.IntN(100) >= percent || len(a.Edges) == 256 {
			continue
		}
		if source.IntN(2) == 0 {
			e.A, e.B = e.B, e.A
		}
		a.Edges = append(a.Edges, e)
	}
	source.Shuffle(len(a.Edges), func(i, k int) { a.Edges[i], a.Edges[k] = a.Edges[k], a.Edges[i] })
	a.Off = some(source, nodes, source.IntN(1+min(len(nodes)/2, mostNodes)))
	a.Noisy = some(source, nodes, source.IntN(1+min(len(nodes)/2, mostNodes)))
	return a
}

// spoilt returns a medium with one or two things that Check rejects.
func spoilt(source *rand.Rand, a api.Air) api.Air {
	a = copyOf(a)
	for range 1 + source.IntN(2) {
		far := outside()[source.IntN(len(outside()))]
		switch source.IntN(6) {
		case 0:
			a.Edges = slices.Insert(a.Edges, source.IntN(len(a.Edges)+1), api.Edge{A: 3, B: far})
		case 1:
			a.Edges = append(a.Edges, api.Edge{A: 99, B: 98}, api.Edge{A: 98, B: 99})
		case 2:
			a.Off = slices.Insert(a.Off, source.IntN(len(a.Off)+1), far)
		case 3:
			a.Noisy = slices.Insert(a.Noisy, source.IntN(len(a.Noisy)+1), far)
		case 4:
			a.Off = append(a.Off, make([]int, mostNodes+1)...)
		case 5:
			a.Noisy = append(a.Noisy, make([]int, mostNodes+1)...)
		}
	}
	return a
}

// The examples of the chapter.

func triangle() api.Air {
	return api.Air{Edges: pathOf(0, 1, 2, 0)}
}

func TestExampleOfDeliver(t *testing.T) {
	checkDeliver(t, triangle(), 0, all, []int{1, 2}, true)
	checkDeliver(t, triangle(), 0, 1, []int{1}, true)
}

func TestExampleOfInterference(t *testing.T) {
	a := triangle()
	a.Noisy = []int{0}
	checkDeliver(t, a, 0, 1, []int{1}, false)
	a.Noisy = []int{1}
	checkDeliver(t, a, 0, 1, nil, false)
}

func TestExampleOfChannel(t *testing.T) {
	checkChannel(t, []int{5, 3, 3}, 0, 5, 0)
	checkChannel(t, []int{5, 3, 3}, 0, 4, 1)
}

func TestExampleOfCheck(t *testing.T) {
	checkCheck(t, api.Air{Edges: pathOf(0, 1), Off: []int{251}}, api.ErrRange)
}

// P18.1
func TestCheckOfEachError(t *testing.T) {
	many := fullOf(between(0, 30)...)
	loop, twice := pathOf(3, 3), pathOf(3, 4, 3)
	most, more := between(0, 23), between(0, 24)
	far := append(between(0, 23), 251)
	for _, row := range []struct {
		a    api.Air
		want api.Errno
	}{
		{api.Air{}, api.OK},
		{triangle(), api.OK},
		{api.Air{Edges: many[:256], Off: most, Noisy: most}, api.OK},
		{api.Air{Edges: many[:257], Off: most, Noisy: most}, api.ErrLimit},
		{api.Air{Edges: loop}, api.ErrRange},
		{api.Air{Edges: twice}, api.ErrDup},
		{api.Air{Off: more}, api.ErrLimit},
		{api.Air{Noisy: more}, api.ErrLimit},
		{api.Air{Off: far}, api.ErrRange},
		{api.Air{Noisy: far}, api.ErrRange},
		// An element may stand there several times, and in both lists.
		{api.Air{Off: make([]int, 24), Noisy: make([]int, 24)}, api.OK},
		{api.Air{Off: []int{250, 7, 250}, Noisy: []int{7, 250, 7}}, api.OK},
		{api.Air{Off: make([]int, 25)}, api.ErrLimit},
		{api.Air{Noisy: make([]int, 25)}, api.ErrLimit},
		{api.Air{Off: make([]int, 25), Noisy: make([]int, 25)}, api.ErrLimit},
		// The edges come first.
		{api.Air{Edges: twice, Off: far, Noisy: far}, api.ErrDup},
		{api.Air{Edges: many[:257], Off: far, Noisy: far}, api.ErrLimit},
		{api.Air{Edges: loop, Off: more, Noisy: more}, api.ErrRange},
		{api.Air{Edges: twice, Off: more}, api.ErrDup},
		{api.Air{Edges: twice, Noisy: more}, api.ErrDup},
		// Then the ranges of both lists.
		{api.Air{Off: more, Noisy: []int{251}}, api.ErrRange},
		{api.Air{Off: []int{-1}, Noisy: more}, api.ErrRange},
		{api.Air{Off: far, Noisy: more}, api.ErrRange},
		{api.Air{Off: more, Noisy: far}, api.ErrRange},
	} {
		checkCheck(t, row.a, row.want)
		checkAll(t, row.a, 0, 3, 4, 250)
	}
}

// P18.1: every number in each of the lists, at every place.
func TestCheckOfEveryNumber(t *testing.T) {
	for _, n := range append(between(-300, 600), farNumbers()...) {
		want := api.ErrRange
		if n >= 0 && n <= mostNode {
			want = api.OK
		}
		for place := range 4 {
			l := slices.Insert([]int{9, 0, 250}, place, n)
			checkCheck(t, api.Air{Off: l}, want)
			checkCheck(t, api.Air{Noisy: l}, want)
			checkCheck(t, api.Air{Edges: pathOf(1, 2, 3), Off: l, Noisy: l}, want)
		}
	}
}

// P18.1: every length of the lists.
func TestCheckOfEveryLength(t *testing.T) {
	for off := range 60 {
		for noisy := range 60 {
			want := api.OK
			if off > mostNodes || noisy > mostNodes {
				want = api.ErrLimit
			}
			a := api.Air{Edges: pathOf(0, 1), Off: make([]int, off), Noisy: make([]int, noisy)}
			checkCheck(t, a, want)
		}
	}
	for _, length := range []int{256, 257, 1 << 16, 1 << 20} {
		checkCheck(t, api.Air{Off: make([]int, length)}, api.ErrLimit)
		checkCheck(t, api.Air{Noisy: make([]int, length)}, api.ErrLimit)
		checkCheck(t, api.Air{Off: append(make([]int, length), -1)}, api.ErrRange)
		checkCheck(t, api.Air{Noisy: append(make([]int, length), -1)}, api.ErrRange)
	}
}

// P18.2
func TestDeliverInAStar(t *testing.T) {
	links := append(pathOf(5, 0, 250), pathOf(7, 0, 3)...)
	for _, row := range []struct {
		off, noisy []int
		from, to   int
		want       []int
		ok         bool
	}{
		{nil, nil, 0, all, []int{3, 5, 7, 250}, true},
		{nil, nil, 0, 250, []int{250}, true},
		{nil, nil, 7, all, []int{0}, true},
		{nil, nil, 7, 0, []int{0}, true},
		// Not neighbors.
		{nil, nil, 7, 3, nil, false},
		{nil, nil, 0, 0, nil, false},
		{nil, nil, 0, 99, nil, false},
		{nil, nil, 99, 0, nil, false},
		// Nobody is there, but a frame to all counts as acknowledged.
		{nil, nil, 99, all, nil, true},
		{[]int{3, 5, 7, 250}, nil, 0, all, nil, true},
		{nil, []int{3, 5, 7, 250}, 0, all, nil, true},
		{[]int{3, 250}, []int{7, 5}, 0, all, nil, true},
		// The sender is off.
		{[]int{0}, nil, 0, all, nil, false},
		{[]int{3, 0}, nil, 0, 5, nil, false},
		{[]int{0}, []int{0}, 0, all, nil, false},
		{[]int{99}, nil, 99, all, nil, false},
		// Others are.
		{[]int{99}, nil, 0, all, []int{3, 5, 7, 250}, true},
		{[]int{250, 3, 250}, nil, 0, all, []int{5, 7}, true},
		{[]int{250}, nil, 0, 250, nil, false},
		{[]int{250}, nil, 0, 5, []int{5}, true},
		// Nodes are noisy: a noisy sender does not hear the acknowledgement.
		{nil, []int{5, 5}, 0, all, []int{3, 7, 250}, true},
		{nil, []int{5}, 0, 5, nil, false},
		{nil, []int{5}, 0, 7, []int{7}, true},
		{nil, []int{0}, 0, all, []int{3, 5, 7, 250}, true},
		{nil, []int{0}, 0, 7, []int{7}, false},
		{nil, []int{0, 7}, 0, 7, nil, false},
		{nil, []int{0}, 7, all, nil, true},
		{nil, []int{0}, 7, 0, nil, false},
		{[]int{3}, []int{5, 0}, 0, all, []int{7, 250}, true},
	} {
		a := api.Air{Edges: links, Off: row.off, Noisy: row.noisy}
		checkDeliver(t, a, row.from, row.to, row.want, row.ok)
	}
}

// chosenOf returns those whose bits are set.
func chosenOf[T any](l []T, chosen int) []T {
	var some []T
	for i, x := range l {
		if chosen&(1<<i) != 0 {
			some = append(some, x)
		}
	}
	return some
}

// P18.2, P18.3: all media of three nodes.
func TestEverySmallMedium(t *testing.T) {
	nodes := []int{250, 0, 120}
	links := fullOf(nodes...)
	for chosen := range 1 << 9 {
		a := api.Air{
			Edges: chosenOf(links, chosen),
			Off:   chosenOf(nodes, chosen>>3),
			Noisy: chosenOf(nodes, chosen>>6),
		}
		checkAll(t, a, append(nodes, 7, 251)...)
	}
}

// P18.2: every sender and every receiver, also those that are no addresses: they are
// not limited to the nearest one.
func TestDeliverOfEveryNumber(t *testing.T) {
	numbers := append(between(-3, mostNode+10), math.MinInt, math.MaxInt, 1<<32, 1<<32+255)
	for _, a := range []api.Air{
		{Edges: pathOf(0, 250, 1, 0, 7, 250), Noisy: []int{7}},
		{Edges: pathOf(0, 250, 1), Off: []int{0}},
		{Edges: pathOf(0, 250, 1), Off: []int{250}, Noisy: []int{0}},
		{Edges: pathOf(0, 250, 1), Off: []int{251}},
	} {
		for _, n := range numbers {
			for _, m := range []int{-1, 0, 1, 7, 250, 251, all, 256} {
				want, ok := delivered(a, n, m)
				checkDeliver(t, a, n, m, want, ok)
				want, ok = delivered(a, m, n)
				checkDeliver(t, a, m, n, want, ok)
			}
		}
	}
}

// P18.2: only From and To of a frame matter.
func TestOtherFieldsDoNotMatter(t *testing.T) {
	a := api.Air{Edges: pathOf(4, 2, 7, 9), Off: []int{9}, Noisy: []int{4}}
	for _, f := range []api.Frame{
		{},
		{Kind: api.FkBeacon, Source: 2, Target: all, Seq: 3, Data: "x"},
		{Kind: api.FkData, Source: 7, Target: 9, Seq: 65535, Hops: 15, Urgent: true, Data: "hi"},
		{Kind: api.FkPoll, Source: 4, Target: 2, Urgent: true},
		{Kind: -9, Source: -1, Target: 999, Seq: -1, Hops: math.MaxInt, Data: strings.Repeat("\xff", 500)},
		{Kind: math.MaxInt, Source: 9, Target: 9, Seq: math.MinInt, Hops: -1},
	} {
		for _, from := range []int{2, 4, 7, 9, 99} {
			for _, to := range []int{2, 4, 7, 9, 99, all} {
				f.From, f.To = from, to
				want, wantOk := delivered(a, from, to)
				got, ok := radio.Deliver(a, f)
				if !slices.Equal(got, want) || ok != wantOk {
					t.Fatalf("Deliver(%v, %v): got %v, %t, want %v, %t", a, f, got, ok, want, wantOk)
				}
			}
		}
	}
}

// P18.2, P18.3: a medium that Check rejects counts as the one without links.
func TestRejectedMedia(t *testing.T) {
	links := pathOf(0, 1, 2)
	more := make([]int, 25)
	for _, a := range []api.Air{
		{Edges: append(pathOf(0, 1, 2), api.Edge{A: 1, B: 0})},
		{Edges: append(pathOf(0, 1, 2), api.Edge{A: 5, B: 5}), Off: []int{0}},
		{Edges: fullOf(between(0, 30)...), Off: []int{0}},
		{Edges: links, Off: []int{0, 251}},
		{Edges: links, Off: []int{-1, 0}},
		{Edges: links, Off: []int{0}, Noisy: []int{1, 251}},
		{Edges: links, Off: []int{0}, Noisy: []int{-1, 1}},
		{Edges: links, Off: more},
		{Edges: links, Off: []int{0}, Noisy: more},
	} {
		for _, from := range []int{0, 1, 2, 251, -1} {
			checkDeliver(t, a, from, all, nil, true)
			checkDeliver(t, a, from, 1, nil, false)
		}
		checkJam(t, a, []int{9, 251, 4}, api.Air{Noisy: []int{4, 9}})
		checkJam(t, a, nil, api.Air{})
		checkClear(t, a, api.Air{})
		checkUp(t, a, nil)
		checkAll(t, a, append(farNumbers(), 2)...)
	}
}

// P18.2, P18.3
func TestRandomMedia(t *testing.T) {
	source := newSource()
	for _, percent := range []int{0, 10, 20, 40, 70, 100} {
		for _, size := range []int{1, 2, 4, 9, 25} {
			for range 12 {
				nodes := randomNodes(source, size)
				a := randomAir(source, nodes, percent)
				asked := append(some(source, nodes, 3), 251, source.IntN(300))
				checkCheck(t, a, api.OK)
				checkAll(t, a, asked...)
				bad := spoilt(source, a)
				if radio.Check(bad) == api.OK {
					t.Fatalf("Check accepts %v", bad)
				}
				checkAll(t, bad, asked...)
			}
		}
	}
}

// P18.2: every list of up to four channels with a few levels.
func TestEveryChannel(t *testing.T) {
	kinds := []int{math.MinInt, -1, 0, 7, math.MaxInt}
	var try func(levels []int)
	try = func(levels []int) {
		for _, now := range []int{-1, 0, 1, 2, 3, 4, 5, math.MinInt, math.MaxInt} {
			for _, limit := range []int{math.MinInt, -2, -1, 0, 1, 6, 7, 8, math.MaxInt} {
				checkChannel(t, levels, now, limit, channel(levels, now, limit))
			}
		}
		if len(levels) == 4 {
			return
		}
		for _, level := range kinds {
			try(append(slices.Clone(levels), level))
		}
	}
	try(nil)
}

// P18.2
func TestChannelOfEachCase(t *testing.T) {
	long := slices.Repeat([]int{9}, 100000)
	long[70000], long[90000] = 8, 8
	for _, row := range []struct {
		levels           []int
		now, limit, want int
	}{
		{nil, 0, 0, -1},
		{nil, -1, 9, -1},
		{nil, 5, math.MaxInt, -1},
		{[]int{4}, 0, 3, 0},
		{[]int{4}, 1, 9, 0},
		{[]int{4}, -1, 9, 0},
		// A channel that is good enough is kept, also if others are better.
		{[]int{1, 6, 0}, 1, 6, 1},
		{[]int{1, 6, 0}, 1, 5, 2},
		{[]int{1, 6, 0}, 0, 1, 0},
		{[]int{1, 6, 0}, 2, -1, 2},
		// The first of the best is chosen, also if the present one is as good.
		{[]int{6, 2, 2, 2}, 3, 1, 1},
		{[]int{6, 2, 2, 2}, 3, 2, 3},
		{[]int{2, 2, 2}, 2, 1, 0},
		{[]int{-5, -9, -9}, 0, -6, 1},
		{[]int{-5, -9, -9}, 0, -5, 0},
		// There are no channels -1 and 3.
		{[]int{3, 1, 2}, -1, 9, 1},
		{[]int{3, 1, 2}, 3, 9, 1},
		{[]int{3, 1, 2}, math.MinInt, 9, 1},
		{[]int{3, 1, 2}, math.MaxInt, 9, 1},
		{[]int{3, 1, 2}, 1 << 32, 9, 1},
		{long, 99999, 9, 99999},
		{long, 99999, 8, 70000},
		{long, 90000, 8, 90000},
		{long, 100000, 9, 70000},
	} {
		checkChannel(t, row.levels, row.now, row.limit, row.want)
	}
}

// P18.2
func TestRandomChannels(t *testing.T) {
	source := newSource()
	for range 20000 {
		var levels []int
		for range source.IntN(12) {
			levels = append(levels, source.IntN(9)-2)
		}
		before := slices.Clone(levels)
		now, limit := source.IntN(14)-1, source.IntN(11)-3
		checkChannel(t, levels, now, limit, channel(levels, now, limit))
		if !slices.Equal(levels, before) {
			t.Fatalf("the levels %v were changed to %v", before, levels)
		}
	}
}

// P18.3
func TestJamOfEachCase(t *testing.T) {
	full := between(100, 123)
	for _, row := range []struct {
		noisy, nodes, want []int
	}{
		{nil, nil, nil},
		{nil, []int{5}, []int{5}},
		{[]int{5}, nil, []int{5}},
		{[]int{7, 2, 7}, nil, []int{2, 7}},
		{nil, []int{9, 3, 9, 3}, []int{3, 9}},
		{[]int{7, 2}, []int{5, 2, 0}, []int{0, 2, 5, 7}},
		{[]int{0}, []int{250}, []int{0, 250}},
		{[]int{250}, []int{0}, []int{0, 250}},
		// Numbers that are no addresses are left out.
		{[]int{4}, outside(), []int{4}},
		{nil, append(outside(), farNumbers()...), []int{0, 1, 249, 250}},
		// The first 24 of both stay.
		{full, nil, full},
		{nil, full, full},
		{full, full, full},
		{full, []int{250}, full},
		{full, []int{124, 99}, between(99, 122)},
		{full, between(0, 250), between(0, 23)},
		{full[:23], []int{250, 251, -1}, append(between(100, 122), 250)},
		{full[:23], []int{3, 250}, append([]int{3}, between(100, 122)...)},
		{nil, append(between(0, 250), -1), between(0, 23)},
		{make([]int, 24), between(200, 250), append([]int{0}, between(200, 222)...)},
		{nil, append(make([]int, 1<<20), 8), []int{0, 8}},
	} {
		for _, a := range []api.Air{{}, {Edges: pathOf(3, 1, 2), Off: []int{2, 1, 2}}} {
			a.Noisy = row.noisy
			want := api.Air{Edges: a.Edges, Off: a.Off, Noisy: row.want}
			checkJam(t, a, row.nodes, want)
			checkCheck(t, radio.Jam(a, row.nodes), api.OK)
		}
	}
}

// P18.3
func TestRandomJams(t *testing.T) {
	source := newSource()
	for range 4000 {
		a := api.Air{
			Edges: pathOf(randomNodes(source, 3)...),
			Off:   randomNodes(source, source.IntN(4)),
			Noisy: randomNodes(source, source.IntN(mostNodes+3)),
		}
		nodes := some(source, append(randomNodes(source, 20), farNumbers()...), source.IntN(40))
		checkJam(t, a, nodes, jammed(a, nodes))
	}
}

// P18.3: Clear and Up leave the order, and what stands there several times.
func TestClearAndUp(t *testing.T) {
	links := []api.Edge{{A: 9, B: 2}, {A: 1, B: 2}, {A: 4, B: 9}, {A: 1, B: 4}, {A: 250, B: 0}}
	for _, row := range []struct {
		off  []int
		want []api.Edge
	}{
		{nil, links},
		{[]int{3, 249}, links},
		{[]int{9}, []api.Edge{{A: 1, B: 2}, {A: 1, B: 4}, {A: 250, B: 0}}},
		{[]int{9, 0, 9}, []api.Edge{{A: 1, B: 2}, {A: 1, B: 4}}},
		{[]int{250, 4}, []api.Edge{{A: 9, B: 2}, {A: 1, B: 2}}},
		{[]int{2, 4, 0}, nil},
	} {
		for _, noisy := range [][]int{nil, {2}, {9, 1, 9}, between(0, 23)} {
			a := api.Air{Edges: links, Off: row.off, Noisy: noisy}
			checkClear(t, a, api.Air{Edges: links, Off: row.off})
			checkUp(t, a, row.want)
		}
	}
	checkClear(t, api.Air{}, api.Air{})
	checkUp(t, api.Air{}, nil)
}

// P18.4
func TestReceivers(t *testing.T) {
	source := newSource()
	for _, percent := range []int{10, 30, 60, 100} {
		for range 60 {
			nodes := randomNodes(source, 8)
			a := randomAir(source, nodes, percent)
			if source.IntN(4) == 0 {
				a = spoilt(source, a)
			}
			for _, from := range append(nodes, 251) {
				for _, to := range append(nodes, 251, all) {
					checkReceivers(t, a, from, to)
				}
			}
		}
	}
}

func checkReceivers(t *testing.T, a api.Air, from, to int) {
	t.Helper()
	got, ok := radio.Deliver(a, api.Frame{From: from, To: to})
	for i, n := range got {
		switch {
		case i > 0 && got[i-1] >= n:
			t.Fatalf("in %v, the frame from %d to %d is received by %v", a, from, to, got)
		case !slices.Contains(topo.Near(radio.Up(a), from), n):
			t.Fatalf("in %v, the frame from %d to %d is received by %d, which is no neighbor", a, from, to, n)
		case slices.Contains(a.Noisy, n):
			t.Fatalf("in %v, the frame from %d to %d is received by %d, which is noisy", a, from, to, n)
		case to != all && n != to:
			t.Fatalf("in %v, the frame from %d to %d is received by %d", a, from, to, n)
		}
	}
	if to != all && ok && !slices.Contains(got, to) {
		t.Fatalf("in %v, the frame from %d to %d is acknowledged, but not received", a, from, to)
	}
}

// P18.5
func TestInterference(t *testing.T) {
	source := newSource()
	for _, percent := range []int{20, 50, 100} {
		for _, size := range []int{3, 8, 40} {
			for range 20 {
				nodes := randomNodes(source, size)
				a := randomAir(source, nodes, percent)
				jam := some(source, append(outside()[:3], nodes...), source.IntN(size))
				for _, from := range nodes[:3] {
					for _, to := range append(nodes[:3], all) {
						checkInterference(t, a, jam, from, to)
					}
				}
			}
		}
	}
}

func checkInterference(t *testing.T, a api.Air, jam []int, from, to int) {
	t.Helper()
	f := api.Frame{From: from, To: to}
	after := radio.Jam(a, jam)
	before, _ := radio.Deliver(a, f)
	got, _ := radio.Deliver(after, f)
	for _, n := range got {
		if slices.Contains(after.Noisy, n) {
			t.Fatalf("%d receives the frame from %d to %d in %v", n, from, to, after)
		}
		if len(after.Noisy) < mostNodes && !slices.Contains(before, n) {
			t.Fatalf("%d receives the frame from %d to %d in %v, but not in %v", n, from, to, after, a)
		}
	}
	f.To = all
	got, _ = radio.Deliver(radio.Clear(after), f)
	if !slices.Contains(a.Off, from) && !slices.Equal(got, topo.Near(radio.Up(a), from)) {
		t.Fatalf("in %v without interference, %v receive what %d sends to all", a, got, from)
	}
}

// P18.5: only a node that is noisy no more, because of the first 24, receives more.
func TestInterferenceOfTooManyNodes(t *testing.T) {
	a := api.Air{Edges: pathOf(0, 250), Noisy: []int{250}}
	checkDeliver(t, radio.Jam(a, between(1, 23)), 0, all, nil, true)
	checkDeliver(t, radio.Jam(a, between(1, 24)), 0, all, []int{250}, true)
}

// P18.6
func TestChannels(t *testing.T) {
	source := newSource()
	for range 20000 {
		var levels []int
		for range 1 + source.IntN(8) {
			levels = append(levels, source.IntN(6))
		}
		now, limit := source.IntN(10)-1, source.IntN(7)-1
		got := radio.Channel(levels, now, limit)
		least := slices.Index(levels, slices.Min(levels))
		if levels[got] > limit && got != least {
			t.Fatalf("Channel(%v, %d, %d): got %d, but the first of the best is %d", levels, now, limit, got, least)
		}
		again := got
		if levels[got] > limit {
			again = least
		}
		checkChannel(t, levels, got, limit, again)
	}
}

// R4
func TestNilAndEmptyAreTheSame(t *testing.T) {
	for _, edges := range [][]api.Edge{nil, {}, make([]api.Edge, 0, 9)} {
		for _, empty := range [][]int{nil, {}, make([]int, 0, 9)} {
			a := api.Air{Edges: edges, Off: empty, Noisy: empty}
			checkAll(t, a, farNumbers()...)
			checkJam(t, a, empty, api.Air{})
			checkJam(t, a, []int{4}, api.Air{Noisy: []int{4}})
			checkChannel(t, empty, 0, 0, -1)
		}
	}
}

// withSpace returns a medium equal to a, and what stands behind its lists.
func withSpace(a api.Air) (api.Air, api.Air) {
	behind := api.Edge{A: 99, B: 98}
	whole := api.Air{
		Edges: append(slices.Clone(a.Edges), behind, behind),
		Off:   append(slices.Clone(a.Off), 97, 97),
		Noisy: append(slices.Clone(a.Noisy), 96, 96),
	}
	cut := api.Air{
		Edges: whole.Edges[:len(a.Edges)],
		Off:   whole.Off[:len(a.Off)],
		Noisy: whole.Noisy[:len(a.Noisy)],
	}
	return cut, whole
}

// overwrite changes what the lists of a medium hold, and the space behind them.
func overwrite(a api.Air) {
	for i := range a.Edges {
		a.Edges[i] = api.Edge{A: -1, B: -1}
	}
	_ = append(a.Edges, api.Edge{A: -1, B: -1})
	for _, l := range [][]int{a.Off, a.Noisy} {
		for i := range l {
			l[i] = -1
		}
		_ = append(l, -1)
	}
}

// results returns what the functions return, as media.
func results(a api.Air, nodes []int) []api.Air {
	l := []api.Air{radio.Jam(a, nodes), radio.Clear(a), {Edges: radio.Up(a)}}
	for _, from := range []int{0, 1, 2} {
		for _, to := range []int{0, 1, 2, all} {
			received, _ := radio.Deliver(a, api.Frame{From: from, To: to})
			l = append(l, api.Air{Off: received})
		}
	}
	return l
}

// R5: results are new memory, and the space behind an argument is not used.
func TestMemory(t *testing.T) {
	source := newSource()
	for range 1000 {
		a, whole := withSpace(randomAir(source, between(0, 6), 60))
		nodes := randomNodes(source, source.IntN(4))
		before, nodesBefore := copyOf(whole), slices.Clone(nodes)
		for i, result := range results(a, nodes) {
			overwrite(result)
			if !isSame(whole, before) || !slices.Equal(nodes, nodesBefore) {
				t.Fatalf("result %d: %v was changed to %v, %v to %v", i, before, whole, nodesBefore, nodes)
			}
		}
		after, want := results(a, nodes), results(copyOf(a), slices.Clone(nodes))
		overwrite(whole)
		for i := range nodes {
			nodes[i] = -1
		}
		if !slices.EqualFunc(after, want, isSame) {
			t.Fatalf("with the medium, its results change from %v to %v", want, after)
		}
	}
}

// R7
func TestCallsAreIndependent(t *testing.T) {
	source := newSource()
	for range 300 {
		a, nodes := randomAir(source, between(0, 6), 60), randomNodes(source, 3)
		first := results(a, nodes)
		checkAll(t, randomAir(source, between(0, 4), 40), 0, 1)
		if again := results(a, nodes); !slices.EqualFunc(first, again, isSame) {
			t.Fatalf("%v: got %v, and then %v", a, first, again)
		}
	}
}
