package route_test

import (
	"math"
	"math/rand/v2"
	"slices"
	"testing"

	"homehub/api"
	"homehub/route"
)

const (
	most     = 24  // routes of a table
	mostNode = 250 // the greatest address
	everyone = 255
	noCost   = 255
)

// target is a model of a route: how good it is, and the next hop. Of two routes to
// the same destination, the better one has the greater rank.
type target struct {
	rank, next int
}

// targets is a model of a table: the routes by their destinations.
type targets map[int]target

func rankOf(seq, cost int) int {
	return 256*seq + 255 - cost
}

func (g target) finite() bool {
	return 255-g.rank%256 <= 200
}

func (g target) seq() int {
	return g.rank / 256
}

// usable tells whether a route is usable as an advertisement.
func usable(r api.Route) bool {
	switch {
	case r.Dest < 0, r.Dest > 250, r.Seq < 0, r.Seq > 65535:
		return false
	case r.Cost == 255:
		return true
	}
	return r.Cost >= 0 && r.Cost < 201 && r.Seq&1 == 0
}

// checked returns what Check returns.
func checked(t []api.Route, self int) api.Errno {
	if len(t) > 24 {
		return api.ErrLimit
	}
	if self < 0 || self > 250 {
		return api.ErrRange
	}
	previous, known, suitable := -1, false, true
	for _, r := range t {
		switch {
		case !usable(r), r.Cost == 255 && r.Next != 255, r.Cost != 255 && (r.Next < 0 || r.Next > 250):
			return api.ErrRange
		case r.Dest <= previous:
			return api.ErrOrder
		}
		previous = r.Dest
		isOwn := r.Dest == self
		known = known || isOwn
		suitable = suitable && isOwn == (r.Cost == 0) && isOwn == (r.Next == self)
	}
	if !known {
		return api.ErrNone
	}
	if !suitable {
		return api.ErrForm
	}
	return api.OK
}

// near returns the address that is nearest to a number.
func near(self int) int {
	if self < 0 {
		return 0
	}
	if self > 250 {
		return 250
	}
	return self
}

// read returns the routes of a table of self, which is an address.
func read(t []api.Route, self int) targets {
	g := targets{self: {rankOf(0, 0), self}}
	if checked(t, self) == api.OK {
		for _, r := range t {
			g[r.Dest] = target{rankOf(r.Seq, r.Cost), r.Next}
		}
	}
	return g
}

// table returns the table of these routes.
func (g targets) table() []api.Route {
	var t []api.Route
	for dest := range 251 {
		if r, ok := g[dest]; ok {
			t = append(t, api.Route{Dest: dest, Seq: r.seq(), Cost: 255 - r.rank%256, Next: r.next})
		}
	}
	return t
}

// bumped returns what Bump returns.
func bumped(t []api.Route, self int) []api.Route {
	self = near(self)
	g := read(t, self)
	if g[self].seq() < 65534 {
		g[self] = target{g[self].rank + 512, self}
	}
	return g.table()
}

// updated returns what Update returns.
func updated(t []api.Route, self, from, cost int, adv []api.Route) []api.Route {
	self = near(self)
	g := read(t, self)
	if from >= 0 && from <= 250 && from != self && cost >= 1 && cost <= 200 {
		for _, r := range adv {
			if usable(r) && r.Dest != self {
				g.apply(r, from, cost)
			}
		}
	}
	return g.table()
}

func (g targets) apply(r api.Route, from, cost int) {
	old, known := g[r.Dest]
	if r.Cost+cost > 200 {
		if known && old.next == from && r.Seq > old.seq() {
			g[r.Dest] = target{rankOf(r.Seq, 255), 255}
		}
		return
	}
	rank := rankOf(r.Seq, r.Cost) - cost
	if known && rank > old.rank || !known && len(g) < 24 {
		g[r.Dest] = target{rank, from}
	}
}

// broken returns what Break returns.
func broken(t []api.Route, self, next int) []api.Route {
	self = near(self)
	g := read(t, self)
	for dest, r := range g {
		if dest != self && r.next == next && next != 255 {
			g[dest] = target{rankOf(r.seq()+1, 255), 255}
		}
	}
	return g.table()
}

// hop returns what Hop returns.
func hop(t []api.Route, dest int) (int, bool) {
	at := slices.IndexFunc(t, func(r api.Route) bool { return r.Dest == dest })
	if at < 0 || t[at].Cost < 0 || t[at].Cost > 200 {
		return 0, false
	}
	return t[at].Next, true
}

// encode returns what Encode returns.
func encode(t []api.Route) string {
	bytes, n := "", 0
	for _, r := range t {
		if usable(r) {
			bytes += string([]byte{byte(r.Dest), byte(r.Seq / 256), byte(r.Seq % 256), byte(r.Cost)})
			n++
		}
		if n == 24 {
			break
		}
	}
	return bytes
}

// decode returns what Decode returns.
func decode(s string) ([]api.Route, api.Errno) {
	if len(s)&3 != 0 {
		return nil, api.ErrShort
	}
	if len(s) >= 100 {
		return nil, api.ErrLimit
	}
	var t []api.Route
	previous := -1
	for i := 0; i < len(s); i += 4 {
		r := api.Route{Dest: int(s[i]), Seq: 256*int(s[i+1]) + int(s[i+2]), Cost: int(s[i+3]), Next: 255}
		if !usable(r) {
			return nil, api.ErrRange
		}
		if r.Dest <= previous {
			return nil, api.ErrOrder
		}
		previous = r.Dest
		t = append(t, r)
	}
	return t, api.OK
}

// The first difference ends a test, as some of them compare very many tables.

func checkTable(t *testing.T, call string, got, want []api.Route) {
	t.Helper()
	if !slices.Equal(got, want) {
		t.Fatalf("%s: got %v, want %v", call, got, want)
	}
}

func checkCheck(t *testing.T, table []api.Route, self int, want api.Errno) {
	t.Helper()
	if got := route.Check(table, self); got != want {
		t.Fatalf("Check(%v, %d): got %d, want %d", table, self, got, want)
	}
}

func checkBump(t *testing.T, table []api.Route, self int, want []api.Route) {
	t.Helper()
	if got := route.Bump(table, self); !slices.Equal(got, want) {
		t.Fatalf("Bump(%v, %d): got %v, want %v", table, self, got, want)
	}
}

func checkUpdate(t *testing.T, table []api.Route, self, from, cost int, adv, want []api.Route) {
	t.Helper()
	if got := route.Update(table, self, from, cost, adv); !slices.Equal(got, want) {
		t.Fatalf("Update(%v, %d, %d, %d, %v): got %v, want %v", table, self, from, cost, adv, got, want)
	}
}

func checkBreak(t *testing.T, table []api.Route, self, next int, want []api.Route) {
	t.Helper()
	if got := route.Break(table, self, next); !slices.Equal(got, want) {
		t.Fatalf("Break(%v, %d, %d): got %v, want %v", table, self, next, got, want)
	}
}

func checkHop(t *testing.T, list []api.Route, dest, want int, wantOk bool) {
	t.Helper()
	if got, ok := route.Hop(list, dest); got != want || ok != wantOk {
		t.Fatalf("Hop(%v, %d): got %d, %t, want %d, %t", list, dest, got, ok, want, wantOk)
	}
}

func checkEncode(t *testing.T, list []api.Route, want string) {
	t.Helper()
	if got := route.Encode(list); got != want {
		t.Fatalf("Encode(%v): got %q, want %q", list, got, want)
	}
}

func checkDecode(t *testing.T, s string, want []api.Route, wantErr api.Errno) {
	t.Helper()
	if got, err := route.Decode(s); !slices.Equal(got, want) || err != wantErr {
		t.Fatalf("Decode(%q): got %v, %d, want %v, %d", s, got, err, want, wantErr)
	}
}

// checkAll compares all functions that take a table with their models, and checks
// that their results are tables of self (P11.8), and their arguments the same.
func checkAll(t *testing.T, table []api.Route, self, neighbor, cost int, adv []api.Route) {
	t.Helper()
	before, advBefore := slices.Clone(table), slices.Clone(adv)
	checkCheck(t, table, self, checked(table, self))
	checkBump(t, table, self, bumped(table, self))
	checkUpdate(t, table, self, neighbor, cost, adv, updated(table, self, neighbor, cost, adv))
	checkBreak(t, table, self, neighbor, broken(table, self, neighbor))
	for _, dest := range []int{self, neighbor, 0, 250} {
		next, ok := hop(table, dest)
		checkHop(t, table, dest, next, ok)
	}
	checkEncode(t, table, encode(table))
	checkEncode(t, adv, encode(adv))
	if !slices.Equal(table, before) || !slices.Equal(adv, advBefore) {
		t.Fatalf("arguments were changed: %v to %v, %v to %v", before, table, advBefore, adv)
	}
	checkNotWorse(t, table, route.Bump(table, self), self)
	checkNotWorse(t, table, route.Update(table, self, neighbor, cost, adv), self)
	checkNotWorse(t, table, route.Break(table, self, neighbor), self)
}

// checkNotWorse checks what P11.8 says of a table and what it has become.
func checkNotWorse(t *testing.T, before, after []api.Route, self int) {
	t.Helper()
	self = near(self)
	checkCheck(t, after, self, api.OK)
	if route.Check(before, self) != api.OK {
		return
	}
	for _, old := range before {
		at := slices.IndexFunc(after, func(r api.Route) bool { return r.Dest == old.Dest })
		if at < 0 {
			t.Fatalf("from %v to %v, the route to %d was lost", before, after, old.Dest)
		}
		r := after[at]
		if r != old && r.Seq <= old.Seq && (r.Seq != old.Seq || r.Cost >= old.Cost) {
			t.Fatalf("from %v to %v, the route to %d has become worse", before, after, old.Dest)
		}
	}
}

// farNumbers are numbers at the ends of the range of addresses and outside it.
func farNumbers() []int {
	return []int{0, 1, 249, 250, 251, 254, 255, 256, 506, -1, -2, -6, 1 << 32, 1<<32 + 1, math.MinInt, math.MaxInt}
}

func newSource() *rand.Rand {
	return rand.New(rand.NewPCG(11, 1))
}

// randomSeq returns a sequence number; most are small, so that some are equal.
func randomSeq(source *rand.Rand) int {
	switch source.IntN(8) {
	case 0:
		return source.IntN(65536)
	case 1:
		return 65535 - source.IntN(4)
	}
	return source.IntN(9)
}

// randomCost returns a cost from first to 200, often one close to an end.
func randomCost(source *rand.Rand, first int) int {
	switch source.IntN(4) {
	case 0:
		return first + source.IntN(3)
	case 1:
		return 200 - source.IntN(3)
	}
	return first + source.IntN(201-first)
}

// randomAdvert returns a route that is usable as an advertisement.
func randomAdvert(source *rand.Rand, dest int) api.Route {
	r := api.Route{Dest: dest, Seq: randomSeq(source), Cost: noCost, Next: source.IntN(300) - 20}
	if source.IntN(3) > 0 {
		r.Seq -= r.Seq % 2
		r.Cost = randomCost(source, 0)
	}
	return r
}

// randomRoute returns a route that a table of self can have to this destination,
// through one of these neighbors.
func randomRoute(source *rand.Rand, self, dest int, neighbors []int) api.Route {
	r := randomAdvert(source, dest)
	switch {
	case dest == self:
		return api.Route{Dest: self, Seq: r.Seq - r.Seq%2, Next: self}
	case r.Cost == noCost:
		r.Next = everyone
		return r
	}
	r.Cost = max(r.Cost, 1)
	r.Next = neighbors[source.IntN(len(neighbors))]
	return r
}

// randomNodes returns different addresses; in some lists they stand close together.
func randomNodes(source *rand.Rand, length int) []int {
	span := mostNode + 1
	if source.IntN(2) == 0 {
		span = min(length+3, span)
	}
	return source.Perm(span)[:length]
}

// randomTable returns a table of this length, of the node that it returns, and
// three neighbors that its routes lead through.
func randomTable(source *rand.Rand, length int) ([]api.Route, int, []int) {
	nodes := randomNodes(source, max(length, 4))
	self, neighbors := nodes[0], slices.Clone(nodes[1:4])
	nodes = nodes[:length]
	slices.Sort(nodes)
	var table []api.Route
	for _, dest := range nodes {
		table = append(table, randomRoute(source, self, dest, neighbors))
	}
	return table, self, neighbors
}

// randomAdverts returns advertised routes, mostly to the destinations of a table,
// in any order, some of them twice, and some not usable.
func randomAdverts(source *rand.Rand, table []api.Route, length int) []api.Route {
	var adv []api.Route
	for range length {
		dest := source.IntN(mostNode + 1)
		if source.IntN(4) > 0 {
			dest = table[source.IntN(len(table))].Dest
		}
		r := randomAdvert(source, dest)
		if source.IntN(6) == 0 {
			spoil(source, &r)
		}
		adv = append(adv, r)
	}
	return adv
}

// spoil changes a field of a route, mostly so that it cannot be that of a table.
func spoil(source *rand.Rand, r *api.Route) {
	switch source.IntN(4) {
	case 0:
		r.Dest = []int{-1, 0, 250, 251, 256, math.MinInt, math.MaxInt}[source.IntN(7)]
	case 1:
		r.Seq = []int{-2, -1, 0, 1, 65534, 65535, 65536, math.MinInt, math.MaxInt}[source.IntN(9)]
	case 2:
		r.Cost = []int{-1, 0, 200, 201, 254, 255, 256, math.MinInt, math.MaxInt}[source.IntN(9)]
	case 3:
		r.Next = []int{-1, 0, 250, 251, 255, math.MinInt, math.MaxInt}[source.IntN(7)]
	}
}

// The chapter's examples: P11.3, P11.4, P11.5.
func TestExamples(t *testing.T) {
	table := route.New(1)
	checkTable(t, "New(1)", table, []api.Route{{Dest: 1, Seq: 0, Cost: 0, Next: 1}})
	adv := []api.Route{{Dest: 0, Seq: 4, Cost: 20}, {Dest: 2, Seq: 6, Cost: 0}}
	table = route.Update(table, 1, 2, 10, adv)
	checkTable(t, "Update", table, []api.Route{{Dest: 0, Seq: 4, Cost: 30, Next: 2}, {Dest: 1, Seq: 0, Cost: 0, Next: 1}, {Dest: 2, Seq: 6, Cost: 10, Next: 2}})
	checkHop(t, table, 0, 2, true)
	table = route.Break(table, 1, 2)
	want := []api.Route{{Dest: 0, Seq: 5, Cost: 255, Next: 255}, {Dest: 1, Seq: 0, Cost: 0, Next: 1}, {Dest: 2, Seq: 7, Cost: 255, Next: 255}}
	checkTable(t, "Break", table, want)
	for _, from := range []int{2, 3} {
		checkUpdate(t, table, 1, from, 10, []api.Route{{Dest: 0, Seq: 4, Cost: 5}}, want)
	}
	want[0] = api.Route{Dest: 0, Seq: 6, Cost: 15, Next: 3}
	checkUpdate(t, table, 1, 3, 10, []api.Route{{Dest: 0, Seq: 6, Cost: 5}}, want)
}

// P11.1: every address, and numbers outside.
func TestNew(t *testing.T) {
	selves := farNumbers()
	for self := -5; self <= 260; self++ {
		selves = append(selves, self)
	}
	for _, self := range selves {
		table := route.New(self)
		checkTable(t, "New", table, []api.Route{{Dest: near(self), Next: near(self)}})
		checkCheck(t, table, near(self), api.OK)
		want := api.OK
		if self != near(self) {
			want = api.ErrRange
		}
		checkCheck(t, table, self, want)
		for _, other := range []int{self + 1, self - 1} {
			if near(other) == other && near(self) == self {
				checkCheck(t, table, other, api.ErrNone)
			}
		}
		checkAll(t, table, self, 7, 10, []api.Route{{Dest: 9, Cost: 5}, {Dest: near(self), Seq: 8, Cost: 5}})
	}
}

// lists returns tables of node 5 and lists that are none, with the errors of Check.
func lists() []struct {
	t    []api.Route
	self int
	want api.Errno
} {
	own := api.Route{Dest: 5, Seq: 8, Next: 5}
	gone := api.Route{Dest: 7, Seq: 3, Cost: 255, Next: 255}
	bad := api.Route{Dest: -1}
	filled := make([]api.Route, 24)
	for i := range filled {
		filled[i] = api.Route{Dest: 2 * i, Seq: 2 * i, Cost: 1 + i, Next: 9}
	}
	filled[3] = own
	filled[4].Dest = 8
	return []struct {
		t    []api.Route
		self int
		want api.Errno
	}{
		{[]api.Route{own}, 5, api.OK},
		{[]api.Route{own, gone}, 5, api.OK},
		{[]api.Route{{Dest: 0, Cost: 1}, own, {Dest: 250, Seq: 65534, Cost: 200, Next: 250}}, 5, api.OK},
		{[]api.Route{{Dest: 0, Cost: 255, Next: 255}, own, {Dest: 250, Seq: 65535, Cost: 255, Next: 255}}, 5, api.OK},
		{[]api.Route{{Dest: 4, Seq: 6, Cost: 255, Next: 255}, own}, 5, api.OK},
		{filled, 5, api.OK},

		{append(slices.Clone(filled), gone), 5, api.ErrLimit},
		{append(slices.Clone(filled), bad), 251, api.ErrLimit},
		{append(slices.Clone(filled), filled...), 5, api.ErrLimit},
		{make([]api.Route, 24), 0, api.ErrOrder},
		{make([]api.Route, 25), 0, api.ErrLimit},

		{[]api.Route{own}, 251, api.ErrRange},
		{[]api.Route{own}, -1, api.ErrRange},
		{[]api.Route{{Dest: 255, Next: 255}}, 255, api.ErrRange},
		{nil, 251, api.ErrRange},
		{nil, math.MinInt, api.ErrRange},
		{[]api.Route{own, own}, 251, api.ErrRange},

		{[]api.Route{bad, own}, 5, api.ErrRange},
		{[]api.Route{own, {Dest: 251, Cost: 3, Next: 9}}, 5, api.ErrRange},
		{[]api.Route{own, {Dest: 255, Cost: 255, Next: 255}}, 5, api.ErrRange},
		{[]api.Route{own, {Dest: 7, Seq: -2, Cost: 3, Next: 9}}, 5, api.ErrRange},
		{[]api.Route{own, {Dest: 7, Seq: -1, Cost: 255, Next: 255}}, 5, api.ErrRange},
		{[]api.Route{own, {Dest: 7, Seq: 65536, Cost: 3, Next: 9}}, 5, api.ErrRange},
		{[]api.Route{own, {Dest: 7, Seq: 65536, Cost: 255, Next: 255}}, 5, api.ErrRange},
		{[]api.Route{own, {Dest: 7, Seq: 3, Cost: 3, Next: 9}}, 5, api.ErrRange},
		{[]api.Route{{Dest: 5, Seq: 3, Next: 5}}, 5, api.ErrRange},
		{[]api.Route{own, {Dest: 7, Seq: 65535, Cost: 3, Next: 9}}, 5, api.ErrRange},
		{[]api.Route{own, {Dest: 7, Cost: -1, Next: 9}}, 5, api.ErrRange},
		{[]api.Route{own, {Dest: 7, Cost: 201, Next: 9}}, 5, api.ErrRange},
		{[]api.Route{own, {Dest: 7, Cost: 201, Next: 255}}, 5, api.ErrRange},
		{[]api.Route{own, {Dest: 7, Cost: 254, Next: 255}}, 5, api.ErrRange},
		{[]api.Route{own, {Dest: 7, Cost: 256, Next: 255}}, 5, api.ErrRange},
		{[]api.Route{own, {Dest: 7, Cost: 3, Next: -1}}, 5, api.ErrRange},
		{[]api.Route{own, {Dest: 7, Cost: 3, Next: 251}}, 5, api.ErrRange},
		{[]api.Route{own, {Dest: 7, Cost: 3, Next: 255}}, 5, api.ErrRange},
		{[]api.Route{own, {Dest: 7, Cost: 255, Next: 9}}, 5, api.ErrRange},
		{[]api.Route{own, {Dest: 7, Cost: 255, Next: 254}}, 5, api.ErrRange},
		{[]api.Route{own, {Dest: 7, Cost: 255, Next: 256}}, 5, api.ErrRange},
		{[]api.Route{own, {Dest: 7, Cost: 255, Next: 5}}, 5, api.ErrRange},

		{[]api.Route{own, own}, 5, api.ErrOrder},
		{[]api.Route{own, gone, gone}, 5, api.ErrOrder},
		{[]api.Route{gone, own}, 5, api.ErrOrder},
		{[]api.Route{own, gone, {Dest: 6, Cost: 255, Next: 255}}, 5, api.ErrOrder},
		// The first route with an error counts, and within it the range.
		{[]api.Route{gone, own, bad}, 5, api.ErrOrder},
		{[]api.Route{gone, {Dest: 251}, own}, 5, api.ErrRange},
		{[]api.Route{gone, {Dest: 5, Seq: 1, Next: 5}}, 5, api.ErrRange},
		{[]api.Route{gone, {Dest: -1, Next: 5}}, 5, api.ErrRange},

		{nil, 5, api.ErrNone},
		{nil, 0, api.ErrNone},
		{nil, 250, api.ErrNone},
		{[]api.Route{gone}, 5, api.ErrNone},
		{[]api.Route{own}, 4, api.ErrNone},
		{[]api.Route{own}, 6, api.ErrNone},
		// Errors of order and of range come before, those of form after it.
		{[]api.Route{gone, gone}, 5, api.ErrOrder},
		{[]api.Route{{Dest: 7, Next: 255}}, 5, api.ErrRange},
		{[]api.Route{{Dest: 7, Next: 5}}, 5, api.ErrNone},

		{[]api.Route{{Dest: 5, Seq: 8, Cost: 1, Next: 5}}, 5, api.ErrForm},
		{[]api.Route{{Dest: 5, Seq: 8, Cost: 0, Next: 6}}, 5, api.ErrForm},
		{[]api.Route{{Dest: 5, Seq: 8, Cost: 3, Next: 6}}, 5, api.ErrForm},
		{[]api.Route{{Dest: 5, Seq: 8, Cost: 255, Next: 255}}, 5, api.ErrForm},
		{[]api.Route{own, {Dest: 7, Cost: 0, Next: 9}}, 5, api.ErrForm},
		{[]api.Route{own, {Dest: 7, Cost: 0, Next: 7}}, 5, api.ErrForm},
		{[]api.Route{own, {Dest: 7, Cost: 3, Next: 5}}, 5, api.ErrForm},
		{[]api.Route{{Dest: 4, Cost: 0, Next: 9}, own, gone}, 5, api.ErrForm},
		{[]api.Route{{Dest: 4, Cost: 3, Next: 5}, own, gone}, 5, api.ErrForm},
		// A later route without a form does not come before an error of order.
		{[]api.Route{{Dest: 4, Cost: 3, Next: 5}, own, own}, 5, api.ErrOrder},
	}
}

// P11.1, and what the other functions do with lists that Check rejects.
func TestCheckOfEachError(t *testing.T) {
	adv := []api.Route{{Dest: 9, Seq: 2, Cost: 7}}
	for _, row := range lists() {
		checkCheck(t, row.t, row.self, row.want)
		if row.want != api.OK {
			self := near(row.self)
			if row.self == self {
				checkBump(t, row.t, self, []api.Route{{Dest: self, Seq: 2, Next: self}})
				checkBreak(t, row.t, self, 9, route.New(self))
				checkUpdate(t, row.t, self, self, 10, adv, route.New(self))
				checkUpdate(t, row.t, self, 9, 10, nil, route.New(self))
				checkUpdate(t, row.t, self, 9, 0, adv, route.New(self))
				checkUpdate(t, row.t, self, 251, 10, adv, route.New(self))
			}
		}
		for _, neighbor := range append(farNumbers(), 5, 7, 9) {
			checkAll(t, row.t, row.self, neighbor, 10, adv)
			checkAll(t, row.t, row.self, neighbor, 200, row.t)
		}
	}
}

// P11.1: both ends of each range, in the first and in a later route.
func TestCheckOfEachRange(t *testing.T) {
	for n := -3; n <= 260; n++ {
		for _, other := range []int{0, 1, 100, 249, 250, 255} {
			for _, r := range []api.Route{
				{Dest: n, Cost: 3, Next: other}, {Dest: n, Seq: 1, Cost: 255, Next: 255}, {Dest: other, Cost: 3, Next: n},
				{Dest: other, Cost: 255, Next: n}, {Dest: other, Cost: n, Next: 8}, {Dest: other, Cost: n, Next: 255},
				{Dest: other, Seq: n, Cost: 3, Next: 8}, {Dest: other, Seq: 65280 + n, Cost: 255, Next: 255},
				{Dest: other, Seq: n, Cost: 255, Next: 255}, {Dest: other, Seq: 65280 + n, Cost: 3, Next: 8},
			} {
				for _, self := range []int{0, 1, 100, 250, n} {
					own := api.Route{Dest: self, Next: self}
					for _, table := range [][]api.Route{{r}, {r, own}, {own, r}} {
						checkCheck(t, table, self, checked(table, self))
					}
				}
			}
		}
	}
}

// P11.2: every sequence number.
func TestBump(t *testing.T) {
	for seq := 0; seq <= 65534; seq += 2 {
		table := []api.Route{{Dest: 3, Seq: 65534, Cost: 9, Next: 4}, {Dest: 5, Seq: seq, Next: 5}, {Dest: 6, Seq: 65535, Cost: 255, Next: 255}}
		want := slices.Clone(table)
		if seq < 65534 {
			want[1].Seq = seq + 2
		}
		checkBump(t, table, 5, want)
	}
}

// P11.2, P11.3, P11.4: a number self out of range is limited.
func TestSelfOutOfRange(t *testing.T) {
	first := []api.Route{{Dest: 0, Seq: 6, Next: 0}, {Dest: 9, Seq: 4, Cost: 3, Next: 9}}
	last := []api.Route{{Dest: 9, Seq: 4, Cost: 3, Next: 9}, {Dest: 250, Seq: 6, Next: 250}}
	adv := []api.Route{{Dest: 0, Seq: 8, Cost: 1}, {Dest: 9, Seq: 8, Cost: 1}, {Dest: 250, Seq: 8, Cost: 1}}
	for _, self := range []int{-1, -250, math.MinInt} {
		checkBump(t, first, self, []api.Route{{Dest: 0, Seq: 8, Next: 0}, first[1]})
		checkBreak(t, first, self, 9, []api.Route{first[0], {Dest: 9, Seq: 5, Cost: 255, Next: 255}})
		checkBreak(t, first, self, 0, first)
		checkUpdate(t, first, self, 0, 1, adv, first)
		checkUpdate(t, first, self, 9, 1, adv, []api.Route{first[0], {Dest: 9, Seq: 8, Cost: 2, Next: 9}, {Dest: 250, Seq: 8, Cost: 2, Next: 9}})
		checkBump(t, last, self, []api.Route{{Seq: 2}})
	}
	for _, self := range []int{251, 255, math.MaxInt} {
		checkBump(t, last, self, []api.Route{last[0], {Dest: 250, Seq: 8, Next: 250}})
		checkBreak(t, last, self, 9, []api.Route{{Dest: 9, Seq: 5, Cost: 255, Next: 255}, last[1]})
		checkBreak(t, last, self, 250, last)
		checkUpdate(t, last, self, 250, 1, adv, last)
		checkUpdate(t, last, self, 9, 1, adv, []api.Route{{Dest: 0, Seq: 8, Cost: 2, Next: 9}, {Dest: 9, Seq: 8, Cost: 2, Next: 9}, last[1]})
		checkBump(t, first, self, []api.Route{{Dest: 250, Seq: 2, Next: 250}})
	}
}

// P11.3: every kind of route to a destination, and every kind of advertised one.
func TestUpdateOfEachRoute(t *testing.T) {
	var old []api.Route
	for _, seq := range []int{0, 1, 2, 3, 4, 65534, 65535} {
		old = append(old, api.Route{Dest: 7, Seq: seq, Cost: 255, Next: 255})
		for _, cost := range []int{1, 2, 11, 12, 13, 199, 200} {
			if seq%2 == 0 {
				old = append(old, api.Route{Dest: 7, Seq: seq, Cost: cost, Next: 6}, api.Route{Dest: 7, Seq: seq, Cost: cost, Next: 7})
			}
		}
	}
	own := api.Route{Dest: 5, Seq: 2, Next: 5}
	for _, r := range append(old, api.Route{}) {
		table := []api.Route{own, r}
		if r == (api.Route{}) {
			table = table[:1]
		}
		for _, seq := range []int{-1, 0, 1, 2, 3, 4, 5, 6, 65533, 65534, 65535, 65536} {
			for _, cost := range []int{-1, 0, 1, 2, 9, 10, 11, 188, 189, 190, 191, 199, 200, 201, 254, 255, 256, math.MaxInt} {
				for _, from := range []int{5, 6, 7, 251, 255} {
					for _, link := range []int{-1, 0, 1, 2, 10, 199, 200, 201, 255} {
						adv := []api.Route{{Dest: 7, Seq: seq, Cost: cost, Next: -5}}
						checkUpdate(t, table, 5, from, link, adv, updated(table, 5, from, link, adv))
					}
				}
			}
		}
	}
}

// P11.3: every sum of costs.
func TestUpdateOfEachCost(t *testing.T) {
	table := []api.Route{{Dest: 5, Next: 5}, {Dest: 7, Seq: 4, Cost: 100, Next: 7}, {Dest: 8, Seq: 4, Cost: 100, Next: 6}}
	for link := -2; link <= 258; link++ {
		for cost := -2; cost <= 258; cost++ {
			for _, seq := range []int{4, 6} {
				adv := []api.Route{{Dest: 7, Seq: seq, Cost: cost}, {Dest: 8, Seq: seq, Cost: cost}, {Dest: 9, Seq: seq, Cost: cost}}
				checkUpdate(t, table, 5, 7, link, adv, updated(table, 5, 7, link, adv))
			}
		}
	}
	for _, link := range []int{math.MinInt, math.MaxInt, 1 << 32, 1<<32 + 1} {
		checkUpdate(t, table, 5, 7, link, []api.Route{{Dest: 9, Seq: 2, Cost: 1}}, table)
	}
}

// P11.3: each neighbor, and each destination.
func TestUpdateOfEachNode(t *testing.T) {
	table := []api.Route{{Dest: 5, Seq: 2, Next: 5}, {Dest: 7, Seq: 4, Cost: 100, Next: 7}, {Dest: 8, Seq: 3, Cost: 255, Next: 255}}
	nodes := farNumbers()
	for node := -5; node <= 260; node++ {
		nodes = append(nodes, node)
	}
	for _, node := range nodes {
		for _, r := range []api.Route{{Dest: 7, Seq: 6, Cost: 1}, {Dest: 7, Seq: 5, Cost: 255}, {Dest: 9, Seq: 6, Cost: 1}, {Dest: 5, Seq: 6, Cost: 1}} {
			adv := []api.Route{r}
			checkUpdate(t, table, 5, node, 10, adv, updated(table, 5, node, 10, adv))
		}
		for _, r := range []api.Route{{Dest: node, Seq: 6, Cost: 1}, {Dest: node, Seq: 5, Cost: 255}, {Dest: node, Seq: 6, Cost: 199}} {
			adv := []api.Route{r}
			checkUpdate(t, table, 5, 7, 10, adv, updated(table, 5, 7, 10, adv))
			checkUpdate(t, table, 5, 255, 10, adv, table)
		}
		checkBreak(t, table, 5, node, broken(table, 5, node))
	}
}

// P11.3: advertised routes are applied in their order, which need not ascend.
func TestUpdateInOrder(t *testing.T) {
	table := []api.Route{{Dest: 5, Next: 5}, {Dest: 7, Seq: 4, Cost: 20, Next: 6}}
	good, newer := api.Route{Dest: 7, Seq: 6, Cost: 9}, api.Route{Dest: 7, Seq: 8, Cost: 99}
	gone, bad := api.Route{Dest: 7, Seq: 7, Cost: 255}, api.Route{Dest: 7, Seq: 9, Cost: 9}
	for _, row := range []struct {
		adv  []api.Route
		want api.Route
	}{
		{[]api.Route{good, newer}, api.Route{Dest: 7, Seq: 8, Cost: 100, Next: 8}},
		{[]api.Route{newer, good}, api.Route{Dest: 7, Seq: 8, Cost: 100, Next: 8}},
		// The route leads through the neighbor 8 only after the good one.
		{[]api.Route{gone, good}, api.Route{Dest: 7, Seq: 6, Cost: 10, Next: 8}},
		{[]api.Route{good, gone}, api.Route{Dest: 7, Seq: 7, Cost: 255, Next: 255}},
		{[]api.Route{good, gone, good}, api.Route{Dest: 7, Seq: 7, Cost: 255, Next: 255}},
		{[]api.Route{good, gone, newer}, api.Route{Dest: 7, Seq: 8, Cost: 100, Next: 8}},
		{[]api.Route{bad, good, bad}, api.Route{Dest: 7, Seq: 6, Cost: 10, Next: 8}},
		{[]api.Route{gone, bad}, table[1]},
	} {
		checkUpdate(t, table, 5, 8, 1, row.adv, []api.Route{table[0], row.want})
	}
	many := []api.Route{{Dest: 9, Cost: 1}, {Dest: 2, Cost: 1}, {Dest: 250, Cost: 1}, {Dest: 5, Seq: 8, Cost: 1}, {Dest: 0, Cost: 1}}
	checkUpdate(t, table, 5, 8, 1, many, []api.Route{
		{Dest: 0, Cost: 2, Next: 8}, {Dest: 2, Cost: 2, Next: 8}, table[0], table[1], {Dest: 9, Cost: 2, Next: 8}, {Dest: 250, Cost: 2, Next: 8},
	})
}

// P11.3: a full table takes no more destinations, but better routes.
func TestFullTable(t *testing.T) {
	const self, from = 20, 33
	var table, want, better, others []api.Route
	for i := range most {
		table = append(table, api.Route{Dest: 10 * i, Seq: 4, Cost: 50, Next: 40})
		better = append(better, api.Route{Dest: 10 * i, Seq: 4, Cost: 30 + i})
		others = append(others, api.Route{Dest: 10*i + 5, Seq: 8, Cost: 1})
		if i < 19 {
			want = append(want, api.Route{Dest: 10 * i, Seq: 4, Cost: 31 + i, Next: from})
		}
	}
	want = append(want, table[19:]...)
	table[2] = api.Route{Dest: self, Next: self}
	want[2] = table[2]
	checkUpdate(t, table, self, from, 1, others, table)
	checkUpdate(t, table, self, from, 1, better, want)
	checkUpdate(t, table, self, from, 1, slices.Concat(others, better, others), want)

	// With space for two, the first two of the new destinations are added.
	short := slices.Concat(table[:10], table[12:])
	want = slices.Concat(
		table[:1], []api.Route{{Dest: 5, Seq: 8, Cost: 2, Next: from}},
		table[1:2], []api.Route{{Dest: 15, Seq: 8, Cost: 2, Next: from}}, table[2:10], table[12:],
	)
	checkUpdate(t, short, self, from, 1, others, want)

	// Routes that are lost are not added, so they take no space.
	short = table[:23]
	gone := []api.Route{{Dest: 1, Seq: 3, Cost: 255}, {Dest: 2, Seq: 2, Cost: 200}, {Dest: 3, Seq: 2, Cost: 199}, {Dest: 4, Seq: 2, Cost: 9}}
	want = slices.Insert(slices.Clone(short), 1, api.Route{Dest: 3, Seq: 2, Cost: 200, Next: from})
	checkUpdate(t, short, self, from, 1, gone, want)
}

// P11.4: routes through other neighbors, the route of self, and those that are lost
// already stay.
func TestBreak(t *testing.T) {
	table := []api.Route{
		{Dest: 1, Seq: 4, Cost: 9, Next: 7}, {Dest: 5, Seq: 6, Next: 5}, {Dest: 6, Seq: 65534, Cost: 200, Next: 7},
		{Dest: 7, Seq: 0, Cost: 1, Next: 8}, {Dest: 8, Seq: 3, Cost: 255, Next: 255}, {Dest: 9, Seq: 2, Cost: 255, Next: 255},
	}
	want := slices.Clone(table)
	want[0] = api.Route{Dest: 1, Seq: 5, Cost: 255, Next: 255}
	want[2] = api.Route{Dest: 6, Seq: 65535, Cost: 255, Next: 255}
	checkBreak(t, table, 5, 7, want)
	checkBreak(t, want, 5, 7, want)
	want[3] = api.Route{Dest: 7, Seq: 1, Cost: 255, Next: 255}
	checkBreak(t, route.Break(table, 5, 7), 5, 8, want)
	for _, next := range append(farNumbers(), 5, 6, 9) {
		checkBreak(t, table, 5, next, table)
	}
}

// P11.5: any list of routes.
func TestHop(t *testing.T) {
	list := []api.Route{
		{Dest: 7, Seq: -3, Cost: 0, Next: -9}, {Dest: 7, Cost: 9, Next: 3}, {Dest: 300, Seq: 5, Cost: 200, Next: 400},
		{Dest: 2, Cost: 201, Next: 5}, {Dest: 2, Cost: 1, Next: 5}, {Dest: 3, Cost: 255, Next: 255}, {Dest: -1, Cost: 5, Next: math.MaxInt},
		{Dest: 4, Cost: -1, Next: 6}, {Dest: math.MinInt, Cost: 7, Next: 0}, {Dest: 6, Cost: math.MinInt, Next: 6},
	}
	for _, row := range []struct {
		dest, want int
		ok         bool
	}{
		{7, -9, true}, {300, 400, true}, {2, 0, false}, {3, 0, false}, {-1, math.MaxInt, true}, {4, 0, false},
		{math.MinInt, 0, true}, {6, 0, false}, {0, 0, false}, {250, 0, false}, {math.MaxInt, 0, false}, {-9, 0, false},
	} {
		checkHop(t, list, row.dest, row.want, row.ok)
		checkHop(t, append(make([]api.Route, 100), list...), row.dest, row.want, row.ok || row.dest == 0)
	}
	for _, dest := range farNumbers() {
		checkHop(t, nil, dest, 0, false)
	}
	for cost := -300; cost <= 300; cost++ {
		ok := cost >= 0 && cost <= 200
		want := 0
		if ok {
			want = 8
		}
		checkHop(t, []api.Route{{Dest: 5, Cost: cost, Next: 8}, {Dest: 5, Next: 3}}, 5, want, ok)
	}
}

// P11.6: any list of routes, of which the first 24 that are usable count.
func TestEncode(t *testing.T) {
	checkEncode(t, nil, "")
	checkEncode(t, []api.Route{{Dest: 250, Seq: 65534, Cost: 200, Next: -7}, {Dest: 0, Seq: 258, Cost: 0}, {Dest: 0, Seq: 513, Cost: 255}}, "\xfa\xff\xfe\xc8\x00\x01\x02\x00\x00\x02\x01\xff")
	bad := []api.Route{{Dest: -1}, {Dest: 251}, {Seq: -2}, {Seq: 65536}, {Seq: 1}, {Cost: -1}, {Cost: 201}, {Cost: 254}, {Cost: 256}, {Seq: -1, Cost: 255}, {Seq: 65536, Cost: 255}, {Dest: 256}, {Dest: math.MinInt}}
	checkEncode(t, bad, "")
	var list []api.Route
	want := ""
	for i := range 40 {
		list = append(list, bad...)
		list = append(list, api.Route{Dest: 200 - i, Seq: 2 * i, Cost: i, Next: i})
		if i < most {
			want += string([]byte{byte(200 - i), 0, byte(2 * i), byte(i)})
		}
		checkEncode(t, list, want)
	}
}

// P11.6, P11.7: every destination and cost, and every sequence number.
func TestEachFourBytes(t *testing.T) {
	check := func(dest, seq, cost int) {
		s := string([]byte{byte(dest), byte(seq / 256), byte(seq % 256), byte(cost)})
		r := api.Route{Dest: dest, Seq: seq, Cost: cost, Next: 255}
		if usable(r) {
			checkDecode(t, s, []api.Route{r}, api.OK)
			checkEncode(t, []api.Route{{Dest: dest, Seq: seq, Cost: cost, Next: cost - seq}}, s)
			return
		}
		checkDecode(t, s, nil, api.ErrRange)
		checkEncode(t, []api.Route{r}, "")
	}
	for dest := range 256 {
		for cost := range 256 {
			for _, seq := range []int{0, 1, 255, 256, 257, 65534, 65535} {
				check(dest, seq, cost)
			}
		}
	}
	for seq := range 65536 {
		for _, cost := range []int{0, 1, 200, 201, 254, 255} {
			check(seq%251, seq, cost)
		}
	}
}

// P11.7: each error, and which one comes first.
func TestDecodeOfEachError(t *testing.T) {
	const a, b, lost, odd, far = "\x01\x00\x02\x09", "\x02\x01\x00\xc8", "\x03\x00\x03\xff", "\x04\x00\x03\x09", "\xfb\x00\x00\x00"
	checkDecode(t, a+b+lost, []api.Route{{Dest: 1, Seq: 2, Cost: 9, Next: 255}, {Dest: 2, Seq: 256, Cost: 200, Next: 255}, {Dest: 3, Seq: 3, Cost: 255, Next: 255}}, api.OK)
	checkDecode(t, "", nil, api.OK)
	var ascending string
	for i := range 26 {
		s := string([]byte{byte(9 * i), 0, 4, byte(i)})
		for _, rest := range []string{"", "\x01", "\xfb\x00", "\xff\xff\xff"} {
			want, err := decode(ascending + s + rest)
			checkDecode(t, ascending+s+rest, want, err)
		}
		ascending += s
	}
	for _, row := range []struct {
		s    string
		want api.Errno
	}{
		{"\x01", api.ErrShort}, {"\x01\x00", api.ErrShort}, {"\x01\x00\x02", api.ErrShort}, {a + "\x02", api.ErrShort},
		{ascending[:96] + "\x01", api.ErrShort}, {ascending[:100] + "\x01", api.ErrShort}, {ascending[:99], api.ErrShort},
		{ascending[:100], api.ErrLimit}, {ascending[:96] + far, api.ErrLimit}, {ascending + ascending, api.ErrLimit},
		{far, api.ErrRange}, {odd, api.ErrRange}, {a + odd, api.ErrRange}, {"\x01\x00\x02\xc9", api.ErrRange}, {"\x01\x00\x02\xfe", api.ErrRange},
		{a + a, api.ErrOrder}, {b + a, api.ErrOrder}, {a + b + b, api.ErrOrder}, {a + lost + b, api.ErrOrder},
		// The first route with an error counts, and within it the range.
		{b + a + far, api.ErrOrder}, {b + far + a, api.ErrRange}, {far + far, api.ErrRange}, {lost + "\x02\x00\x01\x09", api.ErrRange},
		{far + "\x01", api.ErrShort}, {b + a + "\x01", api.ErrShort},
	} {
		checkDecode(t, row.s, nil, row.want)
	}
}

// P11.7, P11.10: strings of any bytes, and those that differ in a byte from an
// encoded table.
func TestDecodeOfAnyBytes(t *testing.T) {
	source := newSource()
	for range 20000 {
		table, _, _ := randomTable(source, 1+source.IntN(most))
		s := []byte(route.Encode(table))
		switch source.IntN(3) {
		case 0:
			s[source.IntN(len(s))] = byte(source.IntN(256))
		case 1:
			s = s[:source.IntN(len(s)+1)]
		case 2:
			s = s[:4*source.IntN(3)]
			for i := range s {
				s[i] = byte(source.IntN(256))
			}
		}
		want, err := decode(string(s))
		checkDecode(t, string(s), want, err)
		if got, err := route.Decode(string(s)); err == api.OK {
			checkEncode(t, got, string(s))
		}
	}
}

// P11.10
func TestInverse(t *testing.T) {
	source := newSource()
	for length := 1; length <= most; length++ {
		for range 50 {
			table, self, _ := randomTable(source, length)
			checkCheck(t, table, self, api.OK)
			want := slices.Clone(table)
			for i := range want {
				want[i].Next = 255
			}
			checkDecode(t, route.Encode(table), want, api.OK)
			checkEncode(t, want, route.Encode(table))
		}
	}
}

// P11.2 to P11.8: tables of each length, with advertised routes of any kind.
func TestRandomTables(t *testing.T) {
	source := newSource()
	for length := 1; length <= most; length++ {
		for range 300 {
			table, self, neighbors := randomTable(source, length)
			for _, neighbor := range append(neighbors, self, source.IntN(256)) {
				adv := randomAdverts(source, table, source.IntN(30))
				checkAll(t, table, self, neighbor, randomCost(source, 1), adv)
			}
		}
	}
}

// P11.1 to P11.6, P11.8: lists that are mostly no tables.
func TestSpoiltTables(t *testing.T) {
	source := newSource()
	for range 10000 {
		table, self, neighbors := randomTable(source, 1+source.IntN(most))
		for range 1 + source.IntN(2) {
			i, k := source.IntN(len(table)), source.IntN(len(table))
			switch source.IntN(3) {
			case 0:
				table[i], table[k] = table[k], table[i]
			case 1:
				table[i].Dest = table[k].Dest
			case 2:
				spoil(source, &table[i])
			}
		}
		if source.IntN(10) == 0 {
			self = farNumbers()[source.IntN(len(farNumbers()))]
		}
		checkAll(t, table, self, neighbors[0], randomCost(source, 1), randomAdverts(source, table, 9))
	}
}

// network is several nodes, with the tables that each one has had.
type network struct {
	nodes []int
	had   map[int][][]api.Route
}

func newNetwork(nodes []int) network {
	had := map[int][][]api.Route{}
	for _, node := range nodes {
		had[node] = [][]api.Route{route.New(node)}
	}
	return network{nodes, had}
}

// latest returns the table of a node.
func (n network) latest(node int) []api.Route {
	tables := n.had[node]
	return tables[len(tables)-1]
}

// step applies one of the functions at one of the nodes, and returns that node.
func (n network) step(source *rand.Rand, eager bool) int {
	order := source.Perm(len(n.nodes))
	node, other := n.nodes[order[0]], n.nodes[order[1]]
	table := n.latest(node)
	switch source.IntN(10) {
	case 0:
		table = route.Bump(table, node)
	case 1, 2:
		table = route.Break(table, node, other)
	default:
		adv := n.had[other][source.IntN(len(n.had[other]))]
		if eager {
			adv = n.latest(other)
		}
		table = route.Update(table, node, other, randomCost(source, 1)%60+1, adv)
	}
	n.had[node] = append(n.had[node], table)
	return node
}

// checkPaths checks that following Hop visits no node twice.
func (n network) checkPaths(t *testing.T) {
	t.Helper()
	for _, dest := range n.nodes {
		for _, node := range n.nodes {
			visited := []int{node}
			for node != dest {
				next, ok := route.Hop(n.latest(node), dest)
				if !ok {
					break
				}
				if slices.Contains(visited, next) {
					t.Fatalf("towards %d, %v is followed by %d", dest, visited, next)
				}
				visited = append(visited, next)
				node = next
			}
		}
	}
}

// P11.8, P11.9: routes form no loops, whatever older tables nodes hear of.
func TestNoLoops(t *testing.T) {
	source := newSource()
	for round := range 300 {
		n := newNetwork(randomNodes(source, 2+source.IntN(5)))
		for range 150 {
			old := map[int][]api.Route{}
			for _, node := range n.nodes {
				old[node] = n.latest(node)
			}
			node := n.step(source, round%2 == 0)
			checkNotWorse(t, old[node], n.latest(node), node)
			n.checkPaths(t)
		}
	}
}

// P11.9: loops would be easy to have in this ring, as two neighbors that lose the
// way to a node each hear of the other one's older route to it.
func TestNoLoopsInARing(t *testing.T) {
	n := newNetwork([]int{0, 1, 2})
	hear := func(node, from int, adv []api.Route) {
		n.had[node] = append(n.had[node], route.Update(n.latest(node), node, from, 10, adv))
		n.checkPaths(t)
	}
	lose := func(node, next int) {
		n.had[node] = append(n.had[node], route.Break(n.latest(node), node, next))
		n.checkPaths(t)
	}
	hear(1, 0, n.latest(0))
	hear(2, 1, n.latest(1))
	hear(2, 0, n.latest(0))
	hear(1, 2, n.latest(2))
	older := n.latest(2)
	lose(1, 0)
	hear(1, 2, older)
	checkHop(t, n.latest(1), 0, 0, false)
	lose(2, 0)
	hear(2, 1, n.had[1][1])
	checkHop(t, n.latest(2), 0, 0, false)
	n.had[0] = append(n.had[0], route.Bump(n.latest(0), 0))
	hear(1, 0, n.latest(0))
	hear(2, 1, n.latest(1))
	checkHop(t, n.latest(1), 0, 0, true)
	checkHop(t, n.latest(2), 0, 1, true)
}

// R5: results are new memory, and the space behind an argument is not used.
func TestMemory(t *testing.T) {
	source := newSource()
	for range 1000 {
		table, self, neighbors := randomTable(source, 1+source.IntN(most))
		behind := api.Route{Dest: 99, Seq: 99, Cost: 99, Next: 99}
		whole := append(table, behind, behind)
		table = whole[:len(whole)-2]
		adv := randomAdverts(source, table, 5)
		before, advBefore := slices.Clone(whole), slices.Clone(adv)
		encoded := route.Encode(table)
		decoded, _ := route.Decode(encoded)
		again, _ := route.Decode(encoded)
		for _, after := range [][]api.Route{
			route.Bump(table, self), route.Bump(whole, self), decoded, route.New(self),
			route.Update(table, self, neighbors[0], 9, adv), route.Update(table, self, neighbors[0], 9, nil),
			route.Update(table, self, self, 9, adv), route.Update(table, self, neighbors[0], 0, adv),
			route.Update(table, self, neighbors[0], 9, table), route.Update(table, self, neighbors[0], 1, []api.Route{{Dest: 251}, {Dest: 97}}),
			route.Break(table, self, neighbors[1]), route.Break(table, self, 255), route.Break(table, self, self),
		} {
			for i := range after {
				after[i] = api.Route{Dest: -1, Seq: -1, Cost: -1, Next: -1}
			}
			_ = append(after, behind)
		}
		if !slices.Equal(whole, before) || !slices.Equal(adv, advBefore) {
			t.Fatalf("arguments were changed: %v to %v, %v to %v", before, whole, advBefore, adv)
		}
		checkDecode(t, encoded, again, api.OK)
		checkTable(t, "New", route.New(self), []api.Route{{Dest: self, Next: self}})
	}
}

// R4
func TestNilAndEmptyAreTheSame(t *testing.T) {
	for _, empty := range [][]api.Route{nil, {}, make([]api.Route, 0, 9)} {
		checkCheck(t, empty, 5, api.ErrNone)
		checkEncode(t, empty, "")
		checkBump(t, empty, 5, []api.Route{{Dest: 5, Seq: 2, Next: 5}})
		checkUpdate(t, route.New(5), 5, 6, 1, empty, route.New(5))
		for _, n := range farNumbers() {
			checkAll(t, empty, n, 6, 1, []api.Route{{Dest: 9}})
			checkAll(t, []api.Route{{Dest: 5, Next: 5}}, 5, n, 1, empty)
		}
	}
}

// R7
func TestCallsAreIndependent(t *testing.T) {
	source := newSource()
	for range 500 {
		table, self, neighbors := randomTable(source, 9)
		other, otherSelf, _ := randomTable(source, 12)
		adv := randomAdverts(source, table, 9)
		bump, update, lost := route.Bump(table, self), route.Update(table, self, neighbors[0], 9, adv), route.Break(table, self, neighbors[0])
		checkAll(t, other, otherSelf, neighbors[0], 9, adv)
		checkBump(t, table, self, bump)
		checkUpdate(t, table, self, neighbors[0], 9, adv, update)
		checkBreak(t, table, self, neighbors[0], lost)
	}
}
