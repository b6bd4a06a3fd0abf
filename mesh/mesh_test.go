package mesh_test

import (
	"math"
	"slices"
	"strings"
	"testing"

	"homehub/api"
	"homehub/mesh"
	"homehub/node"
	"homehub/route"
	"homehub/topo"
)

// The first difference ends a test, as some of them compare very many meshes.

func check(t *testing.T, what string, got, want api.Mesh) {
	t.Helper()
	if !same(got, want) {
		t.Fatalf("%s:\ngot  %+v\nwant %+v", what, got, want)
	}
}

func checkNew(t *testing.T, addrs, polls []int, want api.Errno) api.Mesh {
	t.Helper()
	addrsBefore, pollsBefore := slices.Clone(addrs), slices.Clone(polls)
	m, err := mesh.New(addrs, polls)
	if err != want {
		t.Fatalf("New(%v, %v): got error %d, want %d", addrs, polls, err, want)
	}
	wantMesh, _ := made(addrs, polls)
	check(t, "New", m, wantMesh)
	if !slices.Equal(addrs, addrsBefore) || !slices.Equal(polls, pollsBefore) {
		t.Fatalf("New changed its arguments: %v, %v", addrs, polls)
	}
	return m
}

func checkSend(t *testing.T, m api.Mesh, source, target int, urgent bool, text string) {
	t.Helper()
	want, wantErr := sending(m, source, target, urgent, text)
	got, err := mesh.Send(m, source, target, urgent, text)
	if err != wantErr {
		t.Fatalf("Send(%+v, %d, %d, %t, %q): got error %d, want %d", m, source, target, urgent, text, err, wantErr)
	}
	check(t, "Send", got, want)
}

func checkTake(t *testing.T, m api.Mesh, addr int) {
	t.Helper()
	want, wantInbox := taken(m, addr)
	got, inbox := mesh.Take(m, addr)
	check(t, "Take", got, want)
	if !slices.Equal(inbox, wantInbox) {
		t.Fatalf("Take at %d: got %v, want %v", addr, inbox, wantInbox)
	}
}

func checkRestart(t *testing.T, m api.Mesh, addr int) {
	t.Helper()
	check(t, "Restart", mesh.Restart(m, addr), restarted(m, addr))
}

func checkStep(t *testing.T, m api.Mesh, a api.Air) {
	t.Helper()
	check(t, "Step", mesh.Step(m, a), stepped(m, a))
}

func checkPath(t *testing.T, m api.Mesh, from, to int, want []int, wantOk bool) {
	t.Helper()
	got, ok := mesh.Path(m, from, to)
	if !slices.Equal(got, want) || ok != wantOk {
		t.Fatalf("Path(%+v, %d, %d): got %v, %t, want %v, %t", m, from, to, got, ok, want, wantOk)
	}
}

func checkLoops(t *testing.T, m api.Mesh, want bool) {
	t.Helper()
	if got := mesh.Loops(m); got != want {
		t.Fatalf("Loops(%+v): got %t", m, got)
	}
}

// checkWays compares the functions that follow routes with their models.
func checkWays(t *testing.T, m api.Mesh, addrs ...int) {
	t.Helper()
	for _, from := range addrs {
		for _, to := range addrs {
			want, ok := path(m, from, to)
			checkPath(t, m, from, to, want, ok)
		}
	}
	checkLoops(t, m, loops(m))
}

func checkPending(t *testing.T, m api.Mesh, want int) {
	t.Helper()
	if got := mesh.Pending(m); got != want {
		t.Fatalf("Pending(%+v): got %d, want %d", m, got, want)
	}
}

// checkAll compares all functions with their models, and checks that they do not change
// the mesh or the medium.
func checkAll(t *testing.T, m api.Mesh, a api.Air, addr int, f api.Frame) {
	t.Helper()
	before := copied(m)
	edges, off, noisy := slices.Clone(a.Edges), slices.Clone(a.Off), slices.Clone(a.Noisy)
	checkStep(t, m, a)
	checkSend(t, m, addr, f.Target, f.Urgent, f.Data)
	checkTake(t, m, addr)
	checkRestart(t, m, addr)
	checkWays(t, m, addr, f.Source, f.Target, f.To)
	checkPending(t, m, pending(m))
	check(t, "the argument", m, before)
	if !slices.Equal(a.Edges, edges) || !slices.Equal(a.Off, off) || !slices.Equal(a.Noisy, noisy) {
		t.Fatalf("Step changed the medium: %+v", a)
	}
}

// newMesh returns a mesh of nodes that do not sleep.
func newMesh(t *testing.T, addrs ...int) api.Mesh {
	t.Helper()
	return newSleepy(t, addrs, nil)
}

func newSleepy(t *testing.T, addrs, polls []int) api.Mesh {
	t.Helper()
	m, err := mesh.New(addrs, polls)
	if err != api.OK {
		t.Fatalf("New(%v, %v): error %d", addrs, polls, err)
	}
	return m
}

// linked returns a medium with links from each of the nodes to the next one.
func linked(nodes ...int) api.Air {
	var a api.Air
	for i := 1; i < len(nodes); i++ {
		a.Edges = append(a.Edges, api.Edge{A: nodes[i-1], B: nodes[i]})
	}
	return a
}

func steps(m api.Mesh, a api.Air, count int) api.Mesh {
	for range count {
		m = mesh.Step(m, a)
	}
	return m
}

// at returns the node with an address.
func at(t *testing.T, m api.Mesh, addr int) api.Node {
	t.Helper()
	place := placeOf(m.Nodes, addr)
	if place < 0 {
		t.Fatalf("there is no node %d in %+v", addr, m)
	}
	return m.Nodes[place]
}

func checkInbox(t *testing.T, n api.Node, want ...api.Delivery) {
	t.Helper()
	if !slices.Equal(n.Inbox, want) {
		t.Fatalf("inbox of %d: got %v, want %v", n.Addr, n.Inbox, want)
	}
}

func send(t *testing.T, m api.Mesh, source, target int, text string) api.Mesh {
	t.Helper()
	m, err := mesh.Send(m, source, target, false, text)
	if err != api.OK {
		t.Fatalf("Send from %d to %d: error %d", source, target, err)
	}
	return m
}

// data returns a data frame with a text in one piece, whose next hop is known.
func data(from, to int, text string) api.Frame {
	return api.Frame{Kind: api.FkData, From: from, To: to, Source: from, Target: to, Data: "\x00\x00\x01" + text}
}

func queue(frames ...api.Frame) []api.Sending {
	var q []api.Sending
	for _, f := range frames {
		q = append(q, api.Sending{Frame: f})
	}
	return q
}

// plain returns a node that has just started, with frames to transmit.
func plain(addr int, frames ...api.Frame) api.Node {
	n := node.New(addr, 0)
	n.Out = queue(frames...)
	return n
}

// between returns the numbers from one to another.
func between(first, last int) []int {
	var l []int
	for n := first; n <= last; n++ {
		l = append(l, n)
	}
	return l
}

// The examples of the chapter.

func TestExampleOfNew(t *testing.T) {
	m := checkNew(t, []int{3, 0}, []int{8}, api.OK)
	if len(m.Nodes) != 2 || m.Nodes[0].Addr != 0 || m.Nodes[1].Addr != 3 || m.Nodes[0].Poll != 0 || m.Nodes[1].Poll != 8 {
		t.Errorf("got %+v", m)
	}
}

func TestExampleOfALine(t *testing.T) {
	a := linked(0, 1, 2)
	m := steps(newMesh(t, 0, 1, 2), a, 40)
	checkPath(t, m, 0, 2, []int{0, 1, 2}, true)
	m = send(t, m, 0, 2, "hello")
	m, inbox := mesh.Take(steps(m, a, 10), 2)
	if !slices.Equal(inbox, []api.Delivery{{Source: 0, Text: "hello"}}) {
		t.Errorf("got %v", inbox)
	}
	checkInbox(t, at(t, m, 2))
}

// P19.1
func TestNewOfEveryCount(t *testing.T) {
	d := newDice()
	for count := range 40 {
		want := api.OK
		if count > mostNode {
			want = api.ErrLimit
		}
		for polls := range 2 + count {
			addrs := d.Perm(lastAddr + 1)[:count]
			m := checkNew(t, addrs, d.Perm(polls + 5)[:polls], want)
			if m.Tick != 0 || !slices.IsSortedFunc(m.Nodes, func(a, b api.Node) int { return a.Addr - b.Addr }) {
				t.Fatalf("New(%v): got %+v", addrs, m)
			}
		}
	}
}

// P19.1: the polls are those of package node.
func TestNewOfEveryPoll(t *testing.T) {
	for _, poll := range append(farNumbers(), between(-10, 20)...) {
		m := checkNew(t, []int{9, 4, 7}, []int{poll, 5}, api.OK)
		if got, want := at(t, m, 9), node.New(9, poll); !sameNode(got, want) {
			t.Errorf("poll %d: got %+v, want %+v", poll, got, want)
		}
		if at(t, m, 4).Poll != 5 || at(t, m, 7).Poll != 0 {
			t.Errorf("poll %d: got %+v", poll, m)
		}
	}
}

// P19.1
func TestErrorsOfNew(t *testing.T) {
	for _, row := range []struct {
		addrs []int
		want  api.Errno
	}{
		{nil, api.OK},
		{[]int{250}, api.OK},
		{[]int{251}, api.ErrRange},
		{[]int{-1}, api.ErrRange},
		{[]int{255}, api.ErrRange},
		{[]int{0, 0}, api.ErrDup},
		{[]int{250, 0, 250}, api.ErrDup},
		{between(1, 24), api.OK},
		{between(227, 250), api.OK},
		{between(1, 25), api.ErrLimit},
		{between(228, 251), api.ErrRange},
		// The number of addresses comes first.
		{append(between(1, 24), 251), api.ErrLimit},
		{append(between(1, 24), 24), api.ErrLimit},
		{make([]int, 24), api.ErrDup},
		{make([]int, 25), api.ErrLimit},
		{make([]int, 1<<20), api.ErrLimit},
		// Then the first address that has an error.
		{[]int{1, 2, 1, 251}, api.ErrDup},
		{[]int{1, 251, 1}, api.ErrRange},
		{[]int{1, 251, 251}, api.ErrRange},
		{[]int{-1, 3, 3}, api.ErrRange},
		{[]int{3, 3, -1}, api.ErrDup},
	} {
		checkNew(t, row.addrs, nil, row.want)
		checkNew(t, row.addrs, []int{4, 5, 6, 7}, row.want)
	}
}

// P19.1: every number at every place.
func TestNewOfEveryNumber(t *testing.T) {
	for _, n := range append(between(-300, 600), farNumbers()...) {
		want := api.ErrRange
		switch {
		case n == 9 || n == 0 || n == 250:
			want = api.ErrDup
		case n >= 0 && n <= lastAddr:
			want = api.OK
		}
		for place := range 4 {
			checkNew(t, slices.Insert([]int{9, 0, 250}, place, n), []int{5}, want)
		}
	}
}

// P19.2
func TestTickOfStep(t *testing.T) {
	for _, row := range []struct{ tick, want int }{
		{0, 1},
		{41, 42},
		{-1, 1},
		{-2, 1},
		{math.MinInt, 1},
		{lastTick - 2, lastTick - 1},
		{lastTick - 1, lastTick},
		{lastTick, lastTick},
		{lastTick + 1, lastTick},
		{math.MaxInt, lastTick},
	} {
		for _, addrs := range [][]int{nil, between(0, 7)} {
			m := newMesh(t, addrs...)
			m.Tick = row.tick
			for _, a := range []api.Air{linked(0, 1, 2), {Off: between(0, 7)}, {Off: []int{251}}} {
				if got := mesh.Step(m, a); got.Tick != row.want {
					t.Errorf("tick %d: got %d, want %d", row.tick, got.Tick, row.want)
				}
				checkStep(t, m, a)
			}
		}
	}
}

// P19.2: nodes begin the new tick, not the one before: of the nodes 0 to 7 the one whose
// tick it is sends a beacon, and its neighbor hears it.
func TestStepIsTheNewTick(t *testing.T) {
	a := linked(0, 1, 2, 3, 4, 5, 6, 7, 0)
	for before := range 20 {
		m := newMesh(t, between(0, 7)...)
		m.Tick = before
		m = mesh.Step(m, a)
		for _, n := range m.Nodes {
			isNeighbor := (n.Addr+1)%8 == (before+1)%8 || (n.Addr+7)%8 == (before+1)%8
			if got := len(n.Links) == 1; got != isNeighbor {
				t.Errorf("tick %d: the links of %d are %v", before+1, n.Addr, n.Links)
			}
		}
	}
}

// P19.2: a node that is off is not even brought into order.
func TestNodesThatAreOff(t *testing.T) {
	strange := api.Node{Addr: 1, Poll: 2, Parent: 999, Seq: -5, Lost: -3, Children: []int{7, 7}}
	strange.Out = make([]api.Sending, 30)
	m := newMesh(t, 0, 2)
	m.Tick = 7
	m.Nodes = append(m.Nodes, strange)
	a := linked(0, 1, 2)
	a.Off = []int{1}
	got := mesh.Step(m, a)
	if !sameNode(at(t, got, 1), strange) {
		t.Errorf("got %+v", at(t, got, 1))
	}
	if len(at(t, got, 0).Table) != 1 || at(t, got, 0).Table[0].Seq != 2 {
		t.Errorf("the node 0 is on: %+v", at(t, got, 0))
	}
	a.Off = []int{2, 0, 1, 0}
	check(t, "Step", mesh.Step(m, a), api.Mesh{Tick: 8, Nodes: m.Nodes})
}

// P19.2: in a medium that Check rejects, all nodes are on, but have no links.
func TestStepInARejectedMedium(t *testing.T) {
	for _, spoil := range []func(*api.Air){
		func(a *api.Air) { a.Off = append(a.Off, 251) },
		func(a *api.Air) { a.Off = append(a.Off, make([]int, 25)...) },
		func(a *api.Air) { a.Noisy = append(a.Noisy, -1) },
		func(a *api.Air) { a.Edges = append(a.Edges, a.Edges[0]) },
	} {
		a := linked(0, 1)
		a.Off = []int{0, 1}
		spoil(&a)
		m := newMesh(t, 0, 1)
		m.Tick = 7
		got := mesh.Step(m, a)
		checkStep(t, m, a)
		if at(t, got, 0).Table[0].Seq != 2 || len(at(t, got, 1).Links) != 0 {
			t.Errorf("%+v: got %+v", a, got)
		}
	}
}

// P19.2: whether a node is on depends on its address before the tick, and whether it
// receives a frame on the one that it has then.
func TestAddressesOutOfRange(t *testing.T) {
	for _, row := range []struct{ addr, nearest int }{{251, 250}, {300, 250}, {math.MaxInt, 250}, {-1, 0}, {math.MinInt, 0}} {
		sender := plain(7, data(7, row.nearest, "x"))
		m := api.Mesh{Tick: 20, Nodes: []api.Node{{Addr: row.addr}, sender}}
		a := linked(row.nearest, 7)
		got := mesh.Step(m, a)
		checkStep(t, m, a)
		checkInbox(t, got.Nodes[0], api.Delivery{Source: 7, Text: "x"})
		if got.Nodes[0].Addr != row.nearest || len(got.Nodes[1].Out) != 0 {
			t.Errorf("%d: got %+v", row.addr, got)
		}
		// It is on, though it receives nothing.
		a.Off = []int{row.nearest}
		got = mesh.Step(m, a)
		checkStep(t, m, a)
		checkInbox(t, got.Nodes[0])
		if got.Nodes[0].Addr != row.nearest || len(got.Nodes[1].Out) != 1 {
			t.Errorf("%d: got %+v", row.addr, got)
		}
	}
}

// P19.2: all frames are chosen before any is heard, so that a frame goes one hop in each
// tick, in both directions.
func TestFramesAreChosenFirst(t *testing.T) {
	a := linked(0, 1, 2, 3, 4)
	m := steps(newMesh(t, between(0, 4)...), a, 80)
	for _, row := range []struct{ from, to int }{{0, 4}, {4, 0}} {
		now := send(t, m, row.from, row.to, "on")
		for hop := range 4 {
			checkInbox(t, at(t, now, row.to))
			if hop < 3 {
				checkPending(t, silent(now), 1)
			}
			now = mesh.Step(now, a)
		}
		checkInbox(t, at(t, now, row.to), api.Delivery{Source: row.from, Text: "on"})
	}
}

// silent returns a mesh without beacons.
func silent(m api.Mesh) api.Mesh {
	m = copied(m)
	for i, n := range m.Nodes {
		m.Nodes[i].Out = slices.DeleteFunc(n.Out, func(s api.Sending) bool { return s.Frame.Kind == api.FkBeacon })
	}
	return m
}

// P19.2: frames are heard in the order of the list, which need not be that of addresses.
func TestOrderOfFrames(t *testing.T) {
	a := linked(1, 9, 2)
	a.Edges = append(a.Edges, api.Edge{A: 9, B: 3})
	one, two, three, hearer := plain(1, data(1, 9, "a")), plain(2, data(2, 9, "b")), plain(3, data(3, 9, "c")), plain(9)
	for _, row := range []struct {
		nodes []api.Node
		want  string
	}{
		{[]api.Node{one, two, three, hearer}, "abc"},
		{[]api.Node{hearer, three, one, two}, "cab"},
		{[]api.Node{two, one, hearer, three}, "bac"},
	} {
		got := mesh.Step(api.Mesh{Tick: 50, Nodes: row.nodes}, a)
		var heard strings.Builder
		for _, message := range at(t, got, 9).Inbox {
			heard.WriteString(message.Text)
		}
		if heard.String() != row.want {
			t.Errorf("got %q, want %q", heard.String(), row.want)
		}
	}
}

// child returns a sleepy node with a parent.
func child(addr, parent int) api.Node {
	n := node.New(addr, 10)
	n.Parent = parent
	return n
}

// P19.2: what a sleeping node does not hear was not acknowledged.
func TestFrameToASleepingNode(t *testing.T) {
	for now := 41; now <= 50; now++ {
		m := api.Mesh{Tick: now - 1, Nodes: []api.Node{plain(2, data(2, 5, "x")), child(5, 0)}}
		got := mesh.Step(m, linked(2, 5))
		if isHeard := now <= 42 || now == 50; isHeard {
			checkInbox(t, got.Nodes[1], api.Delivery{Source: 2, Text: "x"})
			checkPending(t, silent(api.Mesh{Nodes: got.Nodes[:1]}), 0)
			continue
		}
		checkInbox(t, got.Nodes[1])
		if out := got.Nodes[0].Out; len(out) == 0 || out[0].Tries != 1 {
			t.Errorf("at %d: got %+v", now, out)
		}
	}
}

// P19.2: a frame to a node that does not exist was not acknowledged, though the medium
// says so.
func TestFrameToNobody(t *testing.T) {
	m := api.Mesh{Tick: 50, Nodes: []api.Node{plain(2, data(2, 5, "x"))}}
	got := mesh.Step(m, linked(2, 5, 7))
	if out := got.Nodes[0].Out; len(out) != 1 || out[0].Tries != 1 || len(got.Nodes[0].Links) != 1 {
		t.Errorf("got %+v", got)
	}
}

// P19.2: a noisy sender does not hear that its frame was heard.
func TestFrameOfANoisySender(t *testing.T) {
	m := api.Mesh{Tick: 50, Nodes: []api.Node{plain(2, data(2, 5, "x")), plain(5)}}
	a := linked(2, 5)
	a.Noisy = []int{2}
	got := mesh.Step(m, a)
	checkInbox(t, got.Nodes[1], api.Delivery{Source: 2, Text: "x"})
	if out := got.Nodes[0].Out; len(out) != 1 || out[0].Tries != 1 {
		t.Errorf("got %+v", out)
	}
	a.Noisy = []int{5}
	got = mesh.Step(m, a)
	checkInbox(t, got.Nodes[1])
	if out := got.Nodes[0].Out; len(out) != 1 || out[0].Tries != 1 {
		t.Errorf("got %+v", out)
	}
}

// P19.2: a frame to all counts as acknowledged, whoever hears it. The node 0 sends a
// beacon at 48 and at 72, and a child with the poll 10 sleeps at 48, and hears at 72.
func TestBroadcastIsAcknowledged(t *testing.T) {
	for _, row := range []struct {
		now    int
		others []api.Node
		air    api.Air
		heard  int
	}{
		{48, nil, api.Air{}, 0},
		{48, nil, linked(0, 5), 0},
		{48, []api.Node{plain(5)}, api.Air{}, 0},
		{48, []api.Node{plain(5)}, linked(0, 5), 1},
		{72, []api.Node{child(5, 0)}, linked(0, 5), 1},
		{48, []api.Node{child(3, 0), child(5, 0)}, linked(3, 0, 5), 0},
		{48, []api.Node{child(3, 0), plain(5), plain(250)}, linked(3, 0, 250, 3, 5, 0, 9), 2},
		{48, []api.Node{plain(5)}, api.Air{Edges: []api.Edge{{A: 0, B: 5}}, Noisy: []int{0, 5}}, 0},
	} {
		m := api.Mesh{Tick: row.now - 1, Nodes: append([]api.Node{plain(0)}, row.others...)}
		got := mesh.Step(m, row.air)
		checkStep(t, m, row.air)
		if n := got.Nodes[0]; len(n.Out) != 0 || n.Lost != 0 || n.Table[0].Seq != 2 {
			t.Errorf("%+v: the beacon was not sent: %+v", row.air, n)
		}
		heard := 0
		for _, n := range got.Nodes[1:] {
			heard += len(n.Links)
		}
		if heard != row.heard {
			t.Errorf("%+v: heard by %d, want %d", row.air, heard, row.heard)
		}
	}
}

// P19.2: whether a node is awake is asked when it would hear the frame: what it heard
// before in this tick counts, and what it hears by this frame does not.
func TestAwakeAtThisMoment(t *testing.T) {
	beacon := api.Frame{
		Kind: api.FkBeacon, From: 1, To: everyone, Source: 1, Target: everyone,
		Data: route.Encode([]api.Route{{Dest: 0, Seq: 2, Cost: 10}, {Dest: 1}}),
	}
	part := data(1, 9, strings.Repeat("x", 64))
	part.Data = "\x00\x00\x02" + part.Data[3:]
	sleeper, dozer := node.New(9, 10), child(9, 2)
	dozer.Parts = []api.Parts{{Source: 1, Count: 2, Since: 50, Have: []bool{true, false}, Data: []string{strings.Repeat("x", 64), ""}}}
	last := data(1, 9, "y")
	last.Data = "\x00\x01\x02y"
	for _, row := range []struct {
		what          string
		first, second api.Frame
		hearer        api.Node
		isSecondHeard bool
	}{
		{"falls asleep by a beacon", beacon, data(2, 9, "b"), sleeper, false},
		{"falls asleep by the end of a message", last, data(2, 9, "b"), dozer, false},
		{"has no parent", data(1, 9, "a"), data(2, 9, "b"), sleeper, true},
		{"has heard a part", part, data(2, 9, "b"), sleeper, true},
	} {
		m := api.Mesh{Tick: 54, Nodes: []api.Node{plain(1, row.first), plain(2, row.second), row.hearer}}
		got := mesh.Step(m, linked(1, 9, 2))
		if len(got.Nodes[0].Out) != 0 {
			t.Errorf("%s: the first frame was not acknowledged", row.what)
		}
		second := slices.Contains(got.Nodes[2].Inbox, api.Delivery{Source: 2, Text: "b"})
		if second != row.isSecondHeard || second != (len(got.Nodes[1].Out) == 0) {
			t.Errorf("%s: got %+v", row.what, got)
		}
	}
}

// P19.2: of several nodes with an address only the first one receives, but each one
// transmits, and has its own result.
func TestNodesWithOneAddress(t *testing.T) {
	m := api.Mesh{Tick: 50, Nodes: []api.Node{
		plain(7),
		plain(4, data(4, 5, "no")), // to a node that does not exist
		plain(4, data(4, 7, "yes")),
		plain(7, data(7, 4, "back")),
	}}
	got := mesh.Step(m, linked(7, 4, 5))
	checkInbox(t, got.Nodes[0], api.Delivery{Source: 4, Text: "yes"})
	checkInbox(t, got.Nodes[1], api.Delivery{Source: 7, Text: "back"})
	checkInbox(t, got.Nodes[2])
	checkInbox(t, got.Nodes[3])
	for place, want := range []int{0, 1, 0, 0} {
		if n := got.Nodes[place]; len(n.Out) != want {
			t.Errorf("place %d: got %+v, want %d entries", place, n.Out, want)
		}
	}
	// Each of them is off if its address is.
	a := linked(7, 4, 5)
	a.Off = []int{4}
	off := mesh.Step(m, a)
	if len(off.Nodes[1].Out) != 1 || off.Nodes[1].Out[0].Tries != 0 || !sameNode(off.Nodes[2], m.Nodes[2]) {
		t.Errorf("got %+v", off)
	}
	if out := off.Nodes[3].Out; len(out) != 1 || out[0].Tries != 1 {
		t.Errorf("got %+v", out)
	}
}

// P19.2: a node that transmits nothing has no result, whatever it has in Out.
func TestSilentNode(t *testing.T) {
	for _, wait := range []int{2, 3, 9} {
		n := plain(3)
		n.Out = []api.Sending{{Wait: wait}, {Frame: api.Frame{To: everyone}, Wait: wait}}
		got := mesh.Step(api.Mesh{Tick: 49, Nodes: []api.Node{n, plain(4)}}, linked(3, 4))
		for _, entry := range got.Nodes[0].Out {
			if entry.Tries != 0 || entry.Wait != wait-1 {
				t.Errorf("got %+v", entry)
			}
		}
		checkPending(t, got, 2)
	}
}

// P19.2: a frame is sent from its From, also if another node sends it.
func TestFrameFromAnotherAddress(t *testing.T) {
	beacon := api.Frame{Kind: api.FkBeacon, From: 3, To: everyone, Source: 3, Target: everyone}
	m := api.Mesh{Tick: 50, Nodes: []api.Node{plain(1, beacon), plain(2), plain(3)}}
	a := linked(2, 1, 3)
	got := mesh.Step(m, a)
	checkStep(t, m, a)
	if len(got.Nodes[0].Links) != 1 || got.Nodes[0].Links[0].Node != 3 || len(got.Nodes[0].Out) != 0 || len(got.Nodes[1].Links) != 0 {
		t.Errorf("got %+v", got)
	}
}

// P19.2: random meshes, media and frames.
func TestStepAndTheOthers(t *testing.T) {
	d := newDice()
	for range 20000 {
		addr := d.oneOf(d.addr(), d.addr(), d.addr(), d.far())
		f := d.frame()
		if d.rarely(10) {
			f.Data = strings.Repeat("d", d.oneOf(999, 1000, 1001, 1<<16))
		}
		if d.rarely(10) {
			f.Target = d.far()
		}
		checkAll(t, d.mesh(), d.air(), addr, f)
	}
}

// P19.2: long sequences of ticks.
func TestManySteps(t *testing.T) {
	d := newDice()
	for range 60 {
		got, a := d.new(), d.air()
		want := got
		for range 400 {
			if d.rarely(20) {
				a = d.air()
			}
			source, target, text := d.addr(), d.addr(), d.text()
			if after, err := sending(want, source, target, false, text); err == 0 {
				want = after
				got = send(t, got, source, target, text)
			}
			want, got = stepped(want, a), mesh.Step(got, a)
			check(t, "Step", got, want)
		}
	}
}

// P19.3
func TestErrorsOfSend(t *testing.T) {
	m := newMesh(t, 0, 3, 250)
	for _, row := range []struct {
		source, target int
		text           string
		want           api.Errno
	}{
		{3, 0, "a", api.OK},
		{3, 7, "a", api.OK},
		{250, 3, "", api.OK},
		{3, 3, strings.Repeat("a", 1000), api.OK},
		{0, 250, strings.Repeat("a", 1000), api.OK},
		{1, 0, "a", api.ErrNone},
		{251, 0, "a", api.ErrNone},
		{-1, 0, "a", api.ErrNone},
		{math.MinInt, 0, "a", api.ErrNone},
		{255, 0, "a", api.ErrNone},
		{3, 251, "a", api.ErrRange},
		{3, 255, "a", api.ErrRange},
		{3, -1, "a", api.ErrRange},
		{3, 0, strings.Repeat("a", 1001), api.ErrLimit},
		{3, 3, strings.Repeat("a", 1001), api.ErrLimit},
		// That there is no such node comes first.
		{1, 251, "a", api.ErrNone},
		{1, 0, strings.Repeat("a", 1001), api.ErrNone},
		{3, 251, strings.Repeat("a", 1001), api.ErrRange},
	} {
		for _, urgent := range []bool{false, true} {
			got, err := mesh.Send(m, row.source, row.target, urgent, row.text)
			if err != row.want || err != api.OK && (got.Tick != 0 || got.Nodes != nil) {
				t.Errorf("Send from %d to %d: got %+v, %d, want %d", row.source, row.target, got, err, row.want)
			}
			checkSend(t, m, row.source, row.target, urgent, row.text)
		}
	}
	for range 16 {
		m = send(t, m, 3, 0, "a")
	}
	for _, source := range []int{0, 3, 4} {
		checkSend(t, m, source, 250, false, "b")
		checkSend(t, m, source, 250, true, "b")
	}
	if got, err := mesh.Send(m, 3, 0, false, "b"); err != api.ErrFull || got.Nodes != nil {
		t.Errorf("a full queue: got %+v, %d", got, err)
	}
}

// P19.3
func TestSend(t *testing.T) {
	m := newMesh(t, 0, 3, 9)
	m.Tick = 11
	got := send(t, m, 3, 9, strings.Repeat("a", 100))
	checkPending(t, got, 2)
	if out := at(t, got, 3).Out; got.Tick != 11 || len(out) != 2 || out[0].Frame.Source != 3 || out[0].Frame.Target != 9 || out[0].Frame.Urgent {
		t.Errorf("got %+v", got)
	}
	urgent, err := mesh.Send(got, 3, 0, true, "b")
	if out := at(t, urgent, 3).Out; err != api.OK || len(out) != 3 || !out[0].Frame.Urgent || out[0].Frame.Target != 0 {
		t.Errorf("got %+v, %d", urgent, err)
	}
	own := send(t, m, 3, 3, "c")
	checkInbox(t, at(t, own, 3), api.Delivery{Source: 3, Text: "c"})
	checkPending(t, own, 0)
}

// P19.3
func TestTake(t *testing.T) {
	m := newMesh(t, 0, 3, 9)
	m.Tick = 11
	for _, text := range []string{"a", "b"} {
		m = send(t, m, 3, 3, text)
	}
	m = send(t, m, 9, 9, "c")
	for _, addr := range []int{-1, 1, 8, 251, 255, math.MaxInt} {
		got, inbox := mesh.Take(m, addr)
		check(t, "Take at nobody", got, m)
		if inbox != nil {
			t.Errorf("Take at %d: got %v", addr, inbox)
		}
	}
	got, inbox := mesh.Take(m, 3)
	if got.Tick != 11 || !slices.Equal(inbox, []api.Delivery{{Source: 3, Text: "a"}, {Source: 3, Text: "b"}}) {
		t.Errorf("got %+v, %v", got, inbox)
	}
	checkInbox(t, at(t, got, 3))
	checkInbox(t, at(t, got, 9), api.Delivery{Source: 9, Text: "c"})
	if _, inbox = mesh.Take(got, 3); len(inbox) != 0 {
		t.Errorf("taken again: %v", inbox)
	}
}

// P19.3: what is in flash memory stays, without finite routes but the own one.
func TestRestart(t *testing.T) {
	old := api.Node{
		Addr: 5, Poll: 7, Parent: 2, Seq: 77, Lost: 3,
		Table: []api.Route{
			{Dest: 0, Seq: 4, Cost: 20, Next: 2},
			{Dest: 2, Seq: 8, Cost: 10, Next: 2},
			{Dest: 3, Seq: 11, Cost: 255, Next: everyone},
			{Dest: 5, Seq: 6, Next: 5},
			{Dest: 9, Seq: 65534, Cost: 30, Next: 9},
		},
		Links:    []api.Link{{Node: 2, Bits: 1, Count: 1}},
		Out:      queue(data(5, 2, "x")),
		Children: []int{8},
		Boxes:    []api.Mail{{Frame: data(5, 8, "y")}},
		Seen:     []api.Pair{{Source: 1, Seq: 2}},
		Parts:    []api.Parts{{Source: 1, Count: 2, Have: []bool{true, false}, Data: []string{"", ""}}},
		Inbox:    []api.Delivery{{Source: 1, Text: "z"}},
	}
	want := api.Node{
		Addr: 5, Poll: 7, Parent: everyone, Seq: 77,
		Table: []api.Route{
			{Dest: 0, Seq: 5, Cost: 255, Next: everyone},
			{Dest: 2, Seq: 9, Cost: 255, Next: everyone},
			{Dest: 3, Seq: 11, Cost: 255, Next: everyone},
			{Dest: 5, Seq: 6, Next: 5},
			{Dest: 9, Seq: 65535, Cost: 255, Next: everyone},
		},
	}
	m := api.Mesh{Tick: 9, Nodes: []api.Node{plain(3, data(3, 5, "w")), old, plain(5), plain(2)}}
	check(t, "Restart", mesh.Restart(m, 5), api.Mesh{Tick: 9, Nodes: []api.Node{m.Nodes[0], want, m.Nodes[2], m.Nodes[3]}})
	for _, addr := range []int{0, 1, 4, 6, 251, 255, -1, math.MinInt, math.MaxInt} {
		check(t, "Restart of nobody", mesh.Restart(m, addr), m)
	}
	again := mesh.Restart(mesh.Restart(m, 5), 5)
	check(t, "Restart again", again, mesh.Restart(m, 5))
}

// P19.3: a table that is none becomes one only if there is something to break.
func TestRestartOfStrangeTables(t *testing.T) {
	for _, addr := range []int{5, 250, 300, -7} {
		for _, table := range [][]api.Route{
			nil,
			{{Dest: 5, Next: addr, Cost: 3}},
			{{Dest: 5, Next: addr}, {Dest: 5, Next: addr}},
			{{Dest: 9, Seq: 3, Cost: 255, Next: everyone}},
			{{Dest: addr, Next: addr}, {Dest: 3, Cost: 7, Next: 3}},
			{{Dest: addr, Next: addr}, {Dest: 3, Cost: 7, Next: 256}},
			{{Dest: 5, Next: 250}},
			{{Dest: 5, Next: 0}},
			{{Dest: 5, Next: -1}},
		} {
			m := api.Mesh{Nodes: []api.Node{{Addr: addr, Seq: -8, Table: table}}}
			checkRestart(t, m, addr)
			want := table
			if slices.ContainsFunc(table, func(r api.Route) bool { return r.Next != addr && r.Next != everyone }) {
				want = route.New(addr)
			}
			got := mesh.Restart(m, addr).Nodes[0]
			if !slices.Equal(got.Table, want) || got.Seq != -8 || got.Addr != nearest(addr, 0, lastAddr) {
				t.Errorf("%d, %v: got %+v", addr, table, got)
			}
		}
	}
}

// P19.3: the first node with an address is the one.
func TestFirstNodeWithAnAddress(t *testing.T) {
	first, second := plain(4, data(4, 5, "a")), plain(4, data(4, 6, "b"))
	first.Inbox, second.Inbox = []api.Delivery{{Text: "c"}}, []api.Delivery{{Text: "d"}}
	first.Table = []api.Route{{Dest: 1, Cost: 10, Next: 1}, {Dest: 4, Next: 4}}
	second.Table = []api.Route{{Dest: 1, Cost: 10, Next: 2}, {Dest: 4, Next: 4}}
	m := api.Mesh{Nodes: []api.Node{plain(1), first, plain(2), second}}
	for _, got := range []api.Mesh{send(t, m, 4, 9, "e"), mesh.Restart(m, 4)} {
		if sameNode(got.Nodes[1], first) || !sameNode(got.Nodes[3], second) {
			t.Errorf("got %+v", got)
		}
	}
	if _, inbox := mesh.Take(m, 4); !slices.Equal(inbox, []api.Delivery{{Text: "c"}}) {
		t.Errorf("got %v", inbox)
	}
	checkPath(t, m, 4, 1, []int{4, 1}, true)
}

// routed returns a node with routes, each to a destination by a next hop.
func routed(addr int, hops ...[2]int) api.Node {
	n := api.Node{Addr: addr}
	for _, hop := range hops {
		n.Table = append(n.Table, api.Route{Dest: hop[0], Cost: 10, Next: hop[1]})
	}
	return n
}

// P19.4
func TestPath(t *testing.T) {
	m := api.Mesh{Nodes: []api.Node{
		routed(0, [2]int{3, 1}, [2]int{1, 1}, [2]int{8, 1}, [2]int{6, 6}, [2]int{7, 0}),
		routed(1, [2]int{3, 2}, [2]int{0, 0}, [2]int{8, 2}, [2]int{7, 0}),
		routed(2, [2]int{3, 3}, [2]int{8, 1}, [2]int{0, 1}),
		routed(3, [2]int{3, 0}),
		{Addr: 7},
		routed(300, [2]int{-5, 0}),
	}}
	m.Nodes[2].Table = append(m.Nodes[2].Table, api.Route{Dest: 7, Cost: 255, Next: 7}, api.Route{Dest: 1, Cost: 201, Next: 1})
	for _, row := range []struct {
		from, to int
		want     []int
		ok       bool
	}{
		{0, 3, []int{0, 1, 2, 3}, true},
		{2, 0, []int{2, 1, 0}, true},
		{1, 0, []int{1, 0}, true},
		{0, 0, []int{0}, true},
		{7, 7, []int{7}, true},
		{3, 3, []int{3}, true},
		{300, 300, []int{300}, true},
		// There is no next hop.
		{7, 0, nil, false},
		{3, 0, nil, false},
		{2, 7, nil, false},
		{2, 1, nil, false},
		// The nodes 6 and 9 do not exist.
		{0, 6, nil, false},
		{6, 0, nil, false},
		{6, 6, nil, false},
		{9, 9, nil, false},
		{0, 9, nil, false},
		{0, 255, nil, false},
		{-1, 0, nil, false},
		{-1, -1, nil, false},
		{251, 251, nil, false},
		{300, -5, nil, false},
		// A node occurs twice.
		{0, 8, nil, false},
		{1, 8, nil, false},
		{0, 7, nil, false},
		{1, 7, nil, false},
	} {
		checkPath(t, m, row.from, row.to, row.want, row.ok)
	}
}

// P19.4: all routes of up to four nodes to one of them, to a node that does not exist,
// and to one in between.
func TestEveryFewRoutes(t *testing.T) {
	const missing, none = 9, -1
	hops := []int{0, 1, 2, 3, missing, none}
	for chosen := range 6 * 6 * 6 * 6 {
		for _, dest := range []int{0, 2, missing} {
			var m api.Mesh
			rest := chosen
			for addr := range 4 {
				n := api.Node{Addr: addr}
				if next := hops[rest%6]; next != none {
					n = routed(addr, [2]int{dest, next})
				}
				m.Nodes = append(m.Nodes, n)
				rest /= 6
			}
			checkWays(t, m, 0, 1, 2, 3, missing)
		}
	}
}

// P19.4
func TestLoops(t *testing.T) {
	circle := []api.Node{routed(0, [2]int{5, 1}), routed(1, [2]int{5, 2}), routed(2, [2]int{5, 0})}
	for _, row := range []struct {
		what  string
		nodes []api.Node
		want  bool
	}{
		{"nobody", nil, false},
		{"a node without routes", []api.Node{{Addr: 3}}, false},
		{"a route to itself", []api.Node{routed(3, [2]int{3, 3})}, false},
		{"a route by itself", []api.Node{routed(3, [2]int{4, 3})}, true},
		{"by itself, not finite", []api.Node{{Addr: 3, Table: []api.Route{{Dest: 4, Cost: 255, Next: 3}}}}, false},
		{"a circle", circle, true},
		{"a circle that is cut", circle[:2], false},
		{"a circle behind a node", append([]api.Node{routed(4, [2]int{5, 0})}, circle...), true},
		{"a circle of others", append([]api.Node{{Addr: 4}}, circle...), true},
		{"a circle in the second destination", []api.Node{routed(0, [2]int{1, 1}, [2]int{5, 1}), routed(1, [2]int{0, 0}, [2]int{5, 0})}, true},
		{"two destinations", []api.Node{routed(0, [2]int{1, 1}, [2]int{5, 1}), routed(1, [2]int{0, 0})}, false},
		{"through the destination", append([]api.Node{routed(5, [2]int{5, 0})}, routed(0, [2]int{5, 5})), false},
		{"the first route counts", []api.Node{routed(0, [2]int{5, 5}, [2]int{5, 1}), routed(1, [2]int{5, 0})}, false},
		{"the first route that is not finite", []api.Node{{Addr: 0, Table: []api.Route{{Dest: 5, Cost: 255}, {Dest: 5, Next: 0}}}}, false},
		{"another node of the same address", []api.Node{routed(0, [2]int{5, 6}), routed(1, [2]int{5, 0}), routed(0, [2]int{5, 1})}, false},
		{"its second node leads to a circle", []api.Node{{Addr: 3}, routed(0, [2]int{5, 1}), routed(1, [2]int{5, 0}), routed(3, [2]int{5, 0})}, true},
	} {
		m := api.Mesh{Nodes: row.nodes}
		if got := mesh.Loops(m); got != row.want || got != loops(m) {
			t.Errorf("%s: got %t", row.what, got)
		}
	}
}

// P19.4: ways and circles of every length.
func TestLongWays(t *testing.T) {
	for length := 1; length <= 300; length++ {
		var m api.Mesh
		for addr := range length {
			m.Nodes = append(m.Nodes, routed(addr, [2]int{length - 1, addr + 1}, [2]int{1000, (addr + 1) % length}))
		}
		checkPath(t, m, 0, length-1, between(0, length-1), true)
		checkPath(t, m, 0, 1000, nil, false)
		if length%50 != 0 {
			continue
		}
		checkLoops(t, m, true)
		m.Nodes[length-1].Table = nil
		checkLoops(t, m, false)
	}
}

// P19.4
func TestPending(t *testing.T) {
	checkPending(t, api.Mesh{}, 0)
	checkPending(t, newMesh(t, 0, 1, 2), 0)
	n := plain(4, data(4, 1, "a"), data(4, 2, "b"))
	n.Boxes = make([]api.Mail, 5)
	n.Inbox, n.Parts, n.Seen = make([]api.Delivery, 3), make([]api.Parts, 3), make([]api.Pair, 3)
	checkPending(t, api.Mesh{Nodes: []api.Node{n}}, 7)
	long := api.Node{Addr: -9, Out: make([]api.Sending, 40), Boxes: make([]api.Mail, 50)}
	checkPending(t, api.Mesh{Tick: 3, Nodes: []api.Node{n, plain(4), long, plain(1, data(1, 2, "c"))}}, 98)
}

// R5: results share no memory with arguments, or with each other.
func TestMemory(t *testing.T) {
	d := newDice()
	for range 3000 {
		m, a, addr, text := d.mesh(), d.air(), d.addr(), d.text()
		for _, do := range []func(api.Mesh) api.Mesh{
			func(m api.Mesh) api.Mesh { return mesh.Step(m, a) },
			func(m api.Mesh) api.Mesh { return mesh.Restart(m, addr) },
			func(m api.Mesh) api.Mesh { return mesh.Restart(m, 255) },
			func(m api.Mesh) api.Mesh { after, _ := mesh.Send(m, addr, 3, false, text); return after },
			func(m api.Mesh) api.Mesh { after, _ := mesh.Take(m, addr); return after },
			func(m api.Mesh) api.Mesh { after, _ := mesh.Take(m, 255); return after },
		} {
			checkMemory(t, copied(m), do)
		}
		after, inbox := mesh.Take(m, addr)
		want, wantInbox := copied(after), slices.Clone(inbox)
		for _, n := range slices.Concat(m.Nodes, after.Nodes) {
			overwrite(n)
		}
		if !slices.Equal(inbox, wantInbox) || len(after.Nodes) != len(want.Nodes) {
			t.Fatalf("the messages share memory: %v, %v", inbox, wantInbox)
		}
	}
}

// checkMemory overwrites the argument of a function, and then the nodes of its result one
// by one, and checks that nothing else changes.
func checkMemory(t *testing.T, m api.Mesh, do func(api.Mesh) api.Mesh) {
	t.Helper()
	if len(m.Nodes) > 1 {
		m.Nodes = append(m.Nodes, m.Nodes[0]) // shares its memory
	}
	before := copied(m)
	after := do(m)
	want := copied(after)
	check(t, "the argument", m, before)
	for _, n := range m.Nodes {
		overwrite(n)
	}
	fill(m.Nodes, api.Node{Addr: 77})
	check(t, "the result", after, want)
	for i, n := range after.Nodes {
		overwrite(n)
		for k, other := range after.Nodes[i+1:] {
			if !sameNode(other, want.Nodes[i+1+k]) {
				t.Fatalf("the nodes at %d and %d share memory", i, i+1+k)
			}
		}
	}
}

// network returns random links of the nodes.
func network(d dice, nodes []int, percent int) api.Air {
	var a api.Air
	for i, n := range nodes {
		for _, other := range nodes[:i] {
			if d.IntN(100) < percent && len(a.Edges) < 256 {
				a.Edges = append(a.Edges, api.Edge{A: n, B: other})
			}
		}
	}
	return a
}

// disturbed returns a medium in which something has changed.
func disturbed(d dice, a api.Air, nodes []int) api.Air {
	some := func() []int { return d.Perm(len(nodes))[:d.IntN(1+len(nodes)/3)] }
	switch d.IntN(5) {
	case 0:
		a.Off = some()
	case 1:
		a.Noisy = some()
	case 2:
		a.Off, a.Noisy = nil, nil
	case 3:
		a.Edges = network(d, nodes, d.oneOf(10, 20, 50)).Edges
	case 4:
		if len(a.Edges) > 0 {
			a.Edges = slices.Delete(slices.Clone(a.Edges), 0, 1)
		}
	}
	return a
}

// message is a message with its ends.
type message struct {
	source, target int
	text           string
}

// life is a mesh, and all that was sent in it.
type life struct {
	dice
	mesh  api.Mesh
	addrs []int
	sent  map[message]bool
	count int
}

// P19.5, P5: whatever happens, there are no loops, the addresses stay, and what is taken
// was sent.
func TestAnyLife(t *testing.T) {
	d := newDice()
	deliveries := 0
	for round := range 80 {
		count := d.oneOf(2, 4, 8, 24)
		polls := make([]int, count)
		for i := range polls {
			polls[i] = d.oneOf(0, 0, 0, 0, 4, 7, 20)
		}
		addrs := d.Perm(count)
		l := life{dice: d, mesh: newSleepy(t, addrs, polls), addrs: between(0, count-1), sent: map[message]bool{}}
		if round%8 == 0 {
			l.mesh.Tick = lastTick - 300
		}
		a := network(d, l.addrs, d.oneOf(10, 30, 80))
		for range 500 {
			if d.rarely(15) {
				a = disturbed(d, a, l.addrs)
			}
			l.act(t, a)
			l.check(t)
		}
		deliveries += l.count
	}
	if deliveries < 1000 {
		t.Errorf("only %d messages arrived", deliveries)
	}
}

// act lets a tick pass, and some messages be sent and taken.
func (l *life) act(t *testing.T, a api.Air) {
	t.Helper()
	before := l.mesh.Tick
	l.mesh = mesh.Step(l.mesh, a)
	if l.mesh.Tick != min(before+1, lastTick) {
		t.Fatalf("tick %d after %d", l.mesh.Tick, before)
	}
	one := func() int { return l.IntN(len(l.addrs)) }
	if l.rarely(2) {
		m := message{source: one(), target: one(), text: l.letters()}
		if after, err := mesh.Send(l.mesh, m.source, m.target, l.rarely(4), m.text); err == api.OK {
			l.mesh = after
			l.sent[m] = true
		}
	}
	if l.rarely(3) {
		l.take(t, one())
	}
	if l.rarely(25) {
		l.mesh = mesh.Restart(l.mesh, one())
	}
}

// letters returns a text that is not likely to be sent twice.
func (l *life) letters() string {
	text := make([]byte, l.oneOf(6, 10, 63, 64, 65, 200))
	for i := range text {
		text[i] = byte('a' + l.IntN(26))
	}
	return string(text)
}

func (l *life) take(t *testing.T, addr int) {
	t.Helper()
	after, inbox := mesh.Take(l.mesh, addr)
	l.mesh = after
	for _, got := range inbox {
		if len(got.Text) <= 64 && !l.sent[message{got.Source, addr, got.Text}] {
			t.Fatalf("%d has taken what was not sent: %+v", addr, got)
		}
		l.count++
	}
}

// check checks what holds at any time.
func (l *life) check(t *testing.T) {
	t.Helper()
	if mesh.Loops(l.mesh) {
		t.Fatalf("loops: %+v", l.mesh)
	}
	for place, n := range l.mesh.Nodes {
		if n.Addr != l.addrs[place] {
			t.Fatalf("the address %d at %d", n.Addr, place)
		}
	}
}

// P4: once the medium is undisturbed for long enough, the routes reach every node that
// can be reached.
func TestRoutesReachAll(t *testing.T) {
	d := newDice()
	for range 40 {
		count := d.oneOf(2, 4, 8, 24)
		nodes := between(0, count-1)
		m := newMesh(t, d.Perm(count)...)
		a := network(d, nodes, d.oneOf(10, 30, 60))
		for range 300 {
			if d.rarely(15) {
				a = disturbed(d, a, nodes)
			}
			if d.rarely(30) {
				m = mesh.Restart(m, d.IntN(count))
			}
			m = mesh.Step(m, a)
		}
		a.Off, a.Noisy = nil, nil
		m = steps(m, a, 16*count+400)
		for from := range count {
			for _, to := range topo.Reach(a.Edges, from) {
				way, ok := mesh.Path(m, from, to)
				if !ok || way[0] != from || way[len(way)-1] != to {
					t.Fatalf("from %d to %d in %+v: got %v, %t", from, to, a, way, ok)
				}
				for i := 1; i < len(way); i++ {
					if !slices.Contains(topo.Near(a.Edges, way[i]), way[i-1]) {
						t.Fatalf("the way %v is not in %+v", way, a)
					}
				}
			}
		}
	}
}

// P2: an urgent message of 16 pieces needs at most 16 D + 16 ticks to a node at D hops,
// whatever else waits in the queues.
func TestUrgentMessageIsInTime(t *testing.T) {
	for hops := 1; hops <= 14; hops++ {
		a := linked(between(0, hops)...)
		m := steps(newMesh(t, between(0, hops)...), a, 40*hops)
		for addr := range hops {
			m = send(t, m, addr, hops, strings.Repeat("x", 300))
		}
		text := strings.Repeat("y", 1000)
		m, err := mesh.Send(m, 0, hops, true, text)
		if err != api.OK {
			t.Fatalf("error %d", err)
		}
		m = steps(m, a, 16*hops+16)
		if !slices.Contains(at(t, m, hops).Inbox, api.Delivery{Source: 0, Text: text}) {
			t.Errorf("%d hops: got %v", hops, at(t, m, hops).Inbox)
		}
	}
}

// P19.2: a parent keeps a message for its child until it polls.
func TestMessageToASleepingNode(t *testing.T) {
	a := linked(0, 1, 2)
	m := steps(newSleepy(t, []int{0, 1, 2}, []int{0, 0, 20}), a, 84)
	checkPath(t, m, 0, 2, []int{0, 1, 2}, true)
	m = send(t, m, 0, 2, "wake up")
	for m.Tick < 99 {
		m = mesh.Step(m, a)
		checkInbox(t, at(t, m, 2))
	}
	if len(at(t, m, 1).Boxes) != 1 {
		t.Fatalf("the parent: %+v", at(t, m, 1))
	}
	m = steps(m, a, 3)
	checkInbox(t, at(t, m, 2), api.Delivery{Source: 0, Text: "wake up"})
	checkPending(t, silent(m), 0)
}
