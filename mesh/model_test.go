package mesh_test

import (
	"math"
	"math/rand/v2"
	"slices"
	"strings"

	"homehub/api"
	"homehub/node"
	"homehub/radio"
	"homehub/route"
)

const (
	lastTick = 1 << 40
	everyone = 255
	lastAddr = 250
	mostNode = 24
)

// The models of the functions. They replace nodes of a copied list, and never change one;
// what a node does is left to package node, and who hears it to package radio.

func nearest(n, least, most int) int {
	switch {
	case n < least:
		return least
	case n > most:
		return most
	}
	return n
}

// placeOf returns the place of the node with an address, or -1.
func placeOf(l []api.Node, addr int) int {
	for i, n := range l {
		if n.Addr == addr {
			return i
		}
	}
	return -1
}

// made returns what New returns.
func made(addrs, polls []int) (api.Mesh, api.Errno) {
	var m api.Mesh
	if len(addrs) >= 25 {
		return m, api.ErrLimit
	}
	known := map[int]int{}
	for i, addr := range addrs {
		if addr != nearest(addr, 0, lastAddr) {
			return m, api.ErrRange
		}
		if _, isKnown := known[addr]; isKnown {
			return m, api.ErrDup
		}
		known[addr] = i
	}
	for addr := range 251 {
		i, isKnown := known[addr]
		switch {
		case isKnown && i < len(polls):
			m.Nodes = append(m.Nodes, node.New(addr, polls[i]))
		case isKnown:
			m.Nodes = append(m.Nodes, node.New(addr, 0))
		}
	}
	return m, 0
}

// stepped returns what Step returns.
func stepped(m api.Mesh, a api.Air) api.Mesh {
	now := nearest(m.Tick, 0, lastTick-1) + 1
	after := api.Mesh{Tick: now, Nodes: slices.Clone(m.Nodes)}
	frames := make([]*api.Frame, len(m.Nodes))
	for i, n := range m.Nodes {
		if radio.Check(a) == 0 && slices.Contains(a.Off, n.Addr) {
			continue
		}
		talked, f, ok := node.Talk(node.Tick(n, now), now)
		after.Nodes[i] = talked
		if ok {
			frames[i] = &f
		}
	}
	for i, f := range frames {
		if f != nil {
			isHeard := heard(after.Nodes, a, now, *f)
			after.Nodes[i] = node.Result(after.Nodes[i], *f, isHeard)
		}
	}
	return after
}

// heard lets nodes hear a frame, and returns whether it is acknowledged.
func heard(l []api.Node, a api.Air, now int, f api.Frame) bool {
	receivers, ok := radio.Deliver(a, f)
	count := 0
	for _, addr := range receivers {
		if i := placeOf(l, addr); i >= 0 && node.Awake(l[i], now) {
			l[i] = node.Hear(l[i], now, f)
			count++
		}
	}
	return ok && (count > 0 || f.To == everyone)
}

// sending returns what Send returns.
func sending(m api.Mesh, source, target int, urgent bool, text string) (api.Mesh, api.Errno) {
	i := placeOf(m.Nodes, source)
	if i < 0 {
		return api.Mesh{}, api.ErrNone
	}
	n, err := node.Send(m.Nodes[i], target, urgent, text)
	if err != 0 {
		return api.Mesh{}, err
	}
	return with(m, i, n), 0
}

// with returns a mesh with another node at a place.
func with(m api.Mesh, place int, n api.Node) api.Mesh {
	m.Nodes = slices.Clone(m.Nodes)
	m.Nodes[place] = n
	return m
}

// taken returns what Take returns.
func taken(m api.Mesh, addr int) (api.Mesh, []api.Delivery) {
	i := placeOf(m.Nodes, addr)
	if i < 0 {
		return m, nil
	}
	n, inbox := node.Take(m.Nodes[i])
	return with(m, i, n), inbox
}

// restarted returns what Restart returns.
func restarted(m api.Mesh, addr int) api.Mesh {
	i := placeOf(m.Nodes, addr)
	if i < 0 {
		return m
	}
	old := m.Nodes[i]
	n := node.New(addr, old.Poll)
	n.Seq, n.Table = old.Seq, old.Table
	for _, r := range old.Table {
		switch r.Next {
		case addr, everyone:
		default:
			n.Table = route.Break(n.Table, addr, r.Next)
		}
	}
	return with(m, i, n)
}

// The ends of a way.
const (
	arrives = iota
	stops
	returns
)

// end follows the routes from a node at a place, and returns the nodes on the way and how
// it ends.
func end(m api.Mesh, place, to int) ([]int, int) {
	var way []int
	known := map[int]bool{}
	for place >= 0 {
		n := m.Nodes[place]
		if known[place] {
			return way, returns
		}
		known[place] = true
		way = append(way, n.Addr)
		if n.Addr == to {
			return way, arrives
		}
		next, ok := route.Hop(n.Table, to)
		if !ok {
			break
		}
		place = placeOf(m.Nodes, next)
	}
	return way, stops
}

// path returns what Path returns.
func path(m api.Mesh, from, to int) ([]int, bool) {
	way, how := end(m, placeOf(m.Nodes, from), to)
	if how == arrives {
		return way, true
	}
	return nil, false
}

// loops returns what Loops returns.
func loops(m api.Mesh) bool {
	for place, n := range m.Nodes {
		for _, r := range n.Table {
			if _, how := end(m, place, r.Dest); how == returns {
				return true
			}
		}
	}
	return false
}

// pending returns what Pending returns.
func pending(m api.Mesh) int {
	var sent []api.Sending
	var mails []api.Mail
	for _, n := range m.Nodes {
		sent, mails = append(sent, n.Out...), append(mails, n.Boxes...)
	}
	return len(sent) + len(mails)
}

// same reports whether two meshes are equal. A nil slice is the same as an empty one.
func same(a, b api.Mesh) bool {
	return a.Tick == b.Tick && slices.EqualFunc(a.Nodes, b.Nodes, sameNode)
}

func sameNode(a, b api.Node) bool {
	return a.Addr == b.Addr && a.Poll == b.Poll && a.Parent == b.Parent && a.Seq == b.Seq && a.Lost == b.Lost &&
		slices.Equal(a.Table, b.Table) && slices.Equal(a.Links, b.Links) && slices.Equal(a.Out, b.Out) &&
		slices.Equal(a.Children, b.Children) && slices.Equal(a.Boxes, b.Boxes) && slices.Equal(a.Seen, b.Seen) &&
		slices.EqualFunc(a.Parts, b.Parts, sameParts) && slices.Equal(a.Inbox, b.Inbox)
}

func sameParts(a, b api.Parts) bool {
	return a.Source == b.Source && a.Id == b.Id && a.Count == b.Count && a.Since == b.Since &&
		slices.Equal(a.Have, b.Have) && slices.Equal(a.Data, b.Data)
}

// copied returns a mesh in memory of its own.
func copied(m api.Mesh) api.Mesh {
	m.Nodes = slices.Clone(m.Nodes)
	for i, n := range m.Nodes {
		m.Nodes[i] = copiedNode(n)
	}
	return m
}

func copiedNode(n api.Node) api.Node {
	n.Table, n.Links, n.Out = slices.Clone(n.Table), slices.Clone(n.Links), slices.Clone(n.Out)
	n.Children, n.Boxes, n.Seen = slices.Clone(n.Children), slices.Clone(n.Boxes), slices.Clone(n.Seen)
	n.Parts, n.Inbox = slices.Clone(n.Parts), slices.Clone(n.Inbox)
	for i, p := range n.Parts {
		n.Parts[i].Have, n.Parts[i].Data = slices.Clone(p.Have), slices.Clone(p.Data)
	}
	return n
}

// overwrite overwrites all memory of a node, also what its slices could grow into.
func overwrite(n api.Node) {
	fill(n.Table, api.Route{Dest: 77})
	fill(n.Links, api.Link{Node: 77})
	fill(n.Out, api.Sending{Tries: 77})
	fill(n.Children, 77)
	fill(n.Boxes, api.Mail{Since: 77})
	fill(n.Seen, api.Pair{Source: 77})
	for _, p := range n.Parts {
		fill(p.Data, "77")
		for i := range p.Have {
			p.Have[i] = !p.Have[i]
		}
	}
	fill(n.Parts, api.Parts{Source: 77})
	fill(n.Inbox, api.Delivery{Source: 77})
}

func fill[T any](l []T, x T) {
	l = l[:cap(l)]
	for i := range l {
		l[i] = x
	}
}

// farNumbers are numbers at the ends of the fields of meshes, and of int.
func farNumbers() []int {
	return []int{
		math.MinInt, math.MinInt + 1, -1 << 40, -256, -6, -1, 0, 1, 2, 3, 4, 249, 250, 251, 252, 254, 255, 256, 257, 261,
		65535, 65536, 1 << 32, lastTick - 2, lastTick - 1, lastTick, lastTick + 1, math.MaxInt - 1, math.MaxInt,
	}
}

// dice makes random meshes and media.
type dice struct{ *rand.Rand }

func newDice() dice {
	return dice{rand.New(rand.NewPCG(19, 1))}
}

// oneOf returns one of some numbers.
func (d dice) oneOf(numbers ...int) int {
	return numbers[d.IntN(len(numbers))]
}

// rarely is true once in some times.
func (d dice) rarely(times int) bool {
	return d.IntN(times) == 0
}

func (d dice) far() int {
	return d.oneOf(farNumbers()...)
}

// addr returns one of few addresses.
func (d dice) addr() int {
	return d.oneOf(0, 1, 2, 3, 4, 5, 6, 250)
}

// text returns a text, of which most fit into one frame.
func (d dice) text() string {
	return strings.Repeat(string(rune('a'+d.IntN(26))), d.oneOf(0, 1, 2, 3, 20, 63, 64, 65, 130))
}

// new returns a mesh of up to eight nodes.
func (d dice) new() api.Mesh {
	var addrs, polls []int
	for _, i := range d.Perm(8)[:d.IntN(9)] {
		addrs = append(addrs, []int{0, 1, 2, 3, 4, 5, 6, 250}[i])
		polls = append(polls, d.oneOf(0, 0, 0, 4, 5, 10))
	}
	m, _ := made(addrs, polls)
	m.Tick = d.IntN(50)
	return m
}

// air returns a medium of these few addresses, which is rarely one that Check rejects.
func (d dice) air() api.Air {
	var a api.Air
	percent := d.oneOf(10, 30, 60, 100)
	nodes := []int{0, 1, 2, 3, 4, 5, 6, 250}
	for i, n := range nodes {
		for _, other := range nodes[:i] {
			if d.IntN(100) < percent {
				a.Edges = append(a.Edges, api.Edge{A: n, B: other})
			}
		}
	}
	for range d.oneOf(0, 0, 1, 3) {
		a.Off = append(a.Off, d.addr())
	}
	for range d.oneOf(0, 0, 1, 3) {
		a.Noisy = append(a.Noisy, d.addr())
	}
	switch d.IntN(40) {
	case 0:
		a.Edges = append(a.Edges, api.Edge{A: 1, B: 1})
	case 1:
		a.Off = append(a.Off, 251)
	case 2:
		a.Noisy = append(a.Noisy, -1)
	case 3:
		a.Off = append(a.Off, make([]int, 25)...)
	}
	return a
}

// lived returns a mesh after some time.
func (d dice) lived() api.Mesh {
	m := d.new()
	a := d.air()
	for range d.IntN(40) {
		switch d.IntN(12) {
		case 0, 1, 2:
			if after, err := sending(m, d.addr(), d.addr(), d.rarely(3), d.text()); err == 0 {
				m = after
			}
		case 3:
			m, _ = taken(m, d.addr())
		case 4:
			m = restarted(m, d.addr())
		case 5:
			a = d.air()
		default:
			m = stepped(m, a)
		}
	}
	return m
}

// frame returns a frame that a node may have in Out, whoever sent it.
func (d dice) frame() api.Frame {
	f := api.Frame{
		Kind: d.oneOf(1, 2, 2, 2, 3, 4), From: d.addr(), To: d.oneOf(everyone, everyone, d.addr(), 251), Source: d.addr(),
		Target: d.addr(), Seq: 2 * d.IntN(6), Hops: d.oneOf(0, 1, 15), Urgent: d.rarely(3), Data: "\x05\x00\x01" + d.text(),
	}
	switch f.Kind {
	case 1:
		f.To, f.Target, f.Data = everyone, everyone, route.Encode([]api.Route{{Dest: 0, Seq: 2, Cost: 10}, {Dest: f.Source, Seq: 4}})
	case 3:
		f.Target, f.Data = f.To, ""
	}
	return f
}

// spoilt returns a mesh in memory of its own, to which some strange things were done. Some
// of its nodes may share memory with each other.
func (d dice) spoilt(m api.Mesh) api.Mesh {
	m = copied(m)
	for range 1 + d.IntN(4) {
		if len(m.Nodes) == 0 || d.rarely(12) {
			m.Tick = d.far()
			continue
		}
		n := &m.Nodes[d.IntN(len(m.Nodes))]
		switch d.IntN(12) {
		case 0, 1:
			m.Nodes = slices.Insert(m.Nodes, d.IntN(len(m.Nodes)+1), *n)
		case 2:
			n.Addr = d.far()
		case 3:
			n.Addr = d.addr()
		case 4:
			n.Table = append(n.Table, api.Route{Dest: d.addr(), Cost: d.oneOf(0, 10, 255), Next: d.oneOf(d.far(), d.addr())})
		case 5:
			n.Table = nil
		case 6:
			d.Shuffle(len(m.Nodes), func(i, k int) { m.Nodes[i], m.Nodes[k] = m.Nodes[k], m.Nodes[i] })
		case 7:
			n.Out = append([]api.Sending{{Frame: d.frame()}}, n.Out...)
		case 8:
			n.Out = append(n.Out, make([]api.Sending, 20)...)
		case 9:
			n.Poll, n.Parent, n.Seq = d.far(), d.far(), d.far()
		case 10:
			n.Parts = append(n.Parts, api.Parts{Source: 3, Count: d.far(), Have: []bool{true}, Data: []string{"x"}})
		case 11:
			n.Boxes, n.Children = append(n.Boxes, api.Mail{Frame: d.frame(), Since: d.far()}), []int{d.far(), d.addr(), 3}
		}
	}
	return m
}

// mesh returns a mesh, which may be none that New and Step return.
func (d dice) mesh() api.Mesh {
	m := d.lived()
	if d.rarely(2) {
		m = d.spoilt(m)
	}
	return m
}
