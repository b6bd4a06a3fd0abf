package node_test

import (
	"math"
	"math/rand/v2"
	"slices"
	"strings"

	"homehub/api"
	"homehub/frag"
	"homehub/frame"
	"homehub/links"
	"homehub/mac"
	"homehub/mailbox"
	"homehub/route"
)

const (
	lastTick = 1 << 40
	everyone = 255
	mostOut  = 16
	mostSeen = 32
	mostMail = 256 // messages of an inbox
)

// The models of the functions. Frames are counted: what goes into a list and is not
// there afterwards is lost.

func nearest(n, least, most int) int {
	switch {
	case n < least:
		return least
	case n > most:
		return most
	}
	return n
}

// ordered returns what a node is when it is brought into order.
func ordered(n api.Node) api.Node {
	self := nearest(n.Addr, 0, 250)
	o := api.Node{Addr: self, Poll: n.Poll, Parent: everyone, Lost: nearest(n.Lost, 0, lastTick)}
	if n.Poll < 4 {
		o.Poll = 4 * nearest(n.Poll, 0, 1)
	}
	if n.Parent == nearest(n.Parent, 0, 250) && n.Parent != self {
		o.Parent = n.Parent
	}
	o.Table = []api.Route{{Dest: self, Next: self}}
	if route.Check(n.Table, self) == api.OK {
		o.Table = n.Table
	}
	if links.Check(n.Links) == api.OK {
		o.Links = n.Links
	}
	for i := range mostMail {
		if i < len(n.Out) && i < mostOut {
			o.Out = append(o.Out, n.Out[i])
		}
		if i < len(n.Boxes) && i < mostOut {
			o.Boxes = append(o.Boxes, n.Boxes[i])
		}
		if i < len(n.Inbox) {
			o.Inbox = append(o.Inbox, n.Inbox[i])
		}
		if i < 251 && i != self && slices.Contains(n.Children, i) {
			o.Children = append(o.Children, i)
		}
		if at := len(n.Seen) - mostSeen + i; i < mostSeen && at >= 0 {
			o.Seen = append(o.Seen, n.Seen[at])
		}
	}
	o.Parts = n.Parts
	if n.Seq&0xffff == n.Seq {
		o.Seq = n.Seq
	}
	return o
}

// without returns a node that has lost frames.
func without(n api.Node, frames int) api.Node {
	n.Lost = nearest(n.Lost+frames, 0, lastTick)
	return n
}

// queued returns a node with one more frame in Out.
func queued(n api.Node, f api.Frame) (api.Node, bool) {
	frames := len(n.Out) + 1
	out, ok := mac.Put(n.Out, f)
	n.Out = out
	return without(n, frames-len(out)), ok
}

// kept returns a node with one more frame in Boxes.
func kept(n api.Node, f api.Frame, now int) api.Node {
	frames := len(n.Boxes) + 1
	n.Boxes, _ = mailbox.Put(n.Boxes, f, now)
	return without(n, frames-len(n.Boxes))
}

// delivered returns a node with one more message in Inbox.
func delivered(n api.Node, from int, text string) api.Node {
	inbox := append(slices.Clone(n.Inbox), api.Delivery{Source: from, Text: text})
	n.Inbox = inbox[:min(len(inbox), mostMail)]
	return without(n, len(inbox)-len(n.Inbox))
}

// awake returns what Awake returns.
func awake(n api.Node, now int) bool {
	o := ordered(n)
	sleeps := o.Poll > 0 && o.Parent < everyone && len(o.Parts) == 0
	return !sleeps || nearest(now, 0, lastTick)%o.Poll <= 2
}

// cut returns the pieces of a text.
func cut(text string, id int) []string {
	var parts []string
	for len(text) > 64 {
		parts, text = append(parts, text[:64]), text[64:]
	}
	parts = append(parts, text)
	for i, part := range parts {
		parts[i] = string([]byte{byte(id), byte(i), byte(len(parts))}) + part
	}
	return parts
}

// send returns what Send returns.
func send(n api.Node, target int, urgent bool, text string) (api.Node, api.Errno) {
	o := ordered(n)
	switch {
	case target > 250 || target < 0:
		return api.Node{}, api.ErrRange
	case len(text) >= 1001:
		return api.Node{}, api.ErrLimit
	case target == o.Addr:
		return delivered(o, o.Addr, text), api.OK
	}
	for _, piece := range cut(text, o.Seq) {
		f := api.Frame{Kind: 2, From: o.Addr, To: everyone, Source: o.Addr, Target: target, Seq: o.Seq, Urgent: urgent, Data: piece}
		with, ok := queued(o, f)
		if !ok {
			return api.Node{}, api.ErrFull
		}
		o = with
		o.Seq = (o.Seq + 1) & 0xffff
	}
	return o, api.OK
}

// advertised returns the bytes of the routes of a table.
func advertised(table []api.Route) string {
	var text []byte
	for _, r := range table {
		text = append(text, byte(r.Dest), byte(r.Seq>>8), byte(r.Seq), byte(r.Cost))
	}
	return string(text)
}

// numbered returns a table with the next own number, and this number.
func numbered(table []api.Route, self int) ([]api.Route, int) {
	own := 0
	table = slices.Clone(table)
	for i, r := range table {
		if r.Dest == self {
			table[i].Seq = min(r.Seq+2, 65534)
			own = table[i].Seq
		}
	}
	return table, own
}

func kindsOf(q []api.Sending) map[int]bool {
	kinds := map[int]bool{}
	for _, entry := range q {
		kinds[entry.Frame.Kind] = true
	}
	return kinds
}

// tick returns what Tick returns.
func tick(n api.Node, now int) api.Node {
	o := ordered(n)
	now = nearest(now, 0, lastTick)
	out := mac.Tick(o.Out)
	o.Out, o.Boxes, o.Parts = nil, mailbox.Expire(o.Boxes, now, 120), frag.Expire(o.Parts, now, 120)
	for _, entry := range out {
		if f := entry.Frame; f.Kind != 2 || f.To == everyone || entry.Tries < 1 {
			o.Out = append(o.Out, entry)
			continue
		}
		o = kept(o, entry.Frame, now)
	}
	table, own := numbered(o.Table, o.Addr)
	kinds := kindsOf(o.Out)
	f := api.Frame{From: o.Addr, Source: o.Addr, Seq: own}
	if o.Poll == 0 && (now-o.Addr)%8 == 0 {
		o.Table = table
		f.Kind, f.To, f.Target, f.Data = 1, everyone, everyone, advertised(table)
		if !kinds[1] && len(o.Out) < mostOut {
			o, _ = queued(o, f)
		}
	}
	if o.Poll > 0 && o.Parent < everyone && now%o.Poll == 0 {
		o.Table = table
		f.Kind, f.To, f.Target, f.Urgent = 3, o.Parent, o.Parent, true
		if !kinds[3] {
			o, _ = queued(o, f)
		}
	}
	return o
}

// The fates of an entry of Out.
const (
	waits = iota
	isSent
	isKept
	fails
)

// fate returns what becomes of an entry of Out, and the To of its frame.
func fate(n api.Node, entry api.Sending) (int, int) {
	f := entry.Frame
	switch {
	case entry.Wait >= 1:
		return waits, 0
	case f.Kind != 2 || f.To != everyone:
		return isSent, f.To
	case n.Poll > 0 && n.Parent == everyone:
		return fails, 0
	case n.Poll > 0:
		return isSent, n.Parent
	}
	for _, r := range n.Table {
		switch {
		case r.Dest != f.Target || r.Cost > 200:
		case r.Next == f.Target && slices.Contains(n.Children, f.Target):
			return isKept, f.Target
		default:
			return isSent, r.Next
		}
	}
	return fails, 0
}

// talk returns what Talk returns.
func talk(n api.Node, now int) (api.Node, api.Frame, bool) {
	o := ordered(n)
	now = nearest(now, 0, lastTick)
	rest := o.Out
	o.Out = nil
	for len(rest) > 0 {
		entry := rest[0]
		what, to := fate(o, entry)
		f := entry.Frame
		f.To = to
		switch what {
		case isSent:
			o.Out = append(o.Out, rest...)
			return o, f, true
		case isKept:
			o = kept(o, f, now)
		case fails:
			left, _ := mac.Result(rest[:1], 0, false)
			o.Out = append(o.Out, left...)
			o = without(o, 1-len(left))
		default:
			o.Out = append(o.Out, entry)
		}
		rest = rest[1:]
	}
	return o, api.Frame{}, false
}

// result returns what Result returns.
func result(n api.Node, f api.Frame, ok bool) api.Node {
	o := ordered(n)
	type key [3]int
	keyOf := func(f api.Frame) key { return key{f.Seq, f.Kind, f.Source} }
	at := 0
	for at < len(o.Out) && keyOf(o.Out[at].Frame) != keyOf(f) {
		at++
	}
	if at == len(o.Out) {
		return o
	}
	frames := len(o.Out)
	o.Out, _ = mac.Result(o.Out, at, ok)
	isLost := !ok && len(o.Out) < frames
	if isLost {
		o = without(o, 1)
	}
	if f.To < 0 || f.To > 250 {
		return o
	}
	o.Links = links.Seen(o.Links, f.To, ok)
	if isLost {
		o = broken(o, f.To)
	}
	return o
}

// broken returns a node without a neighbor.
func broken(n api.Node, neighbor int) api.Node {
	n.Table = route.Break(n.Table, n.Addr, neighbor)
	n.Links = links.Forget(n.Links, neighbor)
	var children []int
	for _, child := range n.Children {
		if child != neighbor {
			children = append(children, child)
		}
	}
	n.Children = children
	if n.Parent == neighbor {
		n.Parent = everyone
	}
	return n
}

// hear returns what Hear returns.
func hear(n api.Node, now int, f api.Frame) api.Node {
	o := ordered(n)
	isMine, isForAll := f.To == o.Addr, f.To == everyone
	if frame.Check(f) != api.OK || f.From == o.Addr || !isMine && !isForAll {
		return o
	}
	now = nearest(now, 0, lastTick)
	switch f.Kind {
	case 1:
		return hearBeacon(o, f)
	case 2:
		if isMine {
			return hearData(o, now, f)
		}
	case 3:
		if isMine && o.Poll == 0 {
			return hearPoll(o, now, f)
		}
	}
	return o
}

func hearBeacon(n api.Node, f api.Frame) api.Node {
	n.Links = links.Seen(n.Links, f.From, true)
	routes, err := route.Decode(f.Data)
	if err == api.OK {
		n.Table = route.Update(n.Table, n.Addr, f.From, links.Cost(n.Links, f.From), routes)
	}
	for _, r := range routes {
		if n.Poll > 0 && n.Parent == everyone && r.Dest == 0 && r.Cost <= 200 {
			n.Parent = f.From
		}
	}
	return n
}

func hearPoll(n api.Node, now int, f api.Frame) api.Node {
	n.Children = append([]int{f.From}, n.Children...)
	n.Table = route.Update(n.Table, n.Addr, f.From, 10, []api.Route{{Dest: f.From, Seq: f.Seq}})
	var left []api.Mail
	for _, mail := range n.Boxes {
		since := nearest(mail.Since, 0, lastTick)
		switch {
		case now-since > 120:
		case mail.Frame.To == f.From:
			mail.Frame.From = n.Addr
			n, _ = queued(n, mail.Frame)
		default:
			left = append(left, mail)
		}
	}
	n.Boxes = left
	return ordered(n)
}

func hearData(n api.Node, now int, f api.Frame) api.Node {
	for _, pair := range n.Seen {
		if pair.Source == f.Source && pair.Seq == f.Seq {
			return n
		}
	}
	n.Seen = append(slices.Clone(n.Seen), api.Pair{Source: f.Source, Seq: f.Seq})
	n = ordered(n)
	if f.Target != n.Addr {
		if n.Poll > 0 || f.Hops > 14 {
			return without(n, 1)
		}
		f.From, f.To, f.Hops = n.Addr, everyone, f.Hops+1
		n, _ = queued(n, f)
		return n
	}
	parts, text, complete, err := frag.Add(n.Parts, f.Source, now, f.Data)
	if err == api.OK {
		n.Parts = parts
	}
	if complete {
		n = delivered(n, f.Source, text)
	}
	return n
}

// take returns what Take returns.
func take(n api.Node) (api.Node, []api.Delivery) {
	o := ordered(n)
	left := o
	left.Inbox = nil
	return left, o.Inbox
}

// same reports whether two nodes are equal. A nil slice is the same as an empty one.
func same(a, b api.Node) bool {
	return a.Addr == b.Addr && a.Poll == b.Poll && a.Parent == b.Parent && a.Seq == b.Seq && a.Lost == b.Lost &&
		slices.Equal(a.Table, b.Table) && slices.Equal(a.Links, b.Links) && slices.Equal(a.Out, b.Out) &&
		slices.Equal(a.Children, b.Children) && slices.Equal(a.Boxes, b.Boxes) && slices.Equal(a.Seen, b.Seen) &&
		slices.EqualFunc(a.Parts, b.Parts, sameParts) && slices.Equal(a.Inbox, b.Inbox)
}

func sameParts(a, b api.Parts) bool {
	return a.Source == b.Source && a.Id == b.Id && a.Count == b.Count && a.Since == b.Since &&
		slices.Equal(a.Have, b.Have) && slices.Equal(a.Data, b.Data)
}

// copied returns a node in memory of its own.
func copied(n api.Node) api.Node {
	n.Table, n.Links, n.Out = slices.Clone(n.Table), slices.Clone(n.Links), slices.Clone(n.Out)
	n.Children, n.Boxes, n.Seen = slices.Clone(n.Children), slices.Clone(n.Boxes), slices.Clone(n.Seen)
	n.Parts, n.Inbox = slices.Clone(n.Parts), slices.Clone(n.Inbox)
	for i, p := range n.Parts {
		n.Parts[i].Have, n.Parts[i].Data = slices.Clone(p.Have), slices.Clone(p.Data)
	}
	return n
}

// dice makes random nodes and frames.
type dice struct{ *rand.Rand }

func newDice() dice {
	return dice{rand.New(rand.NewPCG(17, 1))}
}

// oneOf returns one of some numbers.
func (d dice) oneOf(numbers ...int) int {
	return numbers[d.IntN(len(numbers))]
}

// rarely is true once in some times.
func (d dice) rarely(times int) bool {
	return d.IntN(times) == 0
}

// farNumbers are numbers at the ends of the fields of nodes, and of int.
func farNumbers() []int {
	return []int{
		math.MinInt, math.MinInt + 1, -1 << 40, -256, -2, -1, 0, 1, 2, 3, 4, 5, 7, 8, 9, 15, 16, 17, 119, 120, 121,
		249, 250, 251, 254, 255, 256, 257, 65533, 65534, 65535, 65536, 65537, 1 << 32,
		lastTick - 1, lastTick, lastTick + 1, math.MaxInt - 1, math.MaxInt,
	}
}

func (d dice) far() int {
	return d.oneOf(farNumbers()...)
}

// addr returns one of few addresses.
func (d dice) addr() int {
	if d.rarely(12) {
		return d.oneOf(249, 250, 251, 254, 255, -1)
	}
	return d.IntN(6)
}

// routes returns routes of which most can be advertised.
func (d dice) routes() []api.Route {
	var l []api.Route
	for dest := range 6 {
		switch r := (api.Route{Dest: dest, Seq: d.IntN(8), Cost: d.oneOf(0, 10, 20, 150, 190, 200), Next: everyone}); {
		case d.rarely(2):
		case r.Seq%2 == 1 && !d.rarely(30):
			r.Cost = 255
			l = append(l, r)
		default:
			l = append(l, r)
		}
	}
	return l
}

// table returns a table of a node after some updates.
func (d dice) table(self int) []api.Route {
	t := route.New(self)
	for range d.IntN(5) {
		t = route.Update(t, self, d.addr(), d.oneOf(10, 10, 15, 200), d.routes())
	}
	if d.rarely(4) {
		t = route.Break(t, self, d.addr())
	}
	for range d.IntN(3) {
		t = route.Bump(t, self)
	}
	if d.rarely(20) {
		t[slices.IndexFunc(t, func(r api.Route) bool { return r.Dest == self })].Seq = d.oneOf(65530, 65532, 65534)
	}
	if d.rarely(20) {
		t[d.IntN(len(t))].Cost = d.far()
	}
	return t
}

func (d dice) links() []api.Link {
	var l []api.Link
	for range d.IntN(20) {
		l = links.Seen(l, d.addr(), !d.rarely(4))
	}
	if d.rarely(20) {
		for node := range 24 {
			l = links.Seen(l, node+d.IntN(3), d.rarely(2))
		}
	}
	if len(l) > 0 && d.rarely(20) {
		l[d.IntN(len(l))].Bits = d.far()
	}
	return l
}

// letters returns a text of few letters.
func (d dice) letters(most int) string {
	return strings.Repeat(string(rune('a'+d.IntN(3))), d.IntN(most+1))
}

// data returns what a frame can have as data.
func (d dice) data() string {
	switch d.IntN(12) {
	case 0:
		return d.letters(120)
	case 1:
		return route.Encode(d.routes())
	case 2:
		return d.letters(4)
	}
	return string([]byte{byte(d.IntN(3)), byte(d.IntN(2)), byte(d.oneOf(1, 2, 2, 2, 3))}) + strings.Repeat("x", d.oneOf(0, 1, 63, 64, 64))
}

// frame returns a frame, of which most are valid.
func (d dice) frame(to int) api.Frame {
	f := api.Frame{
		Kind: d.oneOf(1, 2, 2, 2, 2, 2, 3, 3, 4), From: d.addr(), To: to, Source: d.addr(), Target: d.addr(),
		Seq: d.IntN(12), Hops: d.oneOf(0, 1, 14, 15), Urgent: d.rarely(3), Data: d.data(),
	}
	if f.Kind == 1 {
		f.Data = route.Encode(d.routes())
	}
	if f.Kind == 3 {
		f.Data, f.Target, f.Seq = "", f.To, 2*f.Seq
	}
	if f.Kind == 1 || f.Kind == 4 {
		f.To, f.Target = everyone, everyone
	}
	if d.rarely(30) {
		f.Kind, f.Seq, f.Hops = d.far(), d.far(), d.far()
	}
	if d.rarely(30) {
		f.Data = d.data()
	}
	return f
}

// out returns a queue, which is in order or not.
func (d dice) out(length int) []api.Sending {
	var q []api.Sending
	for range length {
		f := d.frame(d.oneOf(everyone, everyone, everyone, d.addr()))
		if d.rarely(2) {
			f.Kind, f.Target = 2, d.addr()
		}
		entry := api.Sending{Frame: f, Tries: d.oneOf(0, 0, 0, 1, 6, 7), Wait: d.oneOf(0, 0, 0, 0, 1, 4)}
		if d.rarely(20) {
			entry.Tries, entry.Wait = d.far(), d.far()
		}
		q = append(q, entry)
	}
	return q
}

func (d dice) boxes(length, now int) []api.Mail {
	var l []api.Mail
	for range length {
		l = append(l, api.Mail{Frame: d.frame(d.addr()), Since: now - d.oneOf(0, 1, 100, 119, 120, 121, 122)})
	}
	return l
}

func (d dice) parts(now int) []api.Parts {
	var l []api.Parts
	for range d.IntN(10) {
		l, _, _, _ = frag.Add(l, d.addr(), now-d.oneOf(0, 60, 119, 120, 121), d.data())
	}
	if len(l) > 0 && d.rarely(10) {
		l[d.IntN(len(l))].Count = d.far()
	}
	return l
}

func (d dice) pairs(length int) []api.Pair {
	var l []api.Pair
	for range length {
		l = append(l, api.Pair{Source: d.addr(), Seq: d.IntN(12)})
	}
	return l
}

func (d dice) numbers(length int) []int {
	var l []int
	for range length {
		l = append(l, d.addr())
	}
	return l
}

func (d dice) inbox(length int) []api.Delivery {
	var l []api.Delivery
	for range length {
		l = append(l, api.Delivery{Source: d.addr(), Text: d.letters(3)})
	}
	return l
}

// length returns a length of a list with some greatest length that matters.
func (d dice) length(most int) int {
	if d.rarely(4) {
		return most + d.oneOf(-1, 0, 0, 1, 5)
	}
	return d.IntN(4)
}

// node returns a node at a tick, of which most are in order, or nearly.
func (d dice) node(now int) api.Node {
	n := api.Node{
		Addr: d.oneOf(0, 1, 2, 3, 4, 5, 250), Poll: d.oneOf(0, 0, 0, 4, 5, 10), Parent: d.oneOf(everyone, d.addr()),
		Out: d.out(d.length(mostOut)), Boxes: d.boxes(d.length(mostOut), now), Children: d.numbers(d.IntN(5)),
		Links: d.links(), Seen: d.pairs(d.length(mostSeen)), Parts: d.parts(now),
		Seq: d.oneOf(0, 5, 255, 256, 65534, 65535), Lost: d.oneOf(0, 3, lastTick-1, lastTick),
	}
	if d.rarely(3) {
		n.Out, _ = mac.Put(n.Out, d.frame(everyone))
	}
	if d.rarely(15) {
		n.Addr, n.Poll, n.Seq, n.Lost = d.far(), d.far(), d.far(), d.far()
	}
	if d.rarely(4) {
		n.Inbox = d.inbox(d.length(mostMail))
	}
	n.Table = d.table(nearest(n.Addr, 0, 250))
	return n
}

// tick returns a tick at which something may be due for a node.
func (d dice) tick() int {
	if d.rarely(8) {
		return d.far()
	}
	return 2000 + d.IntN(41)
}
