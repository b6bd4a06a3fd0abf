package node_test

import (
	"math"
	"slices"
	"strings"
	"testing"

	"homehub/api"
	"homehub/links"
	"homehub/node"
	"homehub/route"
)

// The first difference ends a test, as some of them compare very many nodes.

func check(t *testing.T, what string, got, want api.Node) {
	t.Helper()
	if !same(got, want) {
		t.Fatalf("%s:\ngot  %+v\nwant %+v", what, got, want)
	}
}

func checkFrame(t *testing.T, what string, got api.Frame, ok bool, want api.Frame, wantOk bool) {
	t.Helper()
	if got != want || ok != wantOk {
		t.Fatalf("%s: got the frame %+v, %t, want %+v, %t", what, got, ok, want, wantOk)
	}
}

func checkSend(t *testing.T, n api.Node, target int, urgent bool, text string) {
	t.Helper()
	want, wantErr := send(n, target, urgent, text)
	got, err := node.Send(n, target, urgent, text)
	if err != wantErr {
		t.Fatalf("Send(%+v, %d, %t, %q): got error %d, want %d", n, target, urgent, text, err, wantErr)
	}
	check(t, "Send", got, want)
}

func checkTalk(t *testing.T, n api.Node, now int) {
	t.Helper()
	want, wantFrame, wantOk := talk(n, now)
	got, f, ok := node.Talk(n, now)
	check(t, "Talk", got, want)
	checkFrame(t, "Talk", f, ok, wantFrame, wantOk)
}

func checkTake(t *testing.T, n api.Node) {
	t.Helper()
	want, wantInbox := take(n)
	got, inbox := node.Take(n)
	check(t, "Take", got, want)
	if !slices.Equal(inbox, wantInbox) {
		t.Fatalf("Take: got %v, want %v", inbox, wantInbox)
	}
}

// checkAll compares all functions with their models, and checks that they do not change
// the node.
func checkAll(t *testing.T, n api.Node, now int, f api.Frame, text string) {
	t.Helper()
	before := copied(n)
	if got, want := node.Awake(n, now), awake(n, now); got != want {
		t.Fatalf("Awake(%+v, %d): got %t", n, now, got)
	}
	checkTake(t, n)
	checkSend(t, n, f.Target, f.Urgent, text)
	check(t, "Tick", node.Tick(n, now), tick(n, now))
	checkTalk(t, n, now)
	check(t, "Hear", node.Hear(n, now, f), hear(n, now, f))
	checkResults(t, n, f)
	check(t, "the argument", n, before)
}

// checkResults compares Result with its model, for a frame, and for one that is like the
// first one of Out, but goes to the same node.
func checkResults(t *testing.T, n api.Node, f api.Frame) {
	t.Helper()
	for _, ok := range []bool{false, true} {
		check(t, "Result", node.Result(n, f, ok), result(n, f, ok))
		if len(n.Out) > 0 {
			g := n.Out[0].Frame
			g.To = f.To
			check(t, "Result", node.Result(n, g, ok), result(n, g, ok))
		}
	}
}

// plain returns a node that was changed by nothing yet.
func plain(addr, poll int) api.Node {
	n := api.Node{Addr: addr, Poll: poll, Parent: everyone}
	n.Table = []api.Route{{Dest: addr, Next: addr}}
	return n
}

// dataFrame returns a data frame of the node self in its Out.
func dataFrame(self, source, target, seq int, data string) api.Frame {
	return api.Frame{Kind: api.FkData, From: self, To: everyone, Source: source, Target: target, Seq: seq, Data: data}
}

func beacon(from int, l ...api.Route) api.Frame {
	return api.Frame{Kind: api.FkBeacon, From: from, To: everyone, Source: from, Target: everyone, Data: route.Encode(l)}
}

func poll(from, to, seq int) api.Frame {
	return api.Frame{Kind: api.FkPoll, From: from, To: to, Source: from, Target: to, Seq: seq, Urgent: true}
}

// entries returns a queue of frames that were not transmitted yet.
func entries(frames ...api.Frame) []api.Sending {
	var q []api.Sending
	for _, f := range frames {
		q = append(q, api.Sending{Frame: f})
	}
	return q
}

// fill returns a queue of so many data frames of the node self, with numbers from 100 on.
func fill(length, self int, urgent bool) []api.Sending {
	var q []api.Sending
	for i := range length {
		f := dataFrame(self, self, 9, 100+i, "fill")
		f.Urgent = urgent
		q = append(q, api.Sending{Frame: f})
	}
	return q
}

// mails returns a mailbox of frames that wait since a tick.
func mails(since int, frames ...api.Frame) []api.Mail {
	var l []api.Mail
	for _, f := range frames {
		l = append(l, api.Mail{Frame: f, Since: since})
	}
	return l
}

func to(f api.Frame, node int) api.Frame {
	f.To = node
	return f
}

// The chapter's example 1: P17.1.
func TestSleepyExample(t *testing.T) {
	n := node.New(3, 2)
	check(t, "New(3, 2)", n, plain(3, 4))
	for now := range 6 {
		if !node.Awake(n, now) {
			t.Errorf("without a parent it sleeps at %d", now)
		}
		n := n
		n.Parent = 0
		if got := node.Awake(n, now); got != (now != 3) {
			t.Errorf("with a parent: Awake at %d is %t", now, got)
		}
	}
}

// The chapter's examples 2 and 3: P17.2, P17.4, P17.6.
func TestRouteExample(t *testing.T) {
	n, err := node.Send(node.New(1, 0), 0, false, "a")
	f := dataFrame(1, 1, 0, 0, "\x00\x00\x01a")
	want := plain(1, 0)
	want.Out, want.Seq = entries(f), 1
	check(t, "Send", n, want)
	if err != api.OK {
		t.Errorf("Send: error %d", err)
	}
	failed, g, ok := node.Talk(n, 5)
	want.Out = []api.Sending{{Frame: f, Tries: 1, Wait: 1}}
	check(t, "Talk without a route", failed, want)
	checkFrame(t, "Talk without a route", g, ok, api.Frame{}, false)

	n = node.Hear(n, 6, beacon(0, api.Route{Seq: 2}))
	want.Table = []api.Route{{Dest: 0, Seq: 2, Cost: 10, Next: 0}, {Dest: 1, Next: 1}}
	want.Links = []api.Link{{Node: 0, Bits: 1, Count: 1}}
	want.Out = entries(f)
	check(t, "Hear", n, want)
	after, g, ok := node.Talk(n, 6)
	check(t, "Talk with a route", after, want)
	checkFrame(t, "Talk with a route", g, ok, to(f, 0), true)
}

// P17.1: New.
func TestNew(t *testing.T) {
	addrs := map[int]int{math.MinInt: 0, -1: 0, 0: 0, 1: 1, 7: 7, 249: 249, 250: 250, 251: 250, 255: 250, math.MaxInt: 250}
	polls := map[int]int{
		math.MinInt: 0, -4: 0, -1: 0, 0: 0, 1: 4, 2: 4, 3: 4, 4: 4, 5: 5, 6: 6, 60: 60, 1 << 50: 1 << 50, math.MaxInt: math.MaxInt,
	}
	for addr, wantAddr := range addrs {
		for p, wantPoll := range polls {
			check(t, "New", node.New(addr, p), plain(wantAddr, wantPoll))
		}
	}
	for addr := range 251 {
		check(t, "New", node.New(addr, addr), plain(addr, []int{0, 4, 4, 4, addr}[min(addr, 4)]))
	}
}

// unordered are nodes in which one field is not in order, and what becomes of it.
func unordered() []struct {
	name      string
	node, out api.Node
} {
	type row = struct {
		name      string
		node, out api.Node
	}
	var rows []row
	add := func(name string, change, want func(n *api.Node)) {
		n, out := plain(5, 0), plain(5, 0)
		change(&n)
		want(&out)
		rows = append(rows, row{name, n, out})
	}
	for before, after := range map[int]int{math.MinInt: 0, -1: 0, 251: 250, 255: 250, math.MaxInt: 250, 0: 0, 250: 250} {
		add("Addr", func(n *api.Node) { n.Addr = before }, func(n *api.Node) { *n = plain(after, 0) })
	}
	for before, after := range map[int]int{math.MinInt: 0, -1: 0, 1: 4, 2: 4, 3: 4, 4: 4, 5: 5, math.MaxInt: math.MaxInt} {
		add("Poll", func(n *api.Node) { n.Poll = before }, func(n *api.Node) { n.Poll = after })
	}
	for before, after := range map[int]int{
		math.MinInt: 255, -1: 255, 0: 0, 4: 4, 5: 255, 6: 6, 250: 250, 251: 255, 254: 255, 255: 255, 256: 255, math.MaxInt: 255,
	} {
		add("Parent", func(n *api.Node) { n.Parent = before }, func(n *api.Node) { n.Parent = after })
	}
	for before, after := range map[int]int{math.MinInt: 0, -1: 0, 0: 0, 65535: 65535, 65536: 0, math.MaxInt: 0} {
		add("Seq", func(n *api.Node) { n.Seq = before }, func(n *api.Node) { n.Seq = after })
	}
	for before, after := range map[int]int{
		math.MinInt: 0, -1: 0, 0: 0, 1: 1, lastTick - 1: lastTick - 1, lastTick: lastTick, lastTick + 1: lastTick, math.MaxInt: lastTick,
	} {
		add("Lost", func(n *api.Node) { n.Lost = before }, func(n *api.Node) { n.Lost = after })
	}
	for _, table := range [][]api.Route{
		nil, {{Dest: 5, Next: 5}}, {{Dest: 4, Next: 4}}, {{Dest: 5, Seq: 1, Next: 5}}, {{Dest: 5, Seq: 4, Cost: 1, Next: 5}},
		{{Dest: 1, Seq: 2, Cost: 10, Next: 1}}, {{Dest: 5, Next: 5}, {Dest: 4, Cost: 10, Next: 4}},
		{{Dest: 5, Next: 5}, {Dest: 6, Cost: 201, Next: 6}},
	} {
		add("Table", func(n *api.Node) { n.Table = table }, func(n *api.Node) {})
	}
	table := []api.Route{{Dest: 1, Seq: 2, Cost: 10, Next: 1}, {Dest: 5, Seq: 8, Next: 5}, {Dest: 6, Seq: 3, Cost: 255, Next: 255}}
	add("Table", func(n *api.Node) { n.Table = table }, func(n *api.Node) { n.Table = table })
	// A table of another node than the limited one.
	add("Table", func(n *api.Node) { n.Addr, n.Table = 251, []api.Route{{Dest: 250, Seq: 2, Next: 250}} }, func(n *api.Node) {
		*n = plain(250, 0)
		n.Table[0].Seq = 2
	})
	add("Parent", func(n *api.Node) { n.Addr, n.Parent = 300, 250 }, func(n *api.Node) { *n = plain(250, 0) })
	for _, l := range [][]api.Link{{{Node: 2}, {Node: 1}}, {{Node: 251}}, {{Node: 1, Bits: 2, Count: 1}}, make([]api.Link, 25)} {
		add("Links", func(n *api.Node) { n.Links = l }, func(n *api.Node) {})
	}
	l := []api.Link{{Node: 1, Bits: 2, Count: 2}, {Node: 5}, {Node: 7, Bits: 65535, Count: 16}}
	add("Links", func(n *api.Node) { n.Links = l }, func(n *api.Node) { n.Links = l })
	for _, length := range []int{0, 1, 15, 16, 17, 18, 300} {
		q := fill(length, 5, length%2 == 0)
		add("Out", func(n *api.Node) { n.Out = q }, func(n *api.Node) { n.Out = q[:min(length, 16)] })
		var l []api.Mail
		for _, entry := range q {
			l = append(l, api.Mail{Frame: entry.Frame, Since: 5})
		}
		add("Boxes", func(n *api.Node) { n.Boxes = l }, func(n *api.Node) { n.Boxes = l[:min(length, 16)] })
	}
	// The waits and tries of Out and the ticks of Boxes stay as they are.
	far := []api.Sending{{Tries: math.MinInt, Wait: math.MaxInt}, {Tries: 99, Wait: -1}}
	add("Out", func(n *api.Node) { n.Out = far }, func(n *api.Node) { n.Out = far })
	for _, row := range [][2][]int{
		{{3, 1, 2}, {1, 2, 3}}, {{1, 1, 2, 1}, {1, 2}}, {{5}, nil}, {{6, 5, 4}, {4, 6}}, {{0, 250, 251, 255, -1, 256}, {0, 250}},
		{{math.MinInt, math.MaxInt}, nil}, {{9, 9}, {9}},
	} {
		add("Children", func(n *api.Node) { n.Children = row[0] }, func(n *api.Node) { n.Children = row[1] })
	}
	for _, length := range []int{0, 1, 31, 32, 33, 34, 64, 300} {
		var l []api.Pair
		for i := range length {
			l = append(l, api.Pair{Source: 1, Seq: i})
		}
		add("Seen", func(n *api.Node) { n.Seen = l }, func(n *api.Node) { n.Seen = l[max(0, length-32):] })
	}
	// Pairs are not checked, and each one can occur several times.
	odd := []api.Pair{{Source: -1, Seq: math.MaxInt}, {Source: 1}, {Source: 1}}
	add("Seen", func(n *api.Node) { n.Seen = odd }, func(n *api.Node) { n.Seen = odd })
	for _, length := range []int{0, 1, 255, 256, 257, 600} {
		var l []api.Delivery
		for i := range length {
			l = append(l, api.Delivery{Source: i - 1, Text: strings.Repeat("a", i*4)})
		}
		add("Inbox", func(n *api.Node) { n.Inbox = l }, func(n *api.Node) { n.Inbox = l[:min(length, 256)] })
	}
	// Incomplete messages are left to package frag.
	parts := []api.Parts{{}, {Source: -1, Id: 999, Count: math.MinInt, Since: -5, Have: []bool{true}, Data: []string{"a", "b"}}}
	for range 10 {
		parts = append(parts, api.Parts{Id: 1, Count: 2, Have: []bool{false, true}, Data: []string{"", "b"}})
	}
	add("Parts", func(n *api.Node) { n.Parts = parts }, func(n *api.Node) { n.Parts = parts })
	return rows
}

// P17.7: every function brings a node into order first, and its result is in order.
func TestOrder(t *testing.T) {
	for _, row := range unordered() {
		for name, n := range map[string]api.Node{"before": row.node, "after": row.out} {
			what := row.name + " " + name
			taken, inbox := node.Take(n)
			taken.Inbox = inbox
			check(t, "Take, "+what, taken, row.out)
			check(t, "Result, "+what, node.Result(n, api.Frame{Kind: 7}, false), row.out)
			check(t, "Hear, "+what, node.Hear(n, 3, api.Frame{}), row.out)
			quiet := row.out
			quiet.Out, n.Out = nil, nil
			talked, f, ok := node.Talk(n, 3)
			check(t, "Talk, "+what, talked, quiet)
			checkFrame(t, "Talk, "+what, f, ok, api.Frame{}, false)
			quiet.Boxes, quiet.Parts, n.Boxes, n.Parts = nil, nil, nil, nil
			ticked := node.Tick(n, 3) // not a beat of the nodes 0, 5 and 250
			check(t, "Tick, "+what, ticked, quiet)
			if len(quiet.Inbox) < 256 {
				sent, err := node.Send(n, quiet.Addr, false, "x")
				quiet.Inbox = append(quiet.Inbox, api.Delivery{Source: quiet.Addr, Text: "x"})
				check(t, "Send, "+what, sent, quiet)
				if err != api.OK {
					t.Errorf("Send, %s: error %d", what, err)
				}
			}
		}
		checkAll(t, row.node, 8, dataFrame(1, 1, 5, 1, "\x00\x00\x01a"), "text")
	}
}

// P17.1: when a node hears.
func TestAwake(t *testing.T) {
	for p := range 25 {
		n := plain(3, p)
		for now := range 101 {
			if !node.Awake(n, now) {
				t.Fatalf("the poll %d: it sleeps without a parent at %d", p, now)
			}
			child := n
			child.Parent = 7
			phase := 0
			if p > 0 {
				phase = now % max(4, p)
			}
			if got, want := node.Awake(child, now), phase == 0 || phase == 1 || phase == 2; got != want {
				t.Fatalf("the poll %d: Awake at %d is %t", p, now, got)
			}
			child.Parts = []api.Parts{{Id: 1, Count: 2, Have: []bool{true, false}, Data: []string{strings.Repeat("x", 64), ""}}}
			if !node.Awake(child, now) {
				t.Fatalf("the poll %d: it sleeps at %d with an incomplete message", p, now)
			}
			n.Parent = 3 // itself
			if !node.Awake(n, now) {
				t.Fatalf("the poll %d: it sleeps at %d with itself as its parent", p, now)
			}
		}
	}
}

// P17.1: ticks are limited; an incomplete message is one as long as package frag was not
// asked.
func TestAwakeAtFarTicks(t *testing.T) {
	for _, row := range []struct {
		poll, now int
		want      bool
	}{
		{4, math.MinInt, true}, {4, -1, true}, {10, -3, true}, {10, -1, true},
		{10, lastTick, false}, // 1099511627776
		{7, lastTick, true}, {7, lastTick - 1, true}, {7, lastTick - 3, false}, {7, lastTick + 1, true}, {7, math.MaxInt, true},
		{4, lastTick, true}, {4, lastTick - 1, false}, {4, lastTick + 3, true}, {4, math.MaxInt, true},
		{math.MaxInt, 2, true}, {math.MaxInt, 3, false}, {math.MaxInt, math.MaxInt, false}, {lastTick, math.MaxInt, true},
		{1, 3, false}, {1, 4, true}, {3, 3, false}, {3, 4, true}, {0, 3, true}, {-5, 3, true},
	} {
		n := plain(3, row.poll)
		n.Parent = 0
		if got := node.Awake(n, row.now); got != row.want {
			t.Errorf("the poll %d at %d: got %t", row.poll, row.now, got)
		}
	}
	n := plain(3, 10)
	n.Parent, n.Parts = 0, []api.Parts{{}}
	if !node.Awake(n, 5) {
		t.Error("it sleeps with an entry of Parts that is not valid")
	}
}

// P17.1: Take.
func TestTake(t *testing.T) {
	n := plain(3, 0)
	n.Inbox = []api.Delivery{{Source: 1, Text: "a"}, {Source: 1, Text: "a"}, {Text: "b"}}
	n.Out, n.Boxes, n.Seen, n.Seq, n.Lost = fill(3, 3, false), mails(4, poll(1, 3, 2)), []api.Pair{{Source: 1}}, 7, 9
	left := n
	left.Inbox = nil
	got, inbox := node.Take(n)
	check(t, "Take", got, left)
	if !slices.Equal(inbox, n.Inbox) {
		t.Errorf("Take: got %v", inbox)
	}
	again, inbox := node.Take(got)
	check(t, "Take again", again, left)
	if len(inbox) != 0 {
		t.Errorf("Take again: got %v", inbox)
	}
}

// P17.2: the errors, in their order.
func TestSendErrors(t *testing.T) {
	longest, tooLong := strings.Repeat("x", 1000), strings.Repeat("x", 1001)
	n := plain(3, 0)
	full, busy, urgent := n, n, n
	full.Out, busy.Out, urgent.Out = fill(16, 3, false), fill(14, 3, false), fill(16, 3, true)
	inbox := n
	inbox.Inbox = make([]api.Delivery, 256)
	for i, row := range []struct {
		node   api.Node
		target int
		urgent bool
		text   string
		want   api.Errno
	}{
		{n, 0, false, "", api.OK}, {n, 250, false, longest, api.OK}, {n, 3, true, longest, api.OK},
		{n, -1, false, "", api.ErrRange}, {n, 251, false, "", api.ErrRange}, {n, 255, false, "", api.ErrRange},
		{n, math.MinInt, false, tooLong, api.ErrRange}, {n, math.MaxInt, true, tooLong, api.ErrRange},
		{full, 251, false, tooLong, api.ErrRange}, {full, 0, false, tooLong, api.ErrLimit},
		{n, 0, false, tooLong, api.ErrLimit}, {n, 3, false, tooLong, api.ErrLimit}, {n, 0, true, tooLong + tooLong, api.ErrLimit},
		{full, 0, false, "", api.ErrFull}, {full, 0, true, "", api.OK}, {full, 3, false, longest, api.OK},
		{full, 0, true, longest, api.OK}, {full, 0, false, longest, api.ErrFull},
		{busy, 0, false, longest[:128], api.OK}, {busy, 0, false, longest[:129], api.ErrFull}, {busy, 0, true, longest[:129], api.OK},
		{urgent, 0, false, "", api.ErrFull}, {urgent, 0, true, "", api.ErrFull}, {inbox, 3, false, "", api.OK},
	} {
		got, err := node.Send(row.node, row.target, row.urgent, row.text)
		if err != row.want {
			t.Errorf("row %d: got error %d, want %d", i, err, row.want)
		}
		if err != api.OK {
			check(t, "Send", got, api.Node{})
		}
		checkSend(t, row.node, row.target, row.urgent, row.text)
	}
}

// P17.2: a node that is not in order sends from its limited address.
func TestSendToLimitedAddress(t *testing.T) {
	n, err := node.Send(api.Node{Addr: 999, Seq: -3}, 250, false, "me")
	want := plain(250, 0)
	want.Inbox, want.Parent = []api.Delivery{{Source: 250, Text: "me"}}, 0
	check(t, "Send", n, want)
	if err != api.OK {
		t.Errorf("Send: error %d", err)
	}
}

// P17.2: a message to the node itself, also if there is no space for it. It has no number.
func TestSendToItself(t *testing.T) {
	n := plain(3, 8)
	n.Seq, n.Out = 77, fill(16, 3, true)
	want := n
	for i := range 300 {
		text := strings.Repeat("x", i)
		got, err := node.Send(n, 3, i%2 == 0, text)
		if i < 256 {
			want.Inbox = append(want.Inbox, api.Delivery{Source: 3, Text: text})
		} else {
			want.Lost++
		}
		check(t, "Send", got, want)
		if err != api.OK {
			t.Fatalf("Send: error %d", err)
		}
		n = got
	}
	n.Lost = lastTick
	got, _ := node.Send(n, 3, false, "x")
	check(t, "Send", got, n)
}

// P17.2: the frames of messages of all lengths, with all identifiers.
func TestSendOfEveryLength(t *testing.T) {
	letters := strings.Repeat("abcdefghijklmnopqrstuvwxyz0123456789", 30)
	for length := range 1001 {
		n := plain(250, 0)
		n.Seq = (length * 67) % 65536
		if length%7 == 0 {
			n.Seq = 65536 - 1 - length%20
		}
		want := n
		text := letters[length%36:][:length]
		pieces := (length + 63) / 64
		if length == 0 {
			pieces = 1
		}
		for i := range pieces {
			f := api.Frame{Kind: 2, From: 250, To: 255, Source: 250, Target: length % 250, Seq: (n.Seq + i) % 65536, Urgent: length%2 == 1}
			f.Data = string([]byte{byte(n.Seq % 256), byte(i), byte(pieces)}) + text[i*64:min(i*64+64, length)]
			want.Out = append(want.Out, api.Sending{Frame: f})
		}
		want.Seq = (n.Seq + pieces) % 65536
		got, err := node.Send(n, length%250, length%2 == 1, text)
		check(t, "Send", got, want)
		if err != api.OK {
			t.Fatalf("Send: error %d", err)
		}
	}
}

// P17.2: urgent pieces take the places of frames that were not tried, which are lost.
func TestSendUrgent(t *testing.T) {
	n := plain(3, 0)
	n.Out, n.Lost = fill(16, 3, false), 5
	n.Out[15].Tries, n.Out[14].Tries = 1, 1
	got, err := node.Send(n, 0, true, strings.Repeat("x", 129))
	if err != api.OK || len(got.Out) != 16 || got.Lost != 8 || got.Seq != 3 {
		t.Fatalf("Send: got %+v, %d", got, err)
	}
	want := slices.Concat(got.Out[:3], n.Out[:11], n.Out[14:])
	if !slices.Equal(got.Out, want) {
		t.Errorf("Out: got %v", got.Out)
	}
	for i, entry := range got.Out[:3] {
		if !entry.Frame.Urgent || entry.Frame.Seq != i {
			t.Errorf("the entry %d: got %v", i, entry)
		}
	}
	// Two are left whose place can be taken: a third piece does not fit.
	for i := range n.Out {
		n.Out[i].Tries = 1
	}
	n.Out[3].Tries, n.Out[8].Tries = 0, -1
	if got, err := node.Send(n, 0, true, strings.Repeat("x", 128)); err != api.OK || len(got.Out) != 16 || got.Lost != 7 {
		t.Errorf("Send of two pieces: got %+v, %d", got, err)
	}
	if _, err := node.Send(n, 0, true, strings.Repeat("x", 129)); err != api.ErrFull {
		t.Errorf("Send of three pieces: error %d", err)
	}
	n.Lost = lastTick - 1
	n.Out = fill(16, 3, false)
	if got, _ := node.Send(n, 0, true, strings.Repeat("x", 129)); got.Lost != lastTick {
		t.Errorf("Lost: got %d", got.Lost)
	}
}

// P17.3: what waits in the three lists.
func TestTickOfLists(t *testing.T) {
	n := plain(3, 0)
	a, b := dataFrame(3, 3, 9, 1, "a"), to(dataFrame(3, 3, 9, 2, "b"), 7)
	n.Out = []api.Sending{{Frame: a, Tries: 2, Wait: 2}, {Frame: b, Wait: 1}, {Frame: a, Tries: 7, Wait: -1}, {Frame: b, Tries: -1}}
	n.Boxes = []api.Mail{{Frame: a, Since: 879}, {Frame: b, Since: 880}, {Frame: a, Since: 1001}, {Frame: b, Since: -1}}
	half := api.Parts{Source: 1, Count: 2, Have: []bool{false, true}, Data: []string{"", "x"}}
	for id, since := range []int{879, 880, 999, 1000, 2000} {
		half.Id, half.Since = id, since
		n.Parts = append(n.Parts, half)
	}
	n.Parts = append(n.Parts, api.Parts{})
	want := n
	want.Out = []api.Sending{{Frame: a, Tries: 2, Wait: 1}, {Frame: b}, {Frame: a, Tries: 7, Wait: -1}, {Frame: b, Tries: -1}}
	want.Boxes = n.Boxes[1:3]
	want.Parts = n.Parts[1:5]
	check(t, "Tick", node.Tick(n, 1000), want)
}

// P17.3: the frames that a child did not hear go back into Boxes.
func TestTickOfFailedFrames(t *testing.T) {
	n := plain(3, 0)
	a, b := to(dataFrame(3, 1, 7, 1, "a"), 7), to(dataFrame(3, 1, 8, 2, "b"), 8)
	b.Urgent = true
	c := dataFrame(3, 1, 7, 3, "c") // whose next hop is not known
	p := poll(3, 7, 4)
	n.Out = []api.Sending{
		{Frame: b, Tries: 1}, {Frame: p, Tries: 3}, {Frame: a, Tries: 7, Wait: 4}, {Frame: c, Tries: 2}, {Frame: a}, {Frame: b},
		{Frame: a, Tries: 1, Wait: 1}, {Frame: beacon(3), Tries: 2},
	}
	n.Boxes = mails(950, a)
	want := n
	want.Out = []api.Sending{{Frame: p, Tries: 3}, {Frame: c, Tries: 2}, {Frame: a}, {Frame: b}, {Frame: beacon(3), Tries: 2}}
	want.Boxes = slices.Concat(mails(1000, b), mails(950, a), mails(1000, a, a))
	check(t, "Tick", node.Tick(n, 1000), want)
	n.Poll, n.Parent = 9, everyone // of any node
	want.Poll = 9
	check(t, "Tick", node.Tick(n, 1000), want)
	// A full mailbox.
	n.Out = []api.Sending{{Frame: a, Tries: 1}, {Frame: b, Tries: 1}, {Frame: b, Tries: 1}, {Frame: a, Tries: 1}}
	n.Boxes = mails(999, slices.Repeat([]api.Frame{a}, 15)...)
	want.Out = nil
	want.Boxes = slices.Concat(mails(1000, b, b), mails(999, slices.Repeat([]api.Frame{a}, 14)...))
	want.Lost = 3 // the first a takes the last place, which b takes then, and so on
	check(t, "Tick", node.Tick(n, 1000), want)
	// What has expired goes first.
	n.Boxes = mails(879, slices.Repeat([]api.Frame{a}, 16)...)
	want.Boxes, want.Lost = mails(1000, b, b, a, a), 0
	check(t, "Tick", node.Tick(n, 1000), want)
}

// P17.3: beacons of every address at every tick of some beats.
func TestBeacons(t *testing.T) {
	for addr := range 251 {
		for now := range 25 {
			n := plain(addr, 0)
			want := n
			if now%8 == addr%8 {
				want.Table = []api.Route{{Dest: addr, Seq: 2, Next: addr}}
				f := api.Frame{Kind: 1, From: addr, To: 255, Source: addr, Target: 255, Seq: 2, Data: string([]byte{byte(addr), 0, 2, 0})}
				want.Out = entries(f)
			}
			check(t, "Tick", node.Tick(n, now), want)
			n.Poll, want = 4, n
			want.Poll = 4
			check(t, "Tick of a sleepy node", node.Tick(n, now), want)
		}
	}
	for now, due := range map[int]bool{math.MinInt: true, -1: true, 0: true, 1: false, lastTick: true, lastTick - 1: false, math.MaxInt: true} {
		if n := node.Tick(plain(8, 0), now); (len(n.Out) == 1) != due {
			t.Errorf("Tick at %d: got %+v", now, n)
		}
	}
}

// P17.3: beacons and what is in Out already.
func TestBeaconsInQueues(t *testing.T) {
	n := plain(8, 0)
	n.Table = []api.Route{{Dest: 2, Seq: 258, Cost: 30, Next: 4}, {Dest: 8, Seq: 600, Next: 8}, {Dest: 9, Seq: 7, Cost: 255, Next: 255}}
	bumped := slices.Clone(n.Table)
	bumped[1].Seq = 602
	f := beacon(8)
	f.Seq, f.Data = 602, "\x02\x01\x02\x1e"+"\x08\x02\x5a\x00"+"\x09\x00\x07\xff"
	old := beacon(8)
	old.Seq = 600
	urgent := fill(2, 8, true)
	for i, row := range []struct{ before, after []api.Sending }{
		{nil, entries(f)},
		{fill(1, 8, false), append(fill(1, 8, false), entries(f)...)},
		{urgent, append(slices.Clone(urgent), entries(f)...)},
		{fill(15, 8, false), append(fill(15, 8, false), entries(f)...)},
		{fill(16, 8, false), fill(16, 8, false)},
		{fill(16, 8, true), fill(16, 8, true)},
		{entries(old), entries(old)},
		{entries(beacon(99)), entries(beacon(99))}, // any other beacon
		{append(fill(14, 8, false), entries(old)...), append(fill(14, 8, false), entries(old)...)},
		{append(fill(15, 8, false), entries(old)...), append(fill(15, 8, false), entries(old)...)},
		{entries(poll(8, 1, 2)), entries(poll(8, 1, 2), f)},
	} {
		n.Out = row.before
		want := n
		want.Out, want.Table = row.after, bumped
		check(t, "Tick", node.Tick(n, 16), want)
		if got := node.Tick(n, 17); !same(got, n) {
			t.Errorf("row %d: Tick between beacons: got %+v", i, got)
		}
	}
	// The place of a frame that goes back into Boxes is free.
	n.Out = fill(16, 8, false)
	n.Out[4].Tries, n.Out[4].Frame.To = 1, 5
	got := node.Tick(n, 16)
	if len(got.Out) != 16 || got.Out[15].Frame != f || len(got.Boxes) != 1 || got.Lost != 0 {
		t.Errorf("Tick: got %+v", got)
	}
}

// P17.3: the own number has an end.
func TestLastOwnNumber(t *testing.T) {
	for seq, want := range map[int]int{65530: 65532, 65532: 65534, 65534: 65534} {
		n, s := plain(8, 0), plain(8, 5)
		n.Table[0].Seq, s.Table[0].Seq, s.Parent = seq, seq, 1
		if got := node.Tick(n, 8); got.Table[0].Seq != want || len(got.Out) != 1 || got.Out[0].Frame.Seq != want {
			t.Errorf("the beacon after %d: got %+v", seq, got)
		}
		if got := node.Tick(s, 5); got.Table[0].Seq != want || len(got.Out) != 1 || got.Out[0].Frame.Seq != want {
			t.Errorf("the poll after %d: got %+v", seq, got)
		}
	}
}

// P17.3: polls of sleepy nodes.
func TestPolls(t *testing.T) {
	for p := 1; p < 30; p++ {
		for now := range 100 {
			n := plain(8, p)
			n.Poll, n.Parent = max(4, p), 6
			want := n
			if now%n.Poll == 0 {
				want.Table = []api.Route{{Dest: 8, Seq: 2, Next: 8}}
				want.Out = entries(api.Frame{Kind: 3, From: 8, To: 6, Source: 8, Target: 6, Seq: 2, Urgent: true})
			}
			check(t, "Tick", node.Tick(n, now), want)
			n.Parent = everyone
			want = n
			check(t, "Tick without a parent", node.Tick(n, now), want)
		}
	}
	// Also at ticks that are limited.
	n := plain(8, 64)
	n.Parent = 6
	for now, due := range map[int]bool{math.MinInt: true, -1: true, 63: false, 64: true, lastTick - 1: false, lastTick: true, math.MaxInt: true} {
		if got := node.Tick(n, now); (len(got.Out) == 1) != due {
			t.Errorf("Tick at %d: got %+v", now, got)
		}
	}
}

// P17.3: polls and what is in Out already.
func TestPollsInQueues(t *testing.T) {
	n := plain(8, 5)
	n.Table = []api.Route{{Dest: 8, Seq: 600, Next: 8}}
	n.Parent = 6
	f := poll(8, 6, 602)
	old := poll(8, 7, 600)
	tried := fill(16, 8, false)
	for i := range tried {
		tried[i].Tries = 1
	}
	for _, row := range []struct {
		before, after []api.Sending
		lost          int
	}{
		{nil, entries(f), 0},
		{fill(3, 8, false), append(entries(f), fill(3, 8, false)...), 0},
		{fill(3, 8, true), append(fill(3, 8, true), entries(f)...), 0},
		{fill(15, 8, false), append(entries(f), fill(15, 8, false)...), 0},
		{fill(16, 8, false), append(entries(f), fill(15, 8, false)...), 1},
		{fill(16, 8, true), fill(16, 8, true), 1},
		{tried, tried, 1},
		{entries(old), entries(old), 0},
		{entries(poll(1, 2, 4)), entries(poll(1, 2, 4)), 0}, // any other poll
		{append(fill(15, 8, true), entries(old)...), append(fill(15, 8, true), entries(old)...), 0},
		{entries(beacon(8)), append(entries(f), entries(beacon(8))...), 0},
	} {
		n.Out = row.before
		want := n
		want.Out, want.Lost, want.Table = row.after, row.lost, []api.Route{{Dest: 8, Seq: 602, Next: 8}}
		check(t, "Tick", node.Tick(n, 20), want)
		check(t, "Tick between polls", node.Tick(n, 21), n)
	}
}

// router returns the node 5 with routes to 1 by 2, to 3, a child, by itself, to 4, a
// child, by 2, and a lost one to 6, which is a child too.
func router() api.Node {
	n := plain(5, 0)
	n.Table = []api.Route{
		{Dest: 1, Seq: 2, Cost: 30, Next: 2}, {Dest: 3, Seq: 2, Cost: 10, Next: 3}, {Dest: 4, Seq: 2, Cost: 20, Next: 2},
		{Dest: 5, Seq: 2, Next: 5}, {Dest: 6, Seq: 3, Cost: 255, Next: 255}, {Dest: 7, Seq: 2, Cost: 10, Next: 7},
	}
	n.Children = []int{3, 4, 6, 8}
	return n
}

// P17.4: what a node does with the first entry.
func TestTalk(t *testing.T) {
	n := router()
	sleepy := router()
	sleepy.Poll, sleepy.Parent = 5, 7
	lonely := sleepy
	lonely.Parent = everyone
	none := api.Frame{}
	at := func(target int) api.Frame { return dataFrame(5, 9, target, 1, "a") }
	for i, row := range []struct {
		node api.Node
		f    api.Frame
		want api.Frame // none if it is not transmitted
		box  bool      // it waits for the child
	}{
		{n, at(1), to(at(1), 2), false},
		{n, at(3), none, true},           // a present child
		{n, at(4), to(at(4), 2), false},  // a child that has another route now
		{n, at(6), none, false},          // a child without a route
		{n, at(8), none, false},          // a child without an entry
		{n, at(7), to(at(7), 7), false},  // a neighbor that is no child
		{n, at(0), none, false},          // no route
		{n, at(99), none, false},         // no route
		{n, at(255), none, false},        // to all nodes
		{n, at(-1), none, false},         // no node
		{n, at(5), to(at(5), 5), false},  // the node itself
		{n, beacon(5), beacon(5), false}, // no data
		{n, poll(5, 1, 2), poll(5, 1, 2), false},
		{n, to(at(3), 3), to(at(3), 3), false}, // taken from Boxes
		{n, to(at(99), 3), to(at(99), 3), false},
		{n, to(at(3), -1), to(at(3), -1), false},
		{sleepy, at(1), to(at(1), 7), false},
		{sleepy, at(3), to(at(3), 7), false},
		{sleepy, at(99), to(at(99), 7), false},
		{sleepy, poll(5, 1, 2), poll(5, 1, 2), false},
		{lonely, at(1), none, false},
		{lonely, at(3), none, false},
		{lonely, beacon(5), beacon(5), false},
		{lonely, to(at(3), 3), to(at(3), 3), false},
	} {
		for _, urgent := range []bool{false, true} {
			f := row.f
			f.Urgent = urgent
			row.want.Urgent = urgent && row.want != none
			n := row.node
			n.Out = entries(f)
			want := n
			switch {
			case row.box:
				want.Out, want.Boxes = nil, mails(50, to(f, f.Target))
			case row.want == none:
				want.Out = []api.Sending{{Frame: f, Tries: 1, Wait: 1}}
				if urgent {
					want.Out[0].Wait = 0
				}
			}
			got, g, ok := node.Talk(n, 50)
			check(t, "Talk", got, want)
			checkFrame(t, "Talk", g, ok, row.want, row.want != none)
			checkAll(t, n, 50+i, f, "")
		}
	}
}

// P17.4: node 0 is no child of a node that has no route to it, though Hop returns 0.
func TestTalkToChildZero(t *testing.T) {
	n := plain(5, 0)
	n.Children, n.Out = []int{0}, entries(dataFrame(5, 5, 0, 1, "a"))
	want := n
	want.Out = []api.Sending{{Frame: n.Out[0].Frame, Tries: 1, Wait: 1}}
	got, f, ok := node.Talk(n, 50)
	check(t, "Talk", got, want)
	checkFrame(t, "Talk", f, ok, api.Frame{}, false)
	n.Table = []api.Route{{Dest: 0, Cost: 10, Next: 0}, {Dest: 5, Next: 5}}
	got, f, ok = node.Talk(n, 50)
	want.Table, want.Out, want.Boxes = n.Table, nil, mails(50, to(n.Out[0].Frame, 0))
	check(t, "Talk", got, want)
	checkFrame(t, "Talk", f, ok, api.Frame{}, false)
}

// P17.4: the entries are examined in order, each at most once.
func TestTalkOfSeveral(t *testing.T) {
	n := router()
	lost, child, sent := dataFrame(5, 9, 99, 1, "lost"), dataFrame(5, 9, 3, 2, "child"), dataFrame(5, 9, 1, 3, "sent")
	urgent := lost
	urgent.Urgent = true
	n.Out = []api.Sending{
		{Frame: urgent, Tries: 5}, {Frame: child, Wait: 1}, {Frame: lost, Tries: 7}, {Frame: child, Tries: 3}, {Frame: urgent, Tries: 7, Wait: -9},
		{Frame: sent, Wait: 2}, {Frame: child}, {Frame: lost, Tries: 2}, {Frame: lost, Wait: 9}, {Frame: sent, Tries: 1, Wait: -1},
		{Frame: sent}, {Frame: lost}, {Frame: child},
	}
	n.Boxes, n.Lost = mails(40, to(child, 4)), 10
	want := n
	want.Out = []api.Sending{
		{Frame: urgent, Tries: 6}, {Frame: child, Wait: 1}, {Frame: sent, Wait: 2}, {Frame: lost, Tries: 3, Wait: 3}, {Frame: lost, Wait: 9},
		{Frame: sent, Tries: 1, Wait: -1}, {Frame: sent}, {Frame: lost}, {Frame: child},
	}
	want.Boxes = slices.Concat(mails(40, to(child, 4)), mails(50, to(child, 3), to(child, 3)))
	want.Lost = 12
	got, f, ok := node.Talk(n, 50)
	check(t, "Talk", got, want)
	checkFrame(t, "Talk", f, ok, to(sent, 2), true)
	// Without one that can be transmitted all are examined.
	n.Out = []api.Sending{{Frame: urgent, Tries: 7}, {Frame: urgent}, {Frame: lost, Tries: 7}, {Frame: lost}, {Frame: child}, {Frame: sent, Wait: 1}}
	want.Out = []api.Sending{{Frame: urgent, Tries: 1}, {Frame: lost, Tries: 1, Wait: 1}, {Frame: sent, Wait: 1}}
	want.Boxes = want.Boxes[:2]
	got, f, ok = node.Talk(n, 50)
	check(t, "Talk", got, want)
	checkFrame(t, "Talk", f, ok, api.Frame{}, false)
}

// P17.4: frames for children for which there is no space.
func TestTalkIntoFullBoxes(t *testing.T) {
	n := router()
	child := dataFrame(5, 9, 3, 2, "child")
	urgent := child
	urgent.Urgent = true
	n.Out = entries(urgent, child, urgent, child)
	n.Boxes = mails(40, slices.Repeat([]api.Frame{to(child, 4)}, 15)...)
	want := n
	want.Out, want.Lost = nil, 3
	want.Boxes = slices.Concat(mails(50, to(urgent, 3), to(urgent, 3)), mails(40, slices.Repeat([]api.Frame{to(child, 4)}, 14)...))
	got, _, _ := node.Talk(n, 50)
	check(t, "Talk", got, want)
	n.Lost, want.Lost = lastTick-1, lastTick
	got, _, _ = node.Talk(n, 50)
	check(t, "Talk", got, want)
	// What has expired is not removed here, and the tick is limited.
	n.Out, n.Boxes = entries(child), mails(40, to(child, 4))
	for now, since := range map[int]int{1000: 1000, -5: 0, math.MinInt: 0, lastTick + 1: lastTick, math.MaxInt: lastTick} {
		got, _, _ = node.Talk(n, now)
		if want := append(mails(40, to(child, 4)), mails(since, to(child, 3))...); !slices.Equal(got.Boxes, want) {
			t.Errorf("Talk at %d: got %v", now, got.Boxes)
		}
	}
}

// P17.4: without a route a frame is given up after eight tries, and lost.
func TestTalkUntilLost(t *testing.T) {
	n := plain(5, 0)
	n.Out = entries(dataFrame(5, 9, 1, 2, "a"))
	for tries := 1; tries <= 8; tries++ {
		for len(n.Out) > 0 && n.Out[0].Wait > 0 {
			before := n
			n, _, _ = node.Talk(n, 3)
			check(t, "Talk while it waits", n, before)
			n = node.Tick(n, 3)
		}
		n, _, _ = node.Talk(n, 3)
		if tries < 8 && (len(n.Out) != 1 || n.Out[0].Tries != tries || n.Out[0].Wait != min(tries, 4) || n.Lost != 0) {
			t.Fatalf("after %d tries: got %+v", tries, n)
		}
	}
	want := plain(5, 0)
	want.Lost = 1
	check(t, "Talk", n, want)
	check(t, "Talk", n, node.Result(n, dataFrame(5, 9, 1, 2, "a"), false))
}

// P17.5: which entry a result concerns.
func TestResultOfEntry(t *testing.T) {
	n := router()
	f := dataFrame(5, 9, 1, 2, "a")
	other := f
	other.Data, other.Target, other.Hops, other.Urgent, other.From = "b", 77, 4, true, 66
	p := poll(9, 1, 2) // the same source and number, another kind
	q := dataFrame(5, 8, 1, 2, "a")
	r := dataFrame(5, 9, 1, 3, "a")
	n.Out = []api.Sending{{Frame: p, Tries: 1}, {Frame: q}, {Frame: r, Wait: 3}, {Frame: f, Wait: 2, Tries: 3}, {Frame: other}, {Frame: f}}
	for i, g := range []api.Frame{p, q, r, to(f, 2), to(other, 2)} {
		at := min(i, 3)
		g.To = 2
		want := n
		want.Links = []api.Link{{Node: 2, Bits: 1, Count: 1}}
		want.Out = slices.Delete(slices.Clone(n.Out), at, at+1)
		check(t, "Result of a success", node.Result(n, g, true), want)
		want.Links[0].Bits = 0
		want.Out = slices.Clone(n.Out)
		want.Out[at].Tries = []int{2, 1, 1, 4}[at]
		want.Out[at].Wait = []int{0, 1, 1, 4}[at]
		check(t, "Result of a failure", node.Result(n, g, false), want)
	}
	for _, g := range []api.Frame{{}, poll(9, 2, 3), dataFrame(5, 7, 2, 2, "a"), dataFrame(5, 9, 2, 4, "a"), beacon(9), {Kind: 4, Source: 9, Seq: 2}} {
		check(t, "Result of no entry", node.Result(n, to(g, 2), true), n)
		check(t, "Result of no entry", node.Result(n, to(g, 2), false), n)
	}
	// Those behind the first 16 entries do not count.
	n.Out = fill(17, 5, false)
	want := n
	want.Out = n.Out[:16]
	check(t, "Result of the entry 16", node.Result(n, to(n.Out[16].Frame, 2), true), want)
}

// P17.5: a frame that is given up.
func TestResultGivenUp(t *testing.T) {
	n := router()
	n.Parent, n.Lost = 7, 3
	n.Links = []api.Link{{Node: 2, Bits: 3, Count: 2}, {Node: 3, Bits: 1, Count: 1}, {Node: 7}, {Node: 9}}
	f := dataFrame(5, 9, 1, 2, "a")
	last := api.Sending{Frame: f, Tries: 7}
	n.Out = []api.Sending{last, {Frame: beacon(5)}, last}
	rest := n.Out[1:]

	// The neighbor 2 is forgotten, and with it two routes.
	want := n
	want.Out, want.Lost, want.Links = rest, 4, n.Links[1:]
	want.Table = slices.Clone(n.Table)
	want.Table[0], want.Table[2] = api.Route{Dest: 1, Seq: 3, Cost: 255, Next: 255}, api.Route{Dest: 4, Seq: 3, Cost: 255, Next: 255}
	check(t, "Result to 2", node.Result(n, to(f, 2), false), want)

	// The child 3 is forgotten.
	want = n
	want.Out, want.Lost, want.Links, want.Children = rest, 4, slices.Delete(slices.Clone(n.Links), 1, 2), []int{4, 6, 8}
	want.Table = slices.Clone(n.Table)
	want.Table[1] = api.Route{Dest: 3, Seq: 3, Cost: 255, Next: 255}
	check(t, "Result to 3", node.Result(n, to(f, 3), false), want)

	// The parent 7 is forgotten.
	want = n
	want.Out, want.Lost, want.Links, want.Parent = rest, 4, slices.Delete(slices.Clone(n.Links), 2, 3), everyone
	want.Table = slices.Clone(n.Table)
	want.Table[5] = api.Route{Dest: 7, Seq: 3, Cost: 255, Next: 255}
	check(t, "Result to 7", node.Result(n, to(f, 7), false), want)

	// Nothing is known of 99, and the node itself stays.
	want = n
	want.Out, want.Lost = rest, 4
	check(t, "Result to 99", node.Result(n, to(f, 99), false), want)
	check(t, "Result to 5", node.Result(n, to(f, 5), false), want)
	for _, far := range []int{255, 251, -1, math.MinInt, math.MaxInt} {
		check(t, "Result to no node", node.Result(n, to(f, far), false), want)
	}

	// An acknowledged frame is not lost, and its receiver not forgotten.
	want.Lost = 3
	for _, far := range []int{255, 251, -1, math.MinInt, math.MaxInt} {
		check(t, "Result of a success to no node", node.Result(n, to(f, far), true), want)
	}
	want.Links = slices.Clone(n.Links)
	want.Links[2] = api.Link{Node: 7, Bits: 1, Count: 1}
	check(t, "Result of a success", node.Result(n, to(f, 7), true), want)
}

// P17.5: each number of tries, for each frame that has a result.
func TestResultOfEveryTry(t *testing.T) {
	for _, f := range []api.Frame{beacon(5), poll(5, 2, 4), dataFrame(5, 5, 1, 4, "a"), to(dataFrame(5, 9, 3, 4, "a"), 3)} {
		for _, tries := range append(farNumbers(), 6, 7, 8, 9, 10) {
			for _, neighbor := range []int{0, 2, 3, 7, 250, 255} {
				n := router()
				n.Out = []api.Sending{{Frame: f, Tries: tries}}
				n.Links = links.Seen(nil, 2, true)
				n.Lost = 1
				got := node.Result(n, to(f, neighbor), false)
				check(t, "Result", got, result(n, to(f, neighbor), false))
				if isOver := tries >= 7; (got.Lost == 2) != isOver || (len(got.Out) == 0) != isOver {
					t.Fatalf("after %d tries: got %+v", tries, got)
				}
			}
		}
	}
}

// P17.5: links of which no more can be stored.
func TestResultInFullLinks(t *testing.T) {
	n := router()
	f := dataFrame(5, 9, 1, 2, "a")
	n.Out = entries(f)
	for neighbor := range 24 {
		n.Links = append(n.Links, api.Link{Node: 10 + neighbor})
	}
	want := n
	want.Out = nil
	check(t, "Result to 2", node.Result(n, to(f, 2), true), want)
	want.Links = slices.Clone(n.Links)
	want.Links[3] = api.Link{Node: 13, Bits: 1, Count: 1}
	check(t, "Result to 13", node.Result(n, to(f, 13), true), want)
}

// P17.6: frames that a node ignores.
func TestHearIgnored(t *testing.T) {
	n := router()
	n.Boxes = mails(40, to(dataFrame(5, 9, 3, 2, "a"), 3))
	sleepy := n
	sleepy.Poll, sleepy.Parent = 5, 7
	piece := "\x00\x00\x01a"
	data := api.Frame{Kind: 2, From: 3, To: 5, Source: 3, Target: 5, Data: piece}
	changed := func(change func(f *api.Frame)) api.Frame {
		f := data
		change(&f)
		return f
	}
	for i, f := range []api.Frame{
		{},
		changed(func(f *api.Frame) { f.Kind = 0 }),
		changed(func(f *api.Frame) { f.Kind = 5 }),
		changed(func(f *api.Frame) { f.From = 5 }),
		changed(func(f *api.Frame) { f.To = 3 }),
		changed(func(f *api.Frame) { f.To = 4 }),
		changed(func(f *api.Frame) { f.To = 6 }),
		changed(func(f *api.Frame) { f.To = everyone }),
		changed(func(f *api.Frame) { f.From = -1 }),
		changed(func(f *api.Frame) { f.From = 251 }),
		changed(func(f *api.Frame) { f.Source = 255 }),
		changed(func(f *api.Frame) { f.Target = 254 }),
		changed(func(f *api.Frame) { f.Seq = -1 }),
		changed(func(f *api.Frame) { f.Seq = 65536 }),
		changed(func(f *api.Frame) { f.Hops = 16 }),
		changed(func(f *api.Frame) { f.Hops = -1 }),
		changed(func(f *api.Frame) { f.Data = "\x00\x00\x01" + strings.Repeat("a", 107) }),
		{Kind: 4, From: 3, To: 255, Source: 3, Target: 255, Data: "join"},
		{Kind: 4, From: 3, To: 5, Source: 3, Target: 5},
		{Kind: 1, From: 3, To: 5, Source: 3, Target: 255, Data: "\x01\x00\x04\x00"},
		{Kind: 1, From: 5, To: 255, Source: 5, Target: 255, Data: "\x01\x00\x04\x00"},
		{Kind: 3, From: 3, To: 4, Source: 3, Target: 4, Seq: 8},
		{Kind: 3, From: 3, To: 255, Source: 3, Target: 4, Seq: 8},
		{Kind: 3, From: 5, To: 3, Source: 5, Target: 3, Seq: 8},
		{Kind: 3, From: 3, To: 5, Source: 3, Target: 5, Seq: 8, Data: "x"},
	} {
		if got := node.Hear(n, 50, f); !same(got, n) {
			t.Errorf("the frame %d: got %+v", i, got)
		}
		if got := node.Hear(sleepy, 50, f); !same(got, sleepy) {
			t.Errorf("the frame %d, a sleepy node: got %+v", i, got)
		}
	}
	// A sleepy node has no children.
	check(t, "Hear of a poll", node.Hear(sleepy, 50, poll(3, 5, 8)), sleepy)
	// The frame that the others differ from.
	want := n
	want.Seen, want.Inbox = []api.Pair{{Source: 3}}, []api.Delivery{{Source: 3, Text: "a"}}
	check(t, "Hear", node.Hear(n, 50, data), want)
}

// P17.6: beacons.
func TestHearBeacon(t *testing.T) {
	n := plain(5, 0)
	n.Links = []api.Link{{Node: 2, Bits: 0, Count: 2}, {Node: 3, Bits: 4, Count: 3}}
	f := beacon(2, api.Route{Dest: 0, Seq: 4, Cost: 20}, api.Route{Dest: 2, Seq: 6}, api.Route{Dest: 5, Seq: 8, Cost: 30})
	want := n
	want.Links = []api.Link{{Node: 2, Bits: 1, Count: 3}, {Node: 3, Bits: 4, Count: 3}}
	want.Table = []api.Route{{Dest: 0, Seq: 4, Cost: 50, Next: 2}, {Dest: 2, Seq: 6, Cost: 30, Next: 2}, {Dest: 5, Next: 5}}
	check(t, "Hear", node.Hear(n, 50, f), want)
	// Its Source and its number do not matter.
	f.Source, f.Seq, f.Urgent, f.Hops = 5, 65535, true, 15
	check(t, "Hear", node.Hear(n, 50, f), want)
	// Data that are no routes.
	for _, data := range []string{"x", "\x00\x00\x04\x14\x02", "\x02\x00\x06\x00\x00\x00\x04\x14", "\x00\x00\x05\x14", "\xff\x00\x04\x14", strings.Repeat("\x00\x00\x04\x00", 25)} {
		f.Data = data
		want := n
		want.Links = []api.Link{{Node: 2, Bits: 1, Count: 3}, {Node: 3, Bits: 4, Count: 3}}
		check(t, "Hear of no routes", node.Hear(n, 50, f), want)
	}
	f.Data = ""
	want.Table = n.Table
	check(t, "Hear of an empty beacon", node.Hear(n, 50, f), want)
	// A neighbor for which there is no space has no cost, so its routes are not used.
	full := plain(5, 0)
	for neighbor := range 24 {
		full.Links = append(full.Links, api.Link{Node: 10 + neighbor, Bits: 1, Count: 1})
	}
	check(t, "Hear in full links", node.Hear(full, 50, beacon(2, api.Route{Seq: 4})), full)
	// A link that was bad is one of cost 160 with a success.
	bad := plain(5, 0)
	bad.Links = []api.Link{{Node: 2, Count: 16}}
	got := node.Hear(bad, 50, beacon(2, api.Route{Seq: 4, Cost: 40}, api.Route{Dest: 1, Seq: 4, Cost: 41}))
	if len(got.Table) != 2 || got.Table[0] != (api.Route{Seq: 4, Cost: 200, Next: 2}) {
		t.Errorf("Hear with a bad link: got %+v", got)
	}
}

// P17.6: the parent of a sleepy node.
func TestHearParent(t *testing.T) {
	far := []api.Link{}
	for neighbor := range 24 {
		far = append(far, api.Link{Node: 10 + neighbor})
	}
	for i, row := range []struct {
		poll, parent int
		links        []api.Link
		routes       []api.Route
		want         int
	}{
		{8, 255, nil, []api.Route{{Seq: 2}}, 3},
		{8, 255, nil, []api.Route{{Seq: 2, Cost: 200}}, 3}, // finite, though the cost by 3 is not
		{8, 255, nil, []api.Route{{Seq: 3, Cost: 255}}, 255},
		{8, 255, nil, []api.Route{{Seq: 2, Cost: 255}}, 255},
		{8, 255, nil, []api.Route{{Dest: 1, Seq: 2}}, 255},
		{8, 255, nil, []api.Route{{Dest: 1, Seq: 2}, {Dest: 3}}, 255},
		{8, 255, nil, nil, 255},
		{8, 255, nil, []api.Route{{Seq: 2, Cost: 20}, {Dest: 1, Seq: 3, Cost: 255}}, 3},
		{8, 255, far, []api.Route{{Seq: 2}}, 3}, // also without a link
		{8, 1, nil, []api.Route{{Seq: 2}}, 1},
		{8, 0, nil, []api.Route{{Seq: 2}}, 0},
		{8, 3, nil, []api.Route{{Seq: 3, Cost: 255}}, 3},
		{0, 255, nil, []api.Route{{Seq: 2}}, 255},
		{0, 1, nil, []api.Route{{Seq: 2}}, 1},
	} {
		n := plain(5, row.poll)
		n.Parent, n.Links = row.parent, row.links
		got := node.Hear(n, 50, beacon(3, row.routes...))
		if got.Parent != row.want {
			t.Errorf("row %d: got the parent %d, want %d", i, got.Parent, row.want)
		}
		checkAll(t, n, 50, beacon(3, row.routes...), "")
	}
	// Routes that cannot be read lead to no parent.
	f := beacon(3, api.Route{Seq: 2})
	f.Data += "x"
	if got := node.Hear(plain(5, 8), 50, f); got.Parent != everyone || len(got.Links) != 1 {
		t.Errorf("Hear of no routes: got %+v", got)
	}
	// The node 0 itself, with another one's route to 0.
	if got := node.Hear(plain(0, 8), 50, beacon(3, api.Route{Seq: 2, Cost: 10})); got.Parent != 3 || len(got.Table) != 1 {
		t.Errorf("Hear of the node 0: got %+v", got)
	}
}

// P17.6: a poll makes a child, and gets what waits for it.
func TestHearPoll(t *testing.T) {
	n := plain(5, 0)
	a, b, c := to(dataFrame(9, 1, 7, 1, "a"), 7), to(dataFrame(9, 1, 8, 2, "b"), 8), to(dataFrame(9, 1, 99, 3, "c"), 7)
	c.Urgent = true
	n.Children = []int{2, 9}
	n.Boxes = slices.Concat(mails(880, a), mails(879, a, b), mails(990, b, c), mails(1001, a))
	n.Out = entries(dataFrame(5, 5, 1, 4, "d"))
	mine := func(f api.Frame) api.Frame {
		f.From = 5
		return f
	}
	want := n
	want.Children = []int{2, 7, 9}
	want.Table = []api.Route{{Dest: 5, Next: 5}, {Dest: 7, Seq: 8, Cost: 10, Next: 7}}
	want.Boxes = mails(990, b)
	want.Out = entries(mine(c), n.Out[0].Frame, mine(a), mine(a))
	check(t, "Hear", node.Hear(n, 1000, poll(7, 5, 8)), want)
	// Its ends of the path do not matter.
	f := poll(7, 5, 8)
	f.Source, f.Target, f.Urgent, f.Hops = 8, everyone, false, 3
	check(t, "Hear", node.Hear(n, 1000, f), want)
	// A child that is known already, with an older number.
	again := want
	again.Out, again.Boxes = nil, nil
	check(t, "Hear again", node.Hear(again, 1000, poll(7, 5, 6)), again)
	check(t, "Hear again", node.Hear(again, 1000, poll(7, 5, 8)), again)
	// An odd number is no number of a route that exists.
	want.Table = n.Table
	check(t, "Hear of an odd number", node.Hear(n, 1000, poll(7, 5, 9)), want)
	// Nothing waits for 6; what has expired is removed.
	want = n
	want.Children = []int{2, 6, 9}
	want.Table = []api.Route{{Dest: 5, Next: 5}, {Dest: 6, Cost: 10, Next: 6}}
	want.Boxes = slices.Concat(mails(880, a), mails(990, b, c), mails(1001, a))
	check(t, "Hear of another child", node.Hear(n, 1000, poll(6, 5, 0)), want)
	// The link to a child has the cost 10, whatever is known of it.
	n.Links = []api.Link{{Node: 7, Count: 16}}
	got := node.Hear(n, 1000, poll(7, 5, 8))
	if !slices.Equal(got.Links, n.Links) || got.Table[1].Cost != 10 {
		t.Errorf("Hear with a bad link: got %+v", got)
	}
}

// P17.6: a poll of a node whose frames do not fit into Out.
func TestHearPollInFullQueue(t *testing.T) {
	n := plain(5, 0)
	a := to(dataFrame(5, 1, 7, 1, "a"), 7)
	u := a
	u.Urgent = true
	n.Out = fill(15, 5, false)
	n.Boxes = mails(990, u, u, a, a, a)
	want := n
	want.Children, want.Boxes = []int{7}, nil
	want.Table = []api.Route{{Dest: 5, Next: 5}, {Dest: 7, Seq: 8, Cost: 10, Next: 7}}
	want.Out = append(entries(u, u), fill(14, 5, false)...)
	want.Lost = 4 // one whose place was taken, and three that did not fit
	check(t, "Hear", node.Hear(n, 1000, poll(7, 5, 8)), want)
	n.Boxes = mails(990, slices.Repeat([]api.Frame{a}, 20)...)
	want.Out, want.Lost = append(fill(15, 5, false), entries(a)...), 15
	check(t, "Hear", node.Hear(n, 1000, poll(7, 5, 8)), want)
}

// P17.6: pieces of messages to the node.
func TestHearMessage(t *testing.T) {
	n := plain(5, 0)
	piece := func(seq, id, index, count int, data string) api.Frame {
		head := string([]byte{byte(id), byte(index), byte(count)})
		return api.Frame{Kind: 2, From: 3, To: 5, Source: 9, Target: 5, Seq: seq, Hops: 15, Data: head + data}
	}
	first := strings.Repeat("x", 64)
	steps := []struct {
		f     api.Frame
		parts int
		inbox []api.Delivery // those that arrive
	}{
		{piece(1, 7, 0, 1, "one"), 0, []api.Delivery{{Source: 9, Text: "one"}}},
		{piece(1, 7, 0, 1, "one"), 0, nil},                                            // a duplicate
		{piece(1, 7, 0, 1, "other"), 0, nil},                                          // of which only the pair counts
		{piece(2, 7, 0, 1, ""), 0, []api.Delivery{{Source: 9}}},                       // an empty message
		{piece(3, 7, 1, 2, "y"), 1, nil},                                              // its second half
		{piece(4, 7, 1, 2, "z"), 1, nil},                                              // again
		{piece(5, 7, 2, 2, "z"), 1, nil},                                              // no piece
		{piece(6, 7, 0, 2, "short"), 1, nil},                                          // no piece
		{api.Frame{Kind: 2, From: 3, To: 5, Target: 5}, 1, nil},                       // no piece, of the node 0
		{piece(7, 7, 0, 3, first), 1, nil},                                            // of another count
		{piece(8, 7, 1, 2, "y"), 1, nil},                                              // again of the first one
		{piece(9, 7, 0, 2, first), 0, []api.Delivery{{Source: 9, Text: first + "y"}}}, // complete
	}
	for i, row := range steps {
		want := n
		pair := api.Pair{Source: row.f.Source, Seq: row.f.Seq}
		if !slices.Contains(n.Seen, pair) {
			want.Seen = append(slices.Clone(n.Seen), pair)
		}
		got := node.Hear(n, 50+i, row.f)
		if len(got.Parts) != row.parts {
			t.Fatalf("the frame %d: got the incomplete messages %v", i, got.Parts)
		}
		want.Parts = got.Parts
		want.Inbox = append(slices.Clone(n.Inbox), row.inbox...)
		check(t, "Hear", got, want)
		checkAll(t, n, 50+i, row.f, "")
		n = got
	}
	// The tick of the first piece, limited.
	for now, since := range map[int]int{77: 77, -1: 0, math.MinInt: 0, lastTick: lastTick, math.MaxInt: lastTick} {
		if got := node.Hear(n, now, piece(20, 8, 1, 2, "y")); len(got.Parts) != 1 || got.Parts[0].Since != since || got.Parts[0].Source != 9 {
			t.Errorf("Hear at %d: got %+v", now, got)
		}
	}
}

// P17.6: a message for which there is no space.
func TestHearInFullInbox(t *testing.T) {
	n := plain(5, 0)
	n.Inbox = make([]api.Delivery, 255)
	for seq := range 3 {
		want := n
		want.Seen = append(slices.Clone(n.Seen), api.Pair{Source: 3, Seq: seq})
		if seq == 0 {
			want.Inbox = append(slices.Clone(n.Inbox), api.Delivery{Source: 3, Text: "a"})
		} else {
			want.Lost = n.Lost + 1
		}
		got := node.Hear(n, 50, api.Frame{Kind: 2, From: 4, To: 5, Source: 3, Target: 5, Seq: seq, Data: "\x00\x00\x01a"})
		check(t, "Hear", got, want)
		n = got
	}
	// Its pieces are gone.
	n.Parts = []api.Parts{{Source: 3, Id: 1, Count: 2, Have: []bool{true, false}, Data: []string{strings.Repeat("x", 64), ""}}}
	want := n
	want.Lost, want.Parts, want.Seen = n.Lost+1, nil, append(slices.Clone(n.Seen), api.Pair{Source: 3, Seq: 9})
	check(t, "Hear", node.Hear(n, 50, api.Frame{Kind: 2, From: 4, To: 5, Source: 3, Target: 5, Seq: 9, Data: "\x01\x01\x02a"}), want)
}

// P17.6: frames that go on to other nodes.
func TestHearForwarded(t *testing.T) {
	f := api.Frame{Kind: 2, From: 3, To: 5, Source: 9, Target: 1, Seq: 4, Data: "any"}
	pairs := []api.Pair{{Source: 9, Seq: 4}}
	for hops := range 16 {
		for _, target := range []int{0, 1, 3, 9, 250, 255} {
			for _, urgent := range []bool{false, true} {
				f.Hops, f.Target, f.Urgent = hops, target, urgent
				n := plain(5, 0)
				n.Out = fill(2, 5, false)
				want := n
				want.Seen = pairs
				next := f
				next.From, next.To, next.Hops = 5, everyone, hops+1
				switch {
				case hops == 15:
					want.Lost = 1
				case urgent:
					want.Out = append(entries(next), fill(2, 5, false)...)
				default:
					want.Out = append(fill(2, 5, false), entries(next)...)
				}
				check(t, "Hear", node.Hear(n, 50, f), want)
				n.Poll, n.Parent = 8, 3
				want = n
				want.Seen, want.Lost = pairs, 1
				check(t, "Hear of a sleepy node", node.Hear(n, 50, f), want)
			}
		}
	}
	// A full queue.
	f.Hops = 0
	for _, row := range []struct {
		before bool
		urgent bool
		lost   int
		fits   bool
	}{{false, false, 1, false}, {false, true, 1, true}, {true, true, 1, false}} {
		n := plain(5, 0)
		n.Out = fill(16, 5, row.before)
		f.Urgent = row.urgent
		got := node.Hear(n, 50, f)
		if got.Lost != row.lost || len(got.Out) != 16 || (got.Out[0].Frame.Seq == 4) != row.fits || !slices.Equal(got.Seen, pairs) {
			t.Errorf("Hear with a full queue: got %+v", got)
		}
	}
	// A pair that was seen already, also by another way, is not forwarded.
	n := plain(5, 0)
	n.Seen = []api.Pair{{Source: 9, Seq: 4}, {Source: 9, Seq: 5}}
	f.From, f.Target, f.Data = 2, 7, "other"
	check(t, "Hear of a duplicate", node.Hear(n, 50, f), n)
}

// P17.6, P17.8: pairs of which 32 are remembered.
func TestHearPairs(t *testing.T) {
	n := plain(5, 8) // which forwards nothing
	hearOf := func(n api.Node, seq int) api.Node {
		return node.Hear(n, 50, api.Frame{Kind: 2, From: 3, To: 5, Source: 9, Target: 1, Seq: seq})
	}
	for seq := range 40 {
		n = hearOf(n, seq)
		if n.Lost != seq+1 || len(n.Seen) != min(seq+1, 32) || n.Seen[len(n.Seen)-1] != (api.Pair{Source: 9, Seq: seq}) {
			t.Fatalf("after %d: got %+v", seq, n)
		}
		check(t, "Hear again", hearOf(n, seq), n)
	}
	for seq := 8; seq < 40; seq++ {
		check(t, "Hear again", hearOf(n, seq), n)
	}
	if got := hearOf(n, 7); got.Lost != 41 || got.Seen[0].Seq != 9 {
		t.Errorf("Hear of an old pair: got %+v", got)
	}
}

// P17.1 to P17.8: random nodes.
func TestRandomNodes(t *testing.T) {
	d := newDice()
	for range 30000 {
		now := d.tick()
		n := d.node(now)
		f := d.frame(d.oneOf(nearest(n.Addr, 0, 250), nearest(n.Addr, 0, 250), everyone, d.addr()))
		if len(n.Seen) > 0 && d.rarely(4) {
			pair := n.Seen[d.IntN(len(n.Seen))]
			f.Source, f.Seq = pair.Source, pair.Seq
		}
		if d.rarely(3) {
			f.Target = nearest(n.Addr, 0, 250)
		}
		text := strings.Repeat("t", d.oneOf(0, 1, 64, 65, 128, 129, 999, 1000, 1001))
		checkAll(t, n, now, f, text)
		checkConsequences(t, n, now, f, text)
	}
}

// checkConsequences checks what follows from the definitions.
func checkConsequences(t *testing.T, n api.Node, now int, f api.Frame, text string) {
	t.Helper()
	given := ordered(n)
	taken, _ := node.Take(n)
	talked, _, _ := node.Talk(n, now)
	heard := node.Hear(n, now, f)
	results := []api.Node{taken, talked, heard, node.Tick(n, now), node.Result(n, f, true), node.Result(n, f, false)}
	if sent, err := node.Send(n, f.Target, f.Urgent, text); err == api.OK {
		results = append(results, sent)
	}
	for i, got := range results {
		check(t, "in order", ordered(got), got)
		checkRoutes(t, i, given.Table, got.Table)
		if got.Lost < given.Lost || got.Addr != given.Addr || got.Poll != given.Poll {
			t.Fatalf("the function %d: got %+v after %+v", i, got, given)
		}
	}
	if f.Kind == api.FkData {
		check(t, "Hear again", node.Hear(heard, now, f), heard)
	}
	checkUrgency(t, given, now)
}

// checkRoutes checks that no route is lost or has become worse: P17.7.
func checkRoutes(t *testing.T, function int, before, after []api.Route) {
	t.Helper()
	for _, old := range before {
		isKept := slices.ContainsFunc(after, func(r api.Route) bool {
			return r.Dest == old.Dest && (r.Seq > old.Seq || r.Seq == old.Seq && r.Cost <= old.Cost)
		})
		if !isKept {
			t.Fatalf("the function %d: the route %v is not in %v", function, old, after)
		}
	}
}

// checkUrgency checks that an urgent frame is transmitted if one can be: P17.10.
func checkUrgency(t *testing.T, n api.Node, now int) {
	t.Helper()
	ordinary := slices.IndexFunc(n.Out, func(entry api.Sending) bool { return !entry.Frame.Urgent })
	urgent := slices.ContainsFunc(n.Out[max(0, ordinary):], func(entry api.Sending) bool { return entry.Frame.Urgent })
	if ordinary >= 0 && urgent {
		return
	}
	for _, entry := range n.Out {
		if !entry.Frame.Urgent || entry.Wait > 0 {
			continue
		}
		alone := n
		alone.Out = []api.Sending{entry}
		if _, _, ok := node.Talk(alone, now); ok {
			if _, f, ok := node.Talk(n, now); !ok || !f.Urgent {
				t.Fatalf("Talk(%+v): got %v, %t", n, f, ok)
			}
		}
	}
}

// P17.10: queues with urgent frames first.
func TestUrgency(t *testing.T) {
	d := newDice()
	for range 20000 {
		n := router()
		if d.rarely(3) {
			n.Poll, n.Parent = 8, d.oneOf(7, everyone)
		}
		for range d.IntN(17) {
			f := d.frame(d.oneOf(everyone, everyone, 3))
			f.Kind, f.Target = d.oneOf(1, 2, 2, 2, 3), d.oneOf(1, 3, 4, 6, 7, 99)
			next, _ := queued(n, f)
			n = next
		}
		for i := range n.Out {
			n.Out[i].Tries, n.Out[i].Wait = d.IntN(8), d.oneOf(0, 0, 1)
		}
		checkUrgency(t, n, 50)
	}
}

// medium is a house of nodes that hear each other or not.
type medium struct {
	nodes map[int]api.Node
	links map[[2]int]bool
	now   int
	alone map[int]bool // nodes that hear nothing at this tick
	t     *testing.T
}

func newMedium(t *testing.T, polls map[int]int, pairs ...[2]int) *medium {
	m := &medium{nodes: map[int]api.Node{}, links: map[[2]int]bool{}, alone: map[int]bool{}, t: t}
	for addr, p := range polls {
		m.nodes[addr] = node.New(addr, p)
	}
	for _, pair := range pairs {
		m.links[pair], m.links[[2]int{pair[1], pair[0]}] = true, true
	}
	return m
}

// change replaces a node, and checks that its new state is one in order.
func (m *medium) change(n api.Node) {
	m.t.Helper()
	check(m.t, "in order", ordered(n), n)
	checkRoutes(m.t, m.now, m.nodes[n.Addr].Table, n.Table)
	m.nodes[n.Addr] = n
}

func (m *medium) addrs() []int {
	var l []int
	for addr := range 251 {
		if _, ok := m.nodes[addr]; ok {
			l = append(l, addr)
		}
	}
	return l
}

// step lets a tick pass.
func (m *medium) step() {
	m.t.Helper()
	m.now++
	frames := map[int]api.Frame{}
	for _, addr := range m.addrs() {
		m.change(node.Tick(m.nodes[addr], m.now))
		n, f, ok := node.Talk(m.nodes[addr], m.now)
		m.change(n)
		if ok {
			frames[addr] = f
		}
	}
	for _, addr := range m.addrs() {
		if f, ok := frames[addr]; ok {
			m.change(node.Result(m.nodes[addr], f, m.transmit(addr, f)))
		}
	}
}

// transmit lets the neighbors of a node hear a frame, and reports whether it is
// acknowledged.
func (m *medium) transmit(from int, f api.Frame) bool {
	m.t.Helper()
	isHeard := f.To == everyone
	for _, addr := range m.addrs() {
		n := m.nodes[addr]
		if !m.links[[2]int{from, addr}] || m.alone[addr] || f.To != everyone && f.To != addr || !node.Awake(n, m.now) {
			continue
		}
		m.change(node.Hear(n, m.now, f))
		if f.Kind == api.FkData {
			check(m.t, "Hear again", node.Hear(m.nodes[addr], m.now, f), m.nodes[addr])
		}
		isHeard = true
	}
	return isHeard && !m.alone[from]
}

func (m *medium) send(from, target int, urgent bool, text string) api.Errno {
	n, err := node.Send(m.nodes[from], target, urgent, text)
	if err == api.OK {
		m.change(n)
	}
	return err
}

func (m *medium) take(addr int) []api.Delivery {
	n, inbox := node.Take(m.nodes[addr])
	m.change(n)
	return inbox
}

func (m *medium) steps(ticks int) {
	m.t.Helper()
	for range ticks {
		m.step()
	}
}

// P17.9: messages of all lengths to a neighbor.
func TestDelivery(t *testing.T) {
	for length := range 1001 {
		from, target := length%250, (length*7+1)%250
		if from == target {
			target++
		}
		n, m := node.New(from, 0), node.New(target, 0)
		n = node.Hear(n, 8, beacon(target, api.Route{Dest: target, Seq: 2}))
		text := strings.Repeat("0123456789", 100)[:length]
		n, err := node.Send(n, target, length%2 == 0, text)
		if err != api.OK {
			t.Fatalf("Send: error %d", err)
		}
		pieces := max(1, (length+63)/64)
		for i := range pieces {
			var f api.Frame
			var ok bool
			n, f, ok = node.Talk(n, 9)
			if !ok || len(m.Inbox) != 0 {
				t.Fatalf("the piece %d of %d bytes: got %v, %t", i, length, f, ok)
			}
			m = node.Hear(m, 9, f)
			n = node.Result(n, f, true)
		}
		if !slices.Equal(m.Inbox, []api.Delivery{{Source: from, Text: text}}) || len(m.Parts) != 0 || len(n.Out) != 0 {
			t.Fatalf("%d bytes: got %+v", length, m.Inbox)
		}
		if _, f, ok := node.Talk(n, 9); ok {
			t.Fatalf("%d bytes: got one more frame %v", length, f)
		}
	}
}

// P17.9: with ticks that pass in between, in which no beacon is due; and a sleepy
// sender, whose parent the neighbor becomes.
func TestDeliveryInTicks(t *testing.T) {
	for pieces := 1; pieces <= 16; pieces++ {
		m := newMedium(t, map[int]int{0: 0, 9: 50}, [2]int{0, 9})
		m.now = 15
		m.step() // the node 0 sends a beacon
		text := strings.Repeat("x", min(1000, pieces*64))
		m.send(9, 0, false, text)
		for i := range pieces {
			if len(m.nodes[0].Inbox) > 0 {
				t.Fatalf("%d pieces: it arrives after %d", pieces, i)
			}
			m.now = 16 // so that neither beacons nor polls are due
			m.step()
		}
		if got := m.take(0); !slices.Equal(got, []api.Delivery{{Source: 9, Text: text}}) {
			t.Fatalf("%d pieces: got %v", pieces, got)
		}
		m.steps(100)
		if got := m.take(0); len(got) != 0 || m.nodes[9].Lost != 0 {
			t.Fatalf("%d pieces: got %v later", pieces, got)
		}
	}
}

// P17.3 to P17.6: a message in both directions over two hops to a sleepy node.
func TestSleepyConversation(t *testing.T) {
	for p := 4; p < 30; p++ {
		m := newMedium(t, map[int]int{0: 0, 1: 0, 2: p}, [2]int{0, 1}, [2]int{1, 2})
		m.steps(60)
		if m.nodes[2].Parent != 1 || !slices.Equal(m.nodes[1].Children, []int{2}) {
			t.Fatalf("the poll %d: got %+v", p, m.nodes)
		}
		text := strings.Repeat("abc", 50)
		m.send(0, 2, false, text)
		m.send(2, 0, true, text+"!")
		m.steps(100 + 6*p)
		if got := m.take(2); !slices.Equal(got, []api.Delivery{{Source: 0, Text: text}}) {
			t.Fatalf("the poll %d: got %v", p, got)
		}
		if got := m.take(0); !slices.Equal(got, []api.Delivery{{Source: 2, Text: text + "!"}}) {
			t.Fatalf("the poll %d: got %v", p, got)
		}
		for addr, n := range m.nodes {
			if n.Lost != 0 || len(n.Boxes) != 0 {
				t.Errorf("the poll %d, the node %d: got %+v", p, addr, n)
			}
		}
	}
}

// P17.5, P17.7, P17.8: nodes whose neighbors hear nothing at some ticks, and forget each
// other. Later all find each other again.
func TestInterference(t *testing.T) {
	d := newDice()
	for round := range 20 {
		m := newMedium(t, map[int]int{0: 0, 1: 0, 2: 0, 3: 0, 4: 7, 5: 12}, [2]int{0, 1}, [2]int{1, 2}, [2]int{2, 3}, [2]int{3, 4}, [2]int{1, 5}, [2]int{0, 2})
		for i := range 400 {
			for addr := range 6 {
				m.alone[addr] = i < 300 && (m.alone[addr] != d.rarely(15))
			}
			if i%5 == 0 && i < 300 {
				m.send(d.IntN(6), d.IntN(6), d.rarely(2), d.letters(200))
			}
			m.step()
		}
		for addr := range 6 {
			m.take(addr)
		}
		m.steps(400)
		for addr := range 6 {
			m.take(addr)
		}
		for addr := 1; addr < 6; addr++ {
			up, down := strings.Repeat("up", addr), strings.Repeat("down", addr)
			if err := m.send(addr, 0, false, up); err != api.OK {
				t.Fatalf("round %d: error %d", round, err)
			}
			m.send(0, addr, true, down)
			m.steps(80)
			if got := m.take(0); !slices.Contains(got, api.Delivery{Source: addr, Text: up}) {
				t.Errorf("round %d: the node 0 got %v of %d", round, got, addr)
			}
			if got := m.take(addr); !slices.Contains(got, api.Delivery{Source: 0, Text: down}) {
				t.Errorf("round %d: the node %d got %v", round, addr, got)
			}
		}
	}
}

// R1: numbers at the ends of int in every place.
func TestFarNumbers(t *testing.T) {
	d := newDice()
	for range 4000 {
		now := d.far()
		n := d.node(d.tick())
		for _, field := range []*int{&n.Addr, &n.Poll, &n.Parent, &n.Seq, &n.Lost} {
			if d.rarely(3) {
				*field = d.far()
			}
		}
		for i := range n.Boxes {
			n.Boxes[i].Since = d.far()
		}
		for i := range n.Out {
			if d.rarely(3) {
				n.Out[i].Frame = api.Frame{Kind: d.far(), From: d.far(), To: d.far(), Source: d.far(), Target: d.far(), Seq: d.far(), Hops: d.far()}
			}
		}
		for i := range n.Parts {
			if d.rarely(3) {
				n.Parts[i].Since, n.Parts[i].Source = d.far(), d.far()
			}
		}
		f := d.frame(d.far())
		f.Target, f.Source = d.far(), d.far()
		checkAll(t, n, now, f, "")
		checkConsequences(t, n, now, f, "")
	}
}

// R1: lists that are much too long.
func TestLongLists(t *testing.T) {
	d := newDice()
	for range 3 {
		n := api.Node{Addr: 3, Out: d.out(3000), Boxes: d.boxes(3000, 2000), Children: d.numbers(3000), Seen: d.pairs(3000), Inbox: d.inbox(3000)}
		for range 3000 {
			n.Parts = append(n.Parts, api.Parts{Source: d.IntN(5), Id: d.IntN(5), Count: 2, Since: 1999, Have: []bool{false, true}, Data: []string{"", "x"}})
			n.Table = append(n.Table, api.Route{Dest: 3, Next: 3})
			n.Links = append(n.Links, api.Link{Node: 3})
		}
		for _, f := range []api.Frame{poll(1, 3, 2), beacon(1, api.Route{}), to(dataFrame(1, 2, 3, 4, "\x01\x00\x02"+strings.Repeat("x", 64)), 3)} {
			checkAll(t, n, 2000, f, "text")
			checkConsequences(t, n, 2000, f, "text")
		}
	}
}

// spoil changes all memory that can be reached from a node, also behind its lists.
func spoil(n api.Node) {
	for _, p := range n.Parts {
		fillUp(p.Have, true)
		fillUp(p.Data, "spoilt")
	}
	fillUp(n.Table, api.Route{Dest: 77})
	fillUp(n.Links, api.Link{Node: 77})
	fillUp(n.Out, api.Sending{Tries: 77})
	fillUp(n.Children, 77)
	fillUp(n.Boxes, api.Mail{Since: 77})
	fillUp(n.Seen, api.Pair{Seq: 77})
	fillUp(n.Parts, api.Parts{Id: 77})
	spoilInbox(n.Inbox)
}

func spoilInbox(l []api.Delivery) {
	fillUp(l, api.Delivery{Source: 77})
}

func fillUp[T any](l []T, element T) {
	l = l[:cap(l)]
	for i := range l {
		l[i] = element
	}
}

// R5: results share no memory with arguments.
func TestMemory(t *testing.T) {
	d := newDice()
	for range 4000 {
		now := d.tick()
		n := ordered(d.node(now))
		f := d.frame(d.oneOf(n.Addr, n.Addr, everyone))
		functions := map[string]func(api.Node) api.Node{
			"Send":   func(n api.Node) api.Node { m, _ := node.Send(n, f.Target, f.Urgent, "text"); return m },
			"Tick":   func(n api.Node) api.Node { return node.Tick(n, now) },
			"Talk":   func(n api.Node) api.Node { m, _, _ := node.Talk(n, now); return m },
			"Result": func(n api.Node) api.Node { return node.Result(n, f, now%2 == 0) },
			"Hear":   func(n api.Node) api.Node { return node.Hear(n, now, f) },
			"Take":   func(n api.Node) api.Node { m, _ := node.Take(n); return m },
		}
		for name, function := range functions {
			mine := copied(n)
			got := function(mine)
			want := copied(got)
			spoil(mine)
			check(t, name+", when its argument is changed", got, want)
			mine = copied(n)
			got = function(mine)
			spoil(got)
			check(t, name+", when its result is changed", mine, n)
		}
	}
}

// R5: Take's messages are not those of its node or its argument, and results are not
// those of other calls.
func TestMemoryOfResults(t *testing.T) {
	n := router()
	n.Inbox = make([]api.Delivery, 3, 20)
	n.Parts = []api.Parts{{Id: 1, Count: 2, Have: []bool{false, true}, Data: []string{"", "x"}}}
	n.Out = entries(dataFrame(5, 5, 1, 1, "a"))
	want := copied(n)
	left, inbox := node.Take(n)
	leftWant := copied(left)
	spoilInbox(inbox)
	check(t, "the argument", n, want)
	check(t, "the node", left, leftWant)
	_, inbox = node.Take(n)
	spoil(left)
	if !slices.Equal(inbox, want.Inbox) {
		t.Errorf("Take: got %v", inbox)
	}
	a, b := node.New(3, 0), node.New(3, 0)
	spoil(a)
	check(t, "New", b, plain(3, 0))
	check(t, "New", node.New(3, 0), plain(3, 0))
	c, d := node.Hear(n, 5, beacon(9, api.Route{})), node.Hear(n, 5, beacon(9, api.Route{}))
	e := copied(d)
	spoil(c)
	check(t, "Hear", d, e)
}

// R4: nil and empty lists are the same.
func TestNilAndEmptyAreTheSame(t *testing.T) {
	none := api.Node{Addr: 5, Parent: everyone}
	empty := api.Node{
		Addr: 5, Parent: everyone, Table: []api.Route{}, Links: []api.Link{}, Out: []api.Sending{}, Children: []int{}, Boxes: []api.Mail{},
		Seen: []api.Pair{}, Parts: []api.Parts{}, Inbox: []api.Delivery{},
	}
	for _, f := range []api.Frame{poll(1, 5, 2), beacon(1, api.Route{}), to(dataFrame(1, 2, 5, 4, "\x01\x00\x01x"), 5)} {
		for _, p := range []int{0, 5} {
			none.Poll, empty.Poll = p, p
			checkAll(t, none, 5, f, "text")
			checkAll(t, empty, 5, f, "text")
			check(t, "Hear", node.Hear(none, 5, f), node.Hear(empty, 5, f))
			check(t, "Tick", node.Tick(none, 5), node.Tick(empty, 5))
			if node.Awake(none, 3) != node.Awake(empty, 3) {
				t.Error("Awake")
			}
		}
	}
}

// R7: a call does not depend on earlier ones.
func TestCallsAreIndependent(t *testing.T) {
	d := newDice()
	n, f := d.node(2005), d.frame(1)
	want := node.Hear(n, 2005, f)
	sent, _ := node.Send(n, 0, false, "a")
	for range 500 {
		other := d.node(2000)
		node.Tick(other, 2000)
		node.Hear(other, 2000, d.frame(everyone))
		check(t, "Hear", node.Hear(n, 2005, f), want)
		again, _ := node.Send(n, 0, false, "a")
		check(t, "Send", again, sent)
	}
}
