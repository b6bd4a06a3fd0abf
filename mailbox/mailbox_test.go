package mailbox_test

import (
	"math"
	"math/rand/v2"
	"slices"
	"strings"
	"testing"

	"homehub/api"
	"homehub/mailbox"
)

const (
	most     = 16 // mails of a mailbox
	lastTick = 1 << 40
)

// The models of the functions. They keep the mails by places: the mails of a mailbox
// at odd ones, so that there is an even one before each of them.

type places map[int]api.Mail

func placesOf(l []api.Mail) places {
	p := places{}
	for i, mail := range l {
		if i < 16 {
			p[2*i+1] = mail
		}
	}
	return p
}

func (p places) list() []api.Mail {
	var l []api.Mail
	for n := range 40 {
		if mail, ok := p[n]; ok {
			l = append(l, mail)
		}
	}
	return l
}

// ordinary returns the places of all mails that are not urgent.
func (p places) ordinary() []int {
	var found []int
	for n := range 40 {
		if mail, ok := p[n]; ok && !mail.Frame.Urgent {
			found = append(found, n)
		}
	}
	return found
}

// put returns what Put returns.
func put(l []api.Mail, f api.Frame, now int) ([]api.Mail, bool) {
	p := placesOf(l)
	isFull, at := len(p) == 16, 38
	if f.Urgent {
		found := p.ordinary()
		if isFull && len(found) > 0 {
			delete(p, found[len(found)-1])
			found, isFull = found[:len(found)-1], false
		}
		if len(found) > 0 {
			at = found[0] - 1
		}
	}
	if isFull {
		return p.list(), false
	}
	p[at] = api.Mail{Frame: f, Since: tick(now)}
	return p.list(), true
}

// tick returns the tick that a number counts as.
func tick(n int) int {
	switch {
	case n < 0:
		return 0
	case n > 1099511627776:
		return 1099511627776
	}
	return n
}

func expired(mail api.Mail, now, life int) bool {
	return tick(mail.Since)+tick(life) < tick(now)
}

// take returns what Take returns.
func take(l []api.Mail, to, now, life int) (api.Frame, []api.Mail, bool) {
	p := placesOf(l)
	taken := 0
	for n := 39; n > 0; n-- {
		mail, ok := p[n]
		switch {
		case ok && expired(mail, now, life):
			delete(p, n)
		case ok && mail.Frame.To == to:
			taken = n
		}
	}
	f := p[taken].Frame
	delete(p, taken)
	return f, p.list(), taken > 0
}

// expire returns what Expire returns.
func expire(l []api.Mail, now, life int) []api.Mail {
	p := placesOf(l)
	for n, mail := range p {
		if expired(mail, now, life) {
			delete(p, n)
		}
	}
	return p.list()
}

// count returns what Count returns.
func count(l []api.Mail, to int) int {
	found := 0
	for _, mail := range placesOf(l) {
		if mail.Frame.To == to {
			found++
		}
	}
	return found
}

// The first difference ends a test, as some of them compare very many mailboxes.

func checkPut(t *testing.T, l []api.Mail, f api.Frame, now int, want []api.Mail, wantOk bool) {
	t.Helper()
	if got, ok := mailbox.Put(l, f, now); !slices.Equal(got, want) || ok != wantOk {
		t.Fatalf("Put(%v, %v, %d): got %v, %t, want %v, %t", l, f, now, got, ok, want, wantOk)
	}
}

func checkTake(t *testing.T, l []api.Mail, to, now, life int, want api.Frame, left []api.Mail, wantOk bool) {
	t.Helper()
	if got, after, ok := mailbox.Take(l, to, now, life); got != want || !slices.Equal(after, left) || ok != wantOk {
		t.Fatalf("Take(%v, %d, %d, %d): got %v, %v, %t, want %v, %v, %t", l, to, now, life, got, after, ok, want, left, wantOk)
	}
}

func checkExpire(t *testing.T, l []api.Mail, now, life int, want []api.Mail) {
	t.Helper()
	if got := mailbox.Expire(l, now, life); !slices.Equal(got, want) {
		t.Fatalf("Expire(%v, %d, %d): got %v, want %v", l, now, life, got, want)
	}
}

func checkCount(t *testing.T, l []api.Mail, to, want int) {
	t.Helper()
	if got := mailbox.Count(l, to); got != want {
		t.Fatalf("Count(%v, %d): got %d, want %d", l, to, got, want)
	}
}

// checkPuts compares Put with its model, for a frame that is not urgent and one that
// is.
func checkPuts(t *testing.T, l []api.Mail, now int) {
	t.Helper()
	for _, urgent := range []bool{false, true} {
		f := frame(7, urgent, "new")
		want, ok := put(l, f, now)
		checkPut(t, l, f, now, want, ok)
	}
}

// checkNode compares the functions that concern a node with their models.
func checkNode(t *testing.T, l []api.Mail, to, now, life int) {
	t.Helper()
	f, left, ok := take(l, to, now, life)
	checkTake(t, l, to, now, life, f, left, ok)
	checkExpire(t, l, now, life, expire(l, now, life))
	checkCount(t, l, to, count(l, to))
}

// checkAll compares all functions with their models, and checks that they do not
// change the mailbox.
func checkAll(t *testing.T, l []api.Mail, now, life int, nodes ...int) {
	t.Helper()
	before := slices.Clone(l)
	checkPuts(t, l, now)
	for _, to := range nodes {
		checkNode(t, l, to, now, life)
	}
	if !slices.Equal(l, before) {
		t.Fatalf("the mailbox %v was changed to %v", before, l)
	}
}

// frame returns a frame for a node.
func frame(to int, urgent bool, data string) api.Frame {
	return api.Frame{Kind: api.FkData, From: 1, To: to, Source: 2, Target: to, Urgent: urgent, Data: data}
}

// labels tell mails apart.
const labels = "abcdefghijklmnopqrstuvwxyzABCDEFGHIJKLMNOPQRSTUVWXYZ"

// letters returns mails with these labels; those with capital letters are urgent.
func letters(text string) []api.Mail {
	var l []api.Mail
	for _, letter := range text {
		urgent := letter >= 'A' && letter <= 'Z'
		l = append(l, api.Mail{Frame: frame(1, urgent, string(letter)), Since: 5})
	}
	return l
}

// pattern returns mails that are urgent where the bits of a number are 1.
func pattern(bits, length int) []api.Mail {
	var l []api.Mail
	for i := range length {
		l = append(l, api.Mail{Frame: frame(i%3, bits>>i%2 == 1, labels[i:i+1]), Since: i})
	}
	return l
}

// farNumbers are numbers at the ends of the ticks, of the addresses and of int.
func farNumbers() []int {
	return []int{
		math.MinInt, math.MinInt + 1, -lastTick - 1, -lastTick, -1, 0, 1, 2, 249, 250, 251, 254, 255, 256,
		1 << 32, lastTick - 2, lastTick - 1, lastTick, lastTick + 1, 2 * lastTick, math.MaxInt - 1, math.MaxInt,
	}
}

func newSource() *rand.Rand {
	return rand.New(rand.NewPCG(13, 1))
}

// randomMail returns a mail for one of a few nodes, put at one of a few ticks. Some of
// its numbers are far away, and few mails are the same.
func randomMail(source *rand.Rand) api.Mail {
	mail := api.Mail{Since: source.IntN(12)}
	mail.Frame = frame(source.IntN(4), source.IntN(2) == 0, labels[source.IntN(len(labels)):][:1])
	mail.Frame.Seq = source.IntN(9)
	if source.IntN(8) == 0 {
		mail.Since = farNumber(source)
	}
	if source.IntN(8) == 0 {
		mail.Frame.To = farNumber(source)
	}
	return mail
}

func farNumber(source *rand.Rand) int {
	numbers := farNumbers()
	return numbers[source.IntN(len(numbers))]
}

func randomMails(source *rand.Rand, length int) []api.Mail {
	var l []api.Mail
	for range length {
		l = append(l, randomMail(source))
	}
	return l
}

// The chapter's example: P13.1, P13.2.
func TestExample(t *testing.T) {
	a, b, c := frame(7, false, "a"), frame(8, true, "b"), frame(8, false, "c")
	l := []api.Mail{{Frame: a, Since: 5}}
	checkPut(t, nil, a, 5, l, true)
	checkPut(t, l, b, 5, []api.Mail{{Frame: b, Since: 5}, {Frame: a, Since: 5}}, true)
	l, _ = mailbox.Put(l, b, 5)
	want := []api.Mail{{Frame: b, Since: 5}, {Frame: a, Since: 5}, {Frame: c, Since: 5}}
	checkPut(t, l, c, 5, want, true)
	checkTake(t, want, 7, 7, 2, a, []api.Mail{{Frame: b, Since: 5}, {Frame: c, Since: 5}}, true)
	checkTake(t, want, 7, 8, 2, api.Frame{}, nil, false)
}

// P13.1: where a frame is put.
func TestPut(t *testing.T) {
	for _, row := range []struct {
		before, put, after string
		ok                 bool
	}{
		{"", "x", "x", true},
		{"", "X", "X", true},
		{"a", "x", "ax", true},
		{"a", "X", "Xa", true},
		{"A", "x", "Ax", true},
		{"A", "X", "AX", true},
		{"Aa", "X", "AXa", true},
		{"ABab", "X", "ABXab", true},
		{"ABab", "x", "ABabx", true},
		// Not in order: before the first mail that is not urgent.
		{"aA", "X", "XaA", true},
		{"AaBb", "X", "AXaBb", true},
		{"aAbB", "x", "aAbBx", true},
		// The last free space.
		{"abcdefghijklmno", "x", "abcdefghijklmnox", true},
		{"abcdefghijklmno", "X", "Xabcdefghijklmno", true},
		{"ABCDEFGHIJKLMNO", "x", "ABCDEFGHIJKLMNOx", true},
		{"ABCDEFGHIJKLMNO", "X", "ABCDEFGHIJKLMNOX", true},
		// No free space.
		{"abcdefghijklmnop", "x", "abcdefghijklmnop", false},
		{"ABCDEFGHIJKLMNOP", "x", "ABCDEFGHIJKLMNOP", false},
		{"ABCDEFGHIJKLMNOP", "X", "ABCDEFGHIJKLMNOP", false},
		{"ABCDEFGHijklmnop", "x", "ABCDEFGHijklmnop", false},
		// The last mail that is not urgent is removed.
		{"abcdefghijklmnop", "X", "Xabcdefghijklmno", true},
		{"Abcdefghijklmnop", "X", "AXbcdefghijklmno", true},
		{"ABCDEFGHijklmnop", "X", "ABCDEFGHXijklmno", true},
		{"ABCDEFGHIJKLMNop", "X", "ABCDEFGHIJKLMNXo", true},
		{"ABCDEFGHIJKLMNOp", "X", "ABCDEFGHIJKLMNOX", true},
		// Not in order: without the removed one, the new one stands before the first
		// of the others, at the end if there is none.
		{"aBCDEFGHIJKLMNOP", "X", "BCDEFGHIJKLMNOPX", true},
		{"ABCDEFGhIJKLMNOP", "X", "ABCDEFGIJKLMNOPX", true},
		{"aBCDEFGhIJKLMNOP", "X", "XaBCDEFGIJKLMNOP", true},
		{"ABcDEFGhIJkLMNOP", "X", "ABXcDEFGhIJLMNOP", true},
		{"abcdefghijklmnoP", "X", "XabcdefghijklmnP", true},
	} {
		checkPut(t, letters(row.before), letters(row.put)[0].Frame, 5, letters(row.after), row.ok)
		checkAll(t, letters(row.before), 5, 0, 1, 2)
	}
}

// P13.1: every order of urgent and other mails.
func TestPutInEveryOrder(t *testing.T) {
	for length := range most + 1 {
		for bits := range 1 << length {
			checkPuts(t, pattern(bits, length), 99)
		}
	}
}

// P13.1: the tick of the new mail is limited, those of the others stay as they are.
func TestPutTick(t *testing.T) {
	for _, row := range []struct{ now, since int }{
		{math.MinInt, 0}, {-1, 0}, {0, 0}, {1, 1}, {1099511627775, 1099511627775},
		{1099511627776, 1099511627776}, {1099511627777, 1099511627776}, {math.MaxInt, 1099511627776},
	} {
		for _, since := range farNumbers() {
			old := api.Mail{Frame: frame(1, true, "a"), Since: since}
			for _, urgent := range []bool{false, true} {
				f := frame(2, urgent, "b")
				checkPut(t, []api.Mail{old}, f, row.now, []api.Mail{old, {Frame: f, Since: row.since}}, true)
			}
			full := slices.Repeat([]api.Mail{old}, most)
			checkPut(t, full, frame(2, true, "b"), row.now, full, false)
			checkPuts(t, full, row.now)
		}
	}
}

// P13.2: every order of mails of a few kinds.
func TestTakeInEveryOrder(t *testing.T) {
	kinds := []api.Mail{
		{Frame: frame(1, false, ""), Since: 3},
		{Frame: frame(1, true, ""), Since: 4},
		{Frame: frame(2, false, ""), Since: 4},
		{Frame: frame(1, true, ""), Since: 5},
		{Frame: frame(2, true, ""), Since: 6},
	}
	for length := range 6 {
		for number := range int(math.Pow(5, float64(length))) {
			var l []api.Mail
			for i := range length {
				mail := kinds[number%5]
				mail.Frame.Seq = i
				l = append(l, mail)
				number /= 5
			}
			checkAll(t, l, 8, 4, 1, 2, 3)
			checkAll(t, l, 8, 3, 1, 2, 3)
		}
	}
}

// P13.2: the first mail for a node that has not expired, at any place.
func TestTakeFromEveryPlace(t *testing.T) {
	for length := range most + 1 {
		for first := range length {
			for second := range length {
				l := letters(labels[:length])
				l[first].Frame.To, l[second].Frame.To = 9, 9
				at := min(first, second)
				left := slices.Concat(l[:at], l[at+1:])
				checkTake(t, l, 9, 7, 2, l[at].Frame, left, true)
				checkAll(t, l, 7, 2, 1, 9)
				// The first one expires: only the second one is taken.
				l[at].Since = 4
				want, ok := api.Frame{}, false
				if at2 := max(first, second); at2 > at {
					want, ok = l[at2].Frame, true
					left = slices.Concat(l[:at], l[at+1:at2], l[at2+1:])
				}
				checkTake(t, l, 9, 7, 2, want, left, ok)
				checkAll(t, l, 7, 2, 1, 9)
			}
		}
	}
}

// P13.2: mails that have expired are removed whether or not one is taken.
func TestTakeRemovesExpired(t *testing.T) {
	l := letters("ABcdef")
	for i, since := range []int{9, 10, 0, 11, 9, 10} {
		l[i].Since = since
	}
	l[5].Frame.To = 2
	left := []api.Mail{l[1], l[3], l[5]}
	checkExpire(t, l, 20, 10, left)
	checkTake(t, l, 1, 20, 10, l[1].Frame, left[1:], true)
	checkTake(t, l, 2, 20, 10, l[5].Frame, left[:2], true)
	checkTake(t, l, 3, 20, 10, api.Frame{}, left, false)
	checkTake(t, l, 1, 22, 10, api.Frame{}, nil, false)
	for to, want := range []int{0, 5, 1, 0} {
		checkCount(t, l, to, want)
	}
	checkCount(t, left, 1, 2)
}

// P13.2: a mail expires one tick after its life, not before.
func TestExpiry(t *testing.T) {
	for since := range 20 {
		for now := range 40 {
			for life := range 20 {
				l := []api.Mail{{Frame: frame(4, false, "a"), Since: since}}
				if now-since <= life {
					checkExpire(t, l, now, life, l)
					checkTake(t, l, 4, now, life, l[0].Frame, nil, true)
					checkTake(t, l, 5, now, life, api.Frame{}, l, false)
				} else {
					checkExpire(t, l, now, life, nil)
					checkTake(t, l, 4, now, life, api.Frame{}, nil, false)
					checkTake(t, l, 5, now, life, api.Frame{}, nil, false)
				}
				checkCount(t, l, 4, 1)
			}
		}
	}
}

// P13.2: numbers that are no ticks count as the nearest ones.
func TestExpiryAtTheEnds(t *testing.T) {
	for _, row := range []struct {
		since, now, life int
		stays            bool
	}{
		{0, 0, math.MinInt, true},
		{0, 1, math.MinInt, false},
		{0, 1, -1, false},
		{0, 1, 0, false},
		{0, 1, 1, true},
		{-5, 0, 0, true},
		{-5, 1, 1, true},
		{-5, 1, 3, true},
		{-5, 1, 0, false},
		{math.MinInt, 1, 1, true},
		{math.MinInt, 2, 1, false},
		{math.MinInt, math.MaxInt, lastTick, true},
		{math.MinInt, math.MaxInt, lastTick - 1, false},
		{math.MaxInt, math.MinInt, 0, true},
		{math.MaxInt, 0, -1, true},
		{lastTick, lastTick + 1, 0, true},
		{lastTick + 1, lastTick, 0, true},
		{lastTick - 1, lastTick + 9, 0, false},
		{lastTick - 1, lastTick + 9, 1, true},
		{lastTick + 9, math.MaxInt, 0, true},
		{0, lastTick + 9, lastTick, true},
		{0, lastTick, lastTick - 1, false},
		{1, math.MaxInt, lastTick - 1, true},
		{0, math.MaxInt, math.MaxInt, true},
		{0, 1, math.MaxInt, true},
		{3, -7, -7, true},
	} {
		l := []api.Mail{{Frame: frame(4, false, "a"), Since: row.since}}
		want := l
		if !row.stays {
			want = nil
		}
		checkExpire(t, l, row.now, row.life, want)
		checkAll(t, l, row.now, row.life, 4, 5)
	}
}

// P13.2: every three numbers at the ends.
func TestEveryThreeNumbers(t *testing.T) {
	numbers := farNumbers()
	for _, since := range numbers {
		l := []api.Mail{{Frame: frame(4, false, "a"), Since: since}, {Frame: frame(5, true, "b"), Since: 7}}
		for _, now := range numbers {
			for _, life := range numbers {
				checkAll(t, l, now, life, 4, 5)
			}
		}
	}
}

// P13.2: a node is any number, and none counts as another one.
func TestEveryNode(t *testing.T) {
	nodes := farNumbers()
	for n := -5; n < 262; n++ {
		nodes = append(nodes, n)
	}
	for _, to := range nodes {
		l := []api.Mail{{Frame: frame(to, false, "a")}}
		for _, node := range nodes {
			want := 0
			if node == to {
				want = 1
			}
			checkCount(t, l, node, want)
			checkNode(t, l, node, 0, 0)
		}
	}
}

// P13.1, P13.2: frames are not checked, and kept as they are.
func TestAnyFrame(t *testing.T) {
	for _, f := range []api.Frame{
		{},
		{Urgent: true},
		{Kind: -1, From: -1, To: -1, Source: -1, Target: -1, Seq: -1, Hops: -1, Data: "\xff\x00"},
		{Kind: 9, From: 255, To: 255, Source: 999, Target: 999, Seq: 65536, Hops: 16, Urgent: true, Data: strings.Repeat("x", 1000)},
		{Kind: math.MaxInt, From: math.MinInt, To: math.MaxInt, Source: math.MinInt, Target: math.MaxInt, Seq: math.MinInt, Hops: math.MaxInt},
		{Kind: api.FkBeacon, From: 3, To: api.Broadcast, Source: 3, Target: api.Broadcast, Seq: 2},
		{Kind: api.FkPoll, From: 3, To: 3},
	} {
		l := []api.Mail{{Frame: f, Since: 3}}
		checkPut(t, nil, f, 3, l, true)
		checkTake(t, l, f.To, 3, 0, f, nil, true)
		checkTake(t, l, f.To, 4, 0, api.Frame{}, nil, false)
		checkCount(t, l, f.To, 1)
		checkExpire(t, l, 3, 0, l)
	}
}

// A frame for a node is one whose hop ends there, not its path, and no matter from
// where: P13.2.
func TestEndsOfFrames(t *testing.T) {
	f := api.Frame{Kind: api.FkData, From: 1, To: 2, Source: 3, Target: 4, Seq: 5, Hops: 6}
	l := []api.Mail{{Frame: f, Since: 7}}
	for to := range 9 {
		checkNode(t, l, to, 7, 0)
	}
	checkCount(t, l, 2, 1)
	checkCount(t, l, 4, 0)
}

// P13.1, P13.2: of a longer list, the first 16 mails count.
func TestLongLists(t *testing.T) {
	for length := most + 1; length <= 40; length++ {
		l := letters(labels[:length])
		l[most-1].Frame.To, l[most].Frame.To, l[length-1].Frame.To = 3, 4, 4
		checkPut(t, l, frame(7, false, "x"), 9, l[:most], false)
		want := slices.Concat([]api.Mail{{Frame: frame(7, true, "x"), Since: 9}}, l[:most-1])
		checkPut(t, l, frame(7, true, "x"), 9, want, true)
		checkTake(t, l, 3, 5, 0, l[most-1].Frame, l[:most-1], true)
		checkTake(t, l, 4, 5, 0, api.Frame{}, l[:most], false)
		checkTake(t, l, 1, 5, 0, l[0].Frame, l[1:most], true)
		checkExpire(t, l, 5, 0, l[:most])
		checkExpire(t, l, 6, 0, nil)
		for to, n := range []int{0, 15, 0, 1, 0} {
			checkCount(t, l, to, n)
		}
	}
	// Behind 16 urgent mails, others do not count; nor do urgent ones behind others.
	urgent := letters("ABCDEFGHIJKLMNOPq")
	checkPut(t, urgent, frame(7, true, "x"), 9, urgent[:most], false)
	ordinary := letters("abcdefghijklmnopQ")
	want := slices.Concat([]api.Mail{{Frame: frame(7, true, "x"), Since: 9}}, ordinary[:most-1])
	checkPut(t, ordinary, frame(7, true, "x"), 9, want, true)
}

// P13.1, P13.2: lists of each length, with any numbers.
func TestRandomLists(t *testing.T) {
	source := newSource()
	for length := range most + 8 {
		for range 150 {
			l := randomMails(source, length)
			checkAll(t, l, source.IntN(16), source.IntN(12), 0, 1, 2, 3)
			checkAll(t, l, farNumber(source), farNumber(source), 1, farNumber(source))
		}
	}
}

// diary follows a mailbox that began empty, by what P13.3 says of it. The frames are
// numbered by Seq.
type diary struct {
	urgent, ordinary []api.Mail // in the order in which they were put
	box              []api.Mail
	next             int
}

// check checks that the mailbox is what it should be.
func (d *diary) check(t *testing.T) {
	t.Helper()
	want := slices.Concat(d.urgent, d.ordinary)
	if !slices.Equal(d.box, want) {
		t.Fatalf("got %v, want %v", d.box, want)
	}
	if len(d.box) > most {
		t.Fatalf("there are %d mails", len(d.box))
	}
}

func (d *diary) put(t *testing.T, to int, urgent bool, now int) {
	t.Helper()
	f := frame(to, urgent, "")
	f.Seq = d.next
	d.next++
	after, ok := mailbox.Put(d.box, f, now)
	isFull := len(d.urgent)+len(d.ordinary) == most
	if refused := isFull && (!urgent || len(d.urgent) == most); ok == refused {
		t.Fatalf("Put(%v, %v, %d): got %t", d.box, f, now, ok)
	}
	d.box = after
	if !ok {
		return
	}
	if !urgent {
		d.ordinary = append(d.ordinary, api.Mail{Frame: f, Since: now})
		return
	}
	if isFull {
		d.ordinary = d.ordinary[:len(d.ordinary)-1]
	}
	d.urgent = append(d.urgent, api.Mail{Frame: f, Since: now})
}

func (d *diary) expire(now, life int) {
	isOld := func(mail api.Mail) bool { return now-mail.Since > life }
	d.urgent = slices.DeleteFunc(d.urgent, isOld)
	d.ordinary = slices.DeleteFunc(d.ordinary, isOld)
}

// take takes the oldest urgent frame for a node, or the oldest other one.
func (d *diary) take(t *testing.T, to, now, life int) {
	t.Helper()
	d.expire(now, life)
	isFor := func(mail api.Mail) bool { return mail.Frame.To == to }
	from := &d.urgent
	if !slices.ContainsFunc(d.urgent, isFor) {
		from = &d.ordinary
	}
	want, found := api.Frame{}, false
	if at := slices.IndexFunc(*from, isFor); at >= 0 {
		want, found = (*from)[at].Frame, true
		*from = slices.Delete(*from, at, at+1)
	}
	got, after, ok := mailbox.Take(d.box, to, now, life)
	if got != want || ok != found {
		t.Fatalf("Take(%v, %d, %d, %d): got %v, %t, want %v, %t", d.box, to, now, life, got, ok, want, found)
	}
	d.box = after
}

// P13.3: long sequences that begin with the empty mailbox.
func TestSequences(t *testing.T) {
	source := newSource()
	for round := range 60 {
		d, now := diary{}, 0
		life, patience := 5+source.IntN(60), 1+round%6
		for range 600 {
			now += source.IntN(3)
			to := source.IntN(4)
			switch action := source.IntN(10); {
			case action < 4:
				d.put(t, to, false, now)
			case action < 4+patience:
				d.put(t, to, true, now)
			case action < 9:
				d.take(t, to, now, life)
			default:
				d.expire(now, life)
				d.box = mailbox.Expire(d.box, now, life)
			}
			d.check(t)
		}
		checkAll(t, d.box, now, life, 0, 1, 2, 3, 4)
	}
}

// P13.3: each frame that was accepted is returned once, in the order of its node.
func TestTakeAll(t *testing.T) {
	for bits := range 1 << 10 {
		var d diary
		for i := range most + 4 {
			d.put(t, i%3, bits>>(i%10)%2 == 1, i)
			d.check(t)
		}
		for to := range 4 {
			for mailbox.Count(d.box, to) > 0 {
				d.take(t, to, 100, 100)
				d.check(t)
			}
			d.take(t, to, 100, 100)
			d.check(t)
		}
		if len(d.box) > 0 {
			t.Fatalf("left over: %v", d.box)
		}
	}
}

// results returns the mailboxes that the functions return.
func results(l []api.Mail, to, now, life int) [][]api.Mail {
	put, _ := mailbox.Put(l, frame(to, false, "x"), now)
	urgent, _ := mailbox.Put(l, frame(to, true, "x"), now)
	_, taken, _ := mailbox.Take(l, to, now, life)
	_, rest, _ := mailbox.Take(l, -9, now, life)
	return [][]api.Mail{put, urgent, taken, rest, mailbox.Expire(l, now, life)}
}

// R5: results are new memory, and the space behind an argument is not used.
func TestMemory(t *testing.T) {
	source := newSource()
	behind := api.Mail{Frame: frame(99, true, "behind"), Since: 99}
	spoilt := api.Mail{Frame: frame(-1, true, "spoilt"), Since: -1}
	for range 6000 {
		length := source.IntN(most + 4)
		whole := append(randomMails(source, length), slices.Repeat([]api.Mail{behind}, 20)...)
		if source.IntN(3) == 0 {
			for i := range whole {
				whole[i].Frame.Urgent = i != source.IntN(most)
			}
		}
		l := whole[:length]
		before := slices.Clone(whole)
		to, now := source.IntN(4), source.IntN(14)
		for i, after := range results(l, to, now, 9) {
			for k := range after {
				after[k] = spoilt
			}
			_ = append(after, spoilt)
			if !slices.Equal(whole, before) {
				t.Fatalf("result %d: the list %v was changed to %v", i, before, whole)
			}
		}
		after := results(l, to, now, 9)
		want := results(slices.Clone(l), to, now, 9)
		for i := range whole {
			whole[i] = spoilt
		}
		if !slices.EqualFunc(after, want, slices.Equal) {
			t.Fatalf("with the list, its results change from %v to %v", want, after)
		}
	}
}

// R4
func TestNilAndEmptyAreTheSame(t *testing.T) {
	for _, l := range [][]api.Mail{nil, {}, make([]api.Mail, 0, 9)} {
		for _, urgent := range []bool{false, true} {
			f := frame(3, urgent, "a")
			checkPut(t, l, f, 4, []api.Mail{{Frame: f, Since: 4}}, true)
		}
		for _, n := range farNumbers() {
			checkTake(t, l, n, n, n, api.Frame{}, nil, false)
			checkExpire(t, l, n, n, nil)
			checkCount(t, l, n, 0)
			checkAll(t, l, n, n, n)
		}
	}
}

// R7
func TestCallsAreIndependent(t *testing.T) {
	source := newSource()
	for range 500 {
		l, other := randomMails(source, 12), randomMails(source, most)
		first := results(l, 1, 9, 5)
		checkAll(t, other, 3, 9, 1, 2)
		if again := results(l, 1, 9, 5); !slices.EqualFunc(first, again, slices.Equal) {
			t.Fatalf("%v: got %v, and then %v", l, first, again)
		}
	}
}
