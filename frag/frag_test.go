package frag_test

import (
	"math"
	"math/rand/v2"
	"slices"
	"strings"
	"testing"

	"homehub/api"
	"homehub/frag"
)

const (
	lastTick = 1 << 40
	mostData = 64
	longest  = 1000
)

// The model of pieces: how messages of every length are cut.

// shape is what matters of a piece: its index, the count, and the bytes of its data.
type shape struct{ index, count, size int }

// cut returns the sizes of the pieces of a message of some length.
func cut(length int) []int {
	var sizes []int
	for length > mostData {
		sizes = append(sizes, mostData)
		length -= mostData
	}
	return append(sizes, length)
}

// shapes are those of all pieces of all messages.
var shapes = func() map[shape]bool {
	found := map[shape]bool{}
	for length := range longest + 1 {
		sizes := cut(length)
		for i, size := range sizes {
			found[shape{i, len(sizes), size}] = true
		}
	}
	return found
}()

// piece returns the bytes of a piece.
func piece(id, index, count int, data string) string {
	return string([]byte{byte(id), byte(index), byte(count)}) + data
}

// split returns what Split returns.
func split(s string, id int) ([]string, api.Errno) {
	switch {
	case len(s) > longest:
		return nil, api.ErrLimit
	case id < 0 || id > 255:
		return nil, api.ErrRange
	}
	var pieces []string
	sizes := cut(len(s))
	for i, size := range sizes {
		pieces = append(pieces, piece(id, i, len(sizes), s[:size]))
		s = s[size:]
	}
	return pieces, api.OK
}

// check returns what Check returns.
func check(p string) api.Errno {
	switch {
	case len(p) < 3:
		return api.ErrShort
	case !shapes[shape{int(p[1]), int(p[2]), len(p) - 3}]:
		return api.ErrForm
	}
	return api.OK
}

// The model of a list: its messages by their sources and identifiers, with numbers in
// the order of the entries.

type name struct{ source, id int }

type message struct {
	number, count, since int
	data                 map[int]string
}

type model map[name]message

// modelOf returns the list in order, and a number above all of its messages.
func modelOf(l []api.Parts) (model, int) {
	m := model{}
	for i := len(l) - 1; i >= 0; i-- {
		if data, ok := dataOf(l[i]); ok {
			m[name{l[i].Source, l[i].Id}] = message{i, l[i].Count, l[i].Since, data}
		}
	}
	for len(m) > 8 {
		m.dropFirst()
	}
	return m, len(l)
}

// dataOf returns the data that has arrived, by indexes, and whether the entry is valid.
func dataOf(entry api.Parts) (map[int]string, bool) {
	data := map[int]string{}
	if entry.Id != int(byte(entry.Id)) || entry.Since != tick(entry.Since) || len(entry.Have) != entry.Count || len(entry.Data) != entry.Count || entry.Count > 16 {
		return nil, false
	}
	for i, has := range entry.Have {
		switch {
		case has && shapes[shape{i, entry.Count, len(entry.Data[i])}]:
			data[i] = entry.Data[i]
		case has || entry.Data[i] != "":
			return nil, false
		}
	}
	return data, len(data) > 0 && len(data) < entry.Count
}

func (m model) dropFirst() {
	delete(m, m.names()[0])
}

// names returns those of the messages, in order.
func (m model) names() []name {
	var found []name
	for n := range m {
		found = append(found, n)
	}
	slices.SortFunc(found, func(a, b name) int { return m[a].number - m[b].number })
	return found
}

func (m model) list() []api.Parts {
	var l []api.Parts
	for _, n := range m.names() {
		entry := api.Parts{Source: n.source, Id: n.id, Count: m[n].count, Since: m[n].since}
		for i := range m[n].count {
			data, has := m[n].data[i]
			entry.Have, entry.Data = append(entry.Have, has), append(entry.Data, data)
		}
		l = append(l, entry)
	}
	return l
}

// tick returns the tick that a number counts as.
func tick(n int) int {
	switch {
	case n < 0:
		return 0
	case n > 1099511627776:
		return 1099511627776
	}
	return n
}

// add returns what Add returns.
func add(l []api.Parts, source, now int, p string) ([]api.Parts, string, bool, api.Errno) {
	if err := check(p); err != api.OK {
		return nil, "", false, err
	}
	n, index, count := name{source, int(p[0])}, int(p[1]), int(p[2])
	m, number := modelOf(l)
	if m[n].count != count {
		delete(m, n)
	}
	if count == 1 {
		return m.list(), p[3:], true, api.OK
	}
	if m[n].count == 0 {
		if len(m) == 8 {
			m.dropFirst()
		}
		m[n] = message{number, count, tick(now), map[int]string{}}
	}
	if _, has := m[n].data[index]; !has {
		m[n].data[index] = p[3:]
	}
	if len(m[n].data) < count {
		return m.list(), "", false, api.OK
	}
	text := ""
	for i := range count {
		text += m[n].data[i]
	}
	delete(m, n)
	return m.list(), text, true, api.OK
}

// expire returns what Expire returns.
func expire(l []api.Parts, now, life int) []api.Parts {
	m, _ := modelOf(l)
	for n, x := range m {
		if x.since+tick(life) < tick(now) {
			delete(m, n)
		}
	}
	return m.list()
}

func isSame(a, b api.Parts) bool {
	return a.Source == b.Source && a.Id == b.Id && a.Count == b.Count && a.Since == b.Since && slices.Equal(a.Have, b.Have) && slices.Equal(a.Data, b.Data)
}

func areSame(a, b []api.Parts) bool {
	return slices.EqualFunc(a, b, isSame)
}

// The first difference ends a test, as some of them compare very many pieces and lists.

func checkSplit(t *testing.T, s string, id int, want []string, wantErr api.Errno) {
	t.Helper()
	if got, err := frag.Split(s, id); !slices.Equal(got, want) || err != wantErr {
		t.Fatalf("Split(%q, %d): got %q, %d, want %q, %d", s, id, got, err, want, wantErr)
	}
}

func checkCheck(t *testing.T, p string, want api.Errno) {
	t.Helper()
	if got := frag.Check(p); got != want {
		t.Fatalf("Check(%q): got %d, want %d", p, got, want)
	}
}

// checkAdd returns the list that Add returned, as wanted.
func checkAdd(t *testing.T, l []api.Parts, source, now int, p string, want []api.Parts, wantText string, wantOk bool, wantErr api.Errno) []api.Parts {
	t.Helper()
	got, text, ok, err := frag.Add(l, source, now, p)
	if !areSame(got, want) || text != wantText || ok != wantOk || err != wantErr {
		t.Fatalf("Add(%v, %d, %d, %q): got %v, %q, %t, %d, want %v, %q, %t, %d", l, source, now, p, got, text, ok, err, want, wantText, wantOk, wantErr)
	}
	return got
}

func checkExpire(t *testing.T, l []api.Parts, now, life int, want []api.Parts) []api.Parts {
	t.Helper()
	got := frag.Expire(l, now, life)
	if !areSame(got, want) {
		t.Fatalf("Expire(%v, %d, %d): got %v, want %v", l, now, life, got, want)
	}
	return got
}

// compareAdd compares Add with its model, and checks that it does not change the list.
func compareAdd(t *testing.T, l []api.Parts, source, now int, p string) []api.Parts {
	t.Helper()
	before := cloned(l)
	want, text, ok, err := add(l, source, now, p)
	got := checkAdd(t, l, source, now, p, want, text, ok, err)
	checkUnchanged(t, l, before)
	checkBounds(t, got)
	return got
}

// compareExpire compares Expire with its model, and checks that it does not change the
// list.
func compareExpire(t *testing.T, l []api.Parts, now, life int) []api.Parts {
	t.Helper()
	before := cloned(l)
	got := checkExpire(t, l, now, life, expire(l, now, life))
	checkUnchanged(t, l, before)
	checkBounds(t, got)
	return got
}

func checkUnchanged(t *testing.T, l, before []api.Parts) {
	t.Helper()
	if !areSame(l, before) {
		t.Fatalf("the list %v was changed to %v", before, l)
	}
}

// checkBounds checks P15.7.
func checkBounds(t *testing.T, l []api.Parts) {
	t.Helper()
	if len(l) > 8 {
		t.Fatalf("%d entries", len(l))
	}
	names := map[name]bool{}
	for _, entry := range l {
		if _, ok := dataOf(entry); !ok || names[name{entry.Source, entry.Id}] {
			t.Fatalf("the entry %v of %v", entry, l)
		}
		names[name{entry.Source, entry.Id}] = true
	}
}

// checkValid checks whether an entry stays in a list. At the tick 0, none is too old.
func checkValid(t *testing.T, entry api.Parts, want bool) {
	t.Helper()
	l := []api.Parts{entry}
	if !want {
		l = nil
	}
	if _, ok := dataOf(entry); ok != want {
		t.Fatalf("the model says %t of %v", ok, entry)
	}
	checkExpire(t, []api.Parts{entry}, 0, 0, l)
	checkAdd(t, []api.Parts{entry}, entry.Source-1, 0, piece(0, 0, 1, "a"), l, "a", true, api.OK)
}

// cloned returns a list in memory of its own.
func cloned(l []api.Parts) []api.Parts {
	var c []api.Parts
	for _, entry := range l {
		entry.Have, entry.Data = slices.Clone(entry.Have), slices.Clone(entry.Data)
		c = append(c, entry)
	}
	return c
}

// entryOf returns an entry with the pieces that have these indexes.
func entryOf(source, id, count, since int, indexes ...int) api.Parts {
	entry := api.Parts{Source: source, Id: id, Count: count, Since: since, Have: make([]bool, count), Data: make([]string, count)}
	for _, i := range indexes {
		entry.Have[i], entry.Data[i] = true, dataFor(i, count)
	}
	return entry
}

// dataFor returns data that a piece can have, which says where it belongs.
func dataFor(index, count int) string {
	size := mostData
	if index == count-1 {
		size = 1 + (index+count)%40
	}
	return strings.Repeat(string(rune('a'+index)), size)
}

// farNumbers are numbers at the ends of all ranges.
func farNumbers() []int {
	return []int{
		math.MinInt, math.MinInt + 1, -lastTick - 1, -lastTick, -256, -2, -1,
		0, 1, 2, 7, 8, 15, 16, 17, 250, 251, 255, 256, 257, 511, 1 << 32, 1<<32 + 7,
		lastTick - 8, lastTick - 1, lastTick, lastTick + 1, lastTick + 8, 2 * lastTick, math.MaxInt - 1, math.MaxInt,
	}
}

func newSource() *rand.Rand {
	return rand.New(rand.NewPCG(15, 1))
}

// oneOf returns one of some numbers.
func oneOf(source *rand.Rand, numbers ...int) int {
	return numbers[source.IntN(len(numbers))]
}

// randomText returns some string of this length.
func randomText(source *rand.Rand, length int) string {
	b := make([]byte, length)
	for i := range b {
		b[i] = byte(source.Uint32())
	}
	return string(b)
}

// randomEntry returns a valid entry of one of a few messages.
func randomEntry(source *rand.Rand) api.Parts {
	count := oneOf(source, 2, 2, 2, 3, 3, 4, 15, 16)
	entry := entryOf(source.IntN(3), source.IntN(4), count, source.IntN(20))
	for _, i := range source.Perm(count)[:1+source.IntN(count-1)] {
		size := mostData
		if i == count-1 {
			size = 1 + source.IntN(40)
		}
		entry.Have[i], entry.Data[i] = true, randomText(source, size)
	}
	return entry
}

// spoilt returns an entry that is mostly not valid.
func spoilt(source *rand.Rand, entry api.Parts) api.Parts {
	i := source.IntN(entry.Count)
	switch source.IntN(10) {
	case 0:
		entry.Id = oneOf(source, -1, 256, math.MinInt, math.MaxInt)
	case 1:
		entry.Count = oneOf(source, -1, 0, 1, 2, 3, 16, 17, math.MinInt, math.MaxInt)
	case 2:
		entry.Since = oneOf(source, -1, lastTick+1, math.MinInt, math.MaxInt, lastTick)
	case 3:
		entry.Have = entry.Have[1:]
	case 4:
		entry.Data = entry.Data[:i]
	case 5:
		entry.Have = append(entry.Have, source.IntN(2) == 0)
	case 6:
		entry.Data = append(entry.Data, "")
	case 7:
		entry.Have[i] = !entry.Have[i]
	case 8:
		entry.Data[i] = randomText(source, oneOf(source, 0, 1, 40, 41, 63, 64, 65))
	default:
		entry.Have, entry.Data = nil, nil
	}
	return entry
}

// randomList returns a list that is in order more often than not.
func randomList(source *rand.Rand) []api.Parts {
	var l []api.Parts
	for range oneOf(source, 0, 1, 2, 3, 8, 12, 20) {
		entry := randomEntry(source)
		if source.IntN(6) == 0 {
			entry = spoilt(source, entry)
		}
		l = append(l, entry)
	}
	return l
}

// randomPiece returns a piece of one of a few messages, which mostly has a valid length.
func randomPiece(source *rand.Rand) string {
	count := oneOf(source, 1, 2, 2, 2, 3, 3, 4, 15, 16)
	index, size := source.IntN(count), mostData
	if index == count-1 {
		size = 1 + source.IntN(40)
	}
	if source.IntN(12) == 0 {
		return piece(source.IntN(4), source.IntN(18), source.IntN(18), randomText(source, source.IntN(66)))
	}
	return piece(source.IntN(4), index, count, randomText(source, size))
}

// The chapter's examples: P15.1, P15.2.
func TestExamples(t *testing.T) {
	data := strings.Repeat("a", 64)
	checkSplit(t, data+"b", 7, []string{"\x07\x00\x02" + data, "\x07\x01\x02b"}, api.OK)
	checkSplit(t, "", 7, []string{"\x07\x00\x01"}, api.OK)
	checkCheck(t, "\x07\x00\x02"+data[1:], api.ErrForm)
	checkCheck(t, "\x07\x01\x02", api.ErrForm)
	checkCheck(t, "\x07\x00", api.ErrShort)
	l := checkAdd(t, nil, 3, 9, "\x07\x01\x02b", []api.Parts{
		{Source: 3, Id: 7, Count: 2, Since: 9, Have: []bool{false, true}, Data: []string{"", "b"}},
	}, "", false, api.OK)
	checkAdd(t, l, 3, 10, "\x07\x00\x02"+data, nil, data+"b", true, api.OK)
}

// P15.1: the errors and their order.
func TestSplitErrors(t *testing.T) {
	long := strings.Repeat("x", longest+1)
	for _, id := range append(farNumbers(), 3, 100, 254) {
		want := api.ErrRange
		if 0 <= id && id <= 255 {
			want = api.OK
		}
		for _, s := range []string{"", "a", long[1:]} {
			pieces, err := split(s, id)
			checkSplit(t, s, id, pieces, err)
			checkSplit(t, s, id, pieces, want)
		}
		checkSplit(t, long, id, nil, api.ErrLimit)
		checkSplit(t, strings.Repeat("x", 100000), id, nil, api.ErrLimit)
	}
}

// P15.1, P15.4: messages of every length, with any bytes.
func TestSplitOfEveryLength(t *testing.T) {
	source := newSource()
	for length := range longest + 3 {
		for _, s := range []string{randomText(source, length), strings.Repeat("\x00", length), strings.Repeat("\xff", length)} {
			id := source.IntN(256)
			want, err := split(s, id)
			checkSplit(t, s, id, want, err)
			if err == api.OK {
				checkPieces(t, s, id)
			}
		}
	}
	for id := range 256 {
		checkPieces(t, randomText(source, 3*id), id)
	}
}

// checkPieces checks P15.4 alone.
func checkPieces(t *testing.T, s string, id int) {
	t.Helper()
	pieces, err := frag.Split(s, id)
	if err != api.OK || len(pieces) == 0 {
		t.Fatalf("Split of %d bytes: %q, %d", len(s), pieces, err)
	}
	together := ""
	for i, p := range pieces {
		checkCheck(t, p, api.OK)
		if len(p) > 67 || int(p[0]) != id || int(p[1]) != i || int(p[2]) != len(pieces) {
			t.Fatalf("Split of %d bytes with the identifier %d: the piece %d is %q", len(s), id, i, p)
		}
		together += p[3:]
	}
	if together != s {
		t.Fatalf("the pieces of %q are those of %q", s, together)
	}
}

// P15.1
func TestCheck(t *testing.T) {
	data := strings.Repeat("\x00", 100)
	for _, row := range []struct {
		p    string
		want api.Errno
	}{
		{"", api.ErrShort},
		{"\x00", api.ErrShort},
		{"\x00\x00", api.ErrShort},
		{"\xff\xff", api.ErrShort},
		{"\x00\x00\x01", api.OK},
		{"\xff\x00\x01", api.OK},
		// The count.
		{"\x00\x00\x00", api.ErrForm},
		{"\x00\x00\x00" + data[:64], api.ErrForm},
		{"\x00\x00\x10" + data[:64], api.OK},
		{"\x00\x00\x11" + data[:64], api.ErrForm},
		{"\x00\x10\x11" + data[:1], api.ErrForm},
		{"\x00\x00\x80" + data[:64], api.ErrForm},
		{"\x00\x00\xff" + data[:64], api.ErrForm},
		// The index.
		{"\x00\x01\x01", api.ErrForm},
		{"\x00\x01\x01" + data[:64], api.ErrForm},
		{"\x00\x02\x02" + data[:64], api.ErrForm},
		{"\x00\x10\x10" + data[:40], api.ErrForm},
		{"\x00\xff\x10" + data[:64], api.ErrForm},
		{"\x00\xff\x00" + data[:64], api.ErrForm},
		// The data.
		{"\x00\x00\x01" + data[:64], api.OK},
		{"\x00\x00\x01" + data[:65], api.ErrForm},
		{"\x00\x00\x02" + data[:63], api.ErrForm},
		{"\x00\x00\x02" + data[:64], api.OK},
		{"\x00\x00\x02" + data[:65], api.ErrForm},
		{"\x00\x00\x02", api.ErrForm},
		{"\x00\x01\x02", api.ErrForm},
		{"\x00\x01\x02" + data[:1], api.OK},
		{"\x00\x01\x02" + data[:64], api.OK},
		{"\x00\x01\x02" + data[:65], api.ErrForm},
		{"\x00\x0e\x0f", api.ErrForm},
		{"\x00\x0e\x0f" + data[:64], api.OK},
		{"\x00\x0e\x0f" + data[:65], api.ErrForm},
		{"\x00\x0e\x10" + data[:40], api.ErrForm},
		{"\x00\x0e\x10" + data[:64], api.OK},
		{"\x00\x0f\x10", api.ErrForm},
		{"\x00\x0f\x10" + data[:1], api.OK},
		{"\x00\x0f\x10" + data[:40], api.OK},
		{"\x00\x0f\x10" + data[:41], api.ErrForm},
		{"\x00\x0f\x10" + data[:64], api.ErrForm},
		{"\x00\x00\x01" + strings.Repeat("x", 100000), api.ErrForm},
	} {
		if got := check(row.p); got != row.want {
			t.Fatalf("the model returns %d, want %d", got, row.want)
		}
		checkCheck(t, row.p, row.want)
		checkAdd(t, nil, 3, 0, row.p, someList(t, row.p), textOf(row.p), row.want == api.OK && row.p[2] == 1, row.want)
	}
}

// someList returns the list of a single piece.
func someList(t *testing.T, p string) []api.Parts {
	t.Helper()
	if check(p) != api.OK || p[2] == 1 {
		return nil
	}
	entry := entryOf(3, int(p[0]), int(p[2]), 0)
	entry.Have[p[1]], entry.Data[p[1]] = true, p[3:]
	return []api.Parts{entry}
}

// textOf returns the message that a single piece completes.
func textOf(p string) string {
	if check(p) != api.OK || p[2] != 1 {
		return ""
	}
	return p[3:]
}

// P15.1: every index, every count, and all lengths around the valid ones.
func TestCheckOfEveryShape(t *testing.T) {
	sizes := []int{0, 1, 2, 38, 39, 40, 41, 42, 62, 63, 64, 65, 66, 128, 255, 256, 257, 320}
	data := strings.Repeat("x", 400)
	for index := range 256 {
		for count := range 256 {
			for _, size := range sizes {
				p := piece(index^count, index, count, data[:size])
				checkCheck(t, p, check(p))
			}
		}
	}
	for index := range 18 {
		for count := range 18 {
			for size := range 400 {
				p := piece(255-size, index, count, data[:size])
				checkCheck(t, p, check(p))
			}
		}
	}
}

// P15.2: what happens to the entry with the source and the identifier of a piece.
func TestAddToEntry(t *testing.T) {
	first, other := entryOf(3, 7, 3, 5, 1), entryOf(4, 7, 2, 6, 0)
	another, last := entryOf(3, 8, 2, 6, 1), entryOf(3, 7, 2, 7, 0)
	l := []api.Parts{other, first, another}
	more := entryOf(3, 7, 3, 5, 1, 2)
	for _, row := range []struct {
		p    string
		want []api.Parts
		text string
		ok   bool
	}{
		// A piece that has not arrived; the tick of the first one stays.
		{piece(7, 2, 3, dataFor(2, 3)), []api.Parts{other, more, another}, "", false},
		// One that has arrived, also if its data is different.
		{piece(7, 1, 3, dataFor(1, 3)), l, "", false},
		{piece(7, 1, 3, strings.Repeat("z", 64)), l, "", false},
		// Another count.
		{piece(7, 0, 2, dataFor(0, 2)), []api.Parts{other, another, last}, "", false},
		{piece(7, 1, 4, dataFor(1, 4)), []api.Parts{other, another, entryOf(3, 7, 4, 7, 1)}, "", false},
		{piece(7, 15, 16, dataFor(15, 16)), []api.Parts{other, another, entryOf(3, 7, 16, 7, 15)}, "", false},
		{piece(7, 0, 1, "hi"), []api.Parts{other, another}, "hi", true},
		{piece(7, 0, 1, ""), []api.Parts{other, another}, "", true},
		// Another identifier.
		{piece(6, 0, 1, "hi"), l, "hi", true},
		{piece(6, 0, 1, ""), l, "", true},
		{piece(9, 1, 3, dataFor(1, 3)), []api.Parts{other, first, another, entryOf(3, 9, 3, 7, 1)}, "", false},
		{piece(8, 0, 2, dataFor(0, 2)), []api.Parts{other, first}, dataFor(0, 2) + dataFor(1, 2), true},
	} {
		checkAdd(t, l, 3, 7, row.p, row.want, row.text, row.ok, api.OK)
		compareAdd(t, l, 3, 7, row.p)
	}
	checkAdd(t, l, 4, 7, piece(7, 1, 2, "q"), []api.Parts{first, another}, dataFor(0, 2)+"q", true, api.OK)
	checkAdd(t, l, 5, 7, piece(7, 1, 2, "q"), append(cloned(l), api.Parts{Source: 5, Id: 7, Count: 2, Since: 7, Have: []bool{false, true}, Data: []string{"", "q"}}), "", false, api.OK)
}

// P15.2: the errors are those of Check; with one, there is no list.
func TestAddErrors(t *testing.T) {
	l := []api.Parts{entryOf(3, 7, 3, 5, 1)}
	for _, p := range []string{"", "\x07", "\x07\x01"} {
		checkAdd(t, l, 3, 7, p, nil, "", false, api.ErrShort)
	}
	for _, p := range []string{"\x07\x00\x00", "\x07\x01\x01", "\x07\x03\x03a", "\x07\x02\x03", "\x07\x00\x03a", piece(7, 2, 3, strings.Repeat("x", 65)), piece(7, 0, 17, strings.Repeat("x", 64))} {
		checkAdd(t, l, 3, 7, p, nil, "", false, api.ErrForm)
		checkAdd(t, nil, math.MinInt, math.MaxInt, p, nil, "", false, api.ErrForm)
	}
}

// P15.2: a source can be any number; a tick is limited.
func TestAddOfFarNumbers(t *testing.T) {
	for _, source := range farNumbers() {
		for _, now := range farNumbers() {
			l := compareAdd(t, nil, source, now, piece(7, 1, 2, "b"))
			want := api.Parts{Source: source, Id: 7, Count: 2, Since: min(max(0, now), lastTick), Have: []bool{false, true}, Data: []string{"", "b"}}
			if !areSame(l, []api.Parts{want}) {
				t.Fatalf("the source %d, the tick %d: %v", source, now, l)
			}
			for _, other := range farNumbers() {
				compareAdd(t, l, other, now, piece(7, 0, 2, strings.Repeat("a", 64)))
			}
		}
	}
}

// numbered returns entries of as many sources, from 1 on.
func numbered(count int) []api.Parts {
	var l []api.Parts
	for i := range count {
		l = append(l, entryOf(i+1, 7, 3, i, i%3))
	}
	return l
}

// P15.2, P15.3, P15.7: lists around and far above 8 entries.
func TestFullLists(t *testing.T) {
	for _, count := range []int{0, 1, 6, 7, 8, 9, 10, 16, 17, 300} {
		l := numbered(count)
		last := l[max(0, count-8):]
		checkExpire(t, l, 0, 0, last)
		checkAdd(t, l, 5, 0, piece(8, 0, 1, "a"), last, "a", true, api.OK)
		// A new entry: the first one of 8 goes.
		behind := append(cloned(l[max(0, count-7):]), entryOf(-1, 9, 2, 5, 1))
		checkAdd(t, l, -1, 5, piece(9, 1, 2, dataFor(1, 2)), behind, "", false, api.OK)
		if count == 0 {
			continue
		}
		// Another count: the entry that is removed makes room.
		for i, entry := range last {
			p := piece(7, 1, 2, dataFor(1, 2))
			want := append(slices.Delete(cloned(last), i, i+1), entryOf(entry.Source, 7, 2, 5, 1))
			checkAdd(t, l, entry.Source, 5, p, want, "", false, api.OK)
			compareAdd(t, l, entry.Source, 5, p)
			compareAdd(t, l, entry.Source, 5, piece(7, i%3, 3, dataFor(i%3, 3)))
			compareAdd(t, l, entry.Source, 5, piece(7, 0, 1, ""))
		}
	}
}

// P15.2, P15.3: of several entries of a message the first valid one counts, also if it
// is not among the last 8.
func TestRepeatedEntries(t *testing.T) {
	a, b, c := entryOf(3, 7, 3, 5, 1), entryOf(3, 7, 3, 6, 0), entryOf(3, 7, 2, 4, 0)
	other, invalid := entryOf(4, 7, 3, 5, 1), entryOf(3, 7, 3, 5)
	for _, row := range []struct {
		l, want []api.Parts
	}{
		{[]api.Parts{a, b, c}, []api.Parts{a}},
		{[]api.Parts{b, other, a, c}, []api.Parts{b, other}},
		{[]api.Parts{c, b, other, a, other}, []api.Parts{c, other}},
		{[]api.Parts{invalid, b, a}, []api.Parts{b}},
		{[]api.Parts{other, invalid, invalid, c, a, invalid}, []api.Parts{other, c}},
		{append(append([]api.Parts{a}, numbered(2)...), b), append([]api.Parts{a}, numbered(2)...)},
		{append(numbered(8), numbered(8)...), numbered(8)},
		{append(numbered(8), numbered(10)...), numbered(10)[2:]},
		{append(append([]api.Parts{a, a}, numbered(7)[3:]...), b, other, invalid, b), append([]api.Parts{a}, numbered(7)[3:]...)},
		// The entry of the source 1 goes, although it occurs again at the end.
		{append(numbered(9), numbered(1)...), numbered(9)[1:]},
	} {
		checkExpire(t, row.l, 0, 0, row.want)
		checkAdd(t, row.l, 9, 0, piece(1, 0, 1, "a"), row.want, "a", true, api.OK)
		compareAdd(t, row.l, 3, 9, piece(7, 2, 3, "end"))
		compareAdd(t, row.l, 3, 9, piece(7, 1, 2, "end"))
	}
}

// P15.2, P15.3: which entries are valid.
func TestValidEntries(t *testing.T) {
	for _, n := range farNumbers() {
		entry := entryOf(n, 7, 3, 5, 1)
		checkValid(t, entry, true)
		entry = entryOf(3, n, 3, 5, 1)
		checkValid(t, entry, 0 <= n && n <= 255)
		entry = entryOf(3, 7, 3, n, 1)
		checkValid(t, entry, 0 <= n && n <= lastTick)
		entry = entryOf(3, 7, 3, 5, 1)
		entry.Count = n
		checkValid(t, entry, false)
	}
	for count := range 20 {
		entry := entryOf(3, 7, count, 5)
		checkValid(t, entry, false)
		if count > 0 {
			entry = entryOf(3, 7, count, 5, 0)
			checkValid(t, entry, count >= 2 && count <= 16)
		}
	}
	checkValid(t, api.Parts{}, false)
	checkValid(t, api.Parts{Count: 2, Have: []bool{true, false}}, false)
	checkValid(t, api.Parts{Count: 2, Data: []string{dataFor(0, 2), ""}}, false)
	checkValid(t, api.Parts{Count: 1, Have: []bool{true}, Data: []string{""}}, false)
	checkValid(t, api.Parts{Count: 1, Have: []bool{false}, Data: []string{""}}, false)
	checkValid(t, api.Parts{Count: -1}, false)
}

// P15.2, P15.3: lists of an entry that have other lengths than Count.
func TestLengthsOfEntries(t *testing.T) {
	for count := range 19 {
		for have := range 19 {
			for data := range 19 {
				entry := api.Parts{Source: 3, Id: 7, Count: count, Have: make([]bool, have), Data: make([]string, data)}
				if have > 0 && data > 0 {
					entry.Have[0], entry.Data[0] = true, strings.Repeat("a", 64)
				}
				checkValid(t, entry, count >= 2 && count <= 16 && have == count && data == count)
			}
		}
	}
}

// P15.2, P15.3: every set of pieces that have arrived.
func TestEverySetOfPieces(t *testing.T) {
	for count := 2; count <= 16; count++ {
		step := 1
		if count > 10 {
			step = 1<<(count-8) - 1
		}
		for set := 0; set < 1<<count; set += step {
			checkSet(t, count, set)
		}
		for i := range count {
			checkSet(t, count, 1<<i)
			checkSet(t, count, 1<<count-1-1<<i)
		}
		checkSet(t, count, 1<<count-1)
	}
}

func checkSet(t *testing.T, count, set int) {
	t.Helper()
	var indexes []int
	for i := range count {
		if set>>i%2 == 1 {
			indexes = append(indexes, i)
		}
	}
	checkValid(t, entryOf(3, 7, count, 5, indexes...), len(indexes) > 0 && len(indexes) < count)
}

// P15.2, P15.3: data of all lengths, of pieces that have arrived or not.
func TestDataOfEntries(t *testing.T) {
	data := strings.Repeat("x", 70)
	for count := 2; count <= 16; count++ {
		for index := range count {
			for size := range 70 {
				entry := entryOf(3, 7, count, 5, (index+1)%count)
				entry.Data[index] = data[:size]
				checkValid(t, entry, size == 0)
				if count > 2 {
					entry.Have[index] = true
					checkValid(t, entry, shapes[shape{index, count, size}])
				}
				entry = entryOf(3, 7, count, 5)
				entry.Have[index], entry.Data[index] = true, data[:size]
				checkValid(t, entry, shapes[shape{index, count, size}])
			}
		}
	}
}

// P15.3: ticks at and beyond all ends.
func TestExpire(t *testing.T) {
	for _, since := range farNumbers() {
		l := []api.Parts{entryOf(3, 7, 3, since, 1)}
		for _, now := range farNumbers() {
			for _, life := range farNumbers() {
				compareExpire(t, l, now, life)
			}
		}
	}
	l := []api.Parts{entryOf(1, 7, 3, 10, 1), entryOf(2, 7, 3, 4, 2), entryOf(3, 7, 3, 12, 0), entryOf(4, 7, 3, 9, 1)}
	for _, row := range []struct {
		now, life int
		want      []api.Parts
	}{
		{0, 0, l},
		{-1, -1, l},
		{math.MinInt, math.MinInt, l},
		{4, 0, l},
		{5, 0, []api.Parts{l[0], l[2], l[3]}},
		{5, 1, l},
		{10, 0, []api.Parts{l[0], l[2]}},
		{12, 2, []api.Parts{l[0], l[2]}},
		{12, 3, []api.Parts{l[0], l[2], l[3]}},
		{12, 8, l},
		{12, 0, l[2:3]},
		{12, -5, l[2:3]},
		{13, 0, nil},
		{lastTick, lastTick - 4, l},
		{lastTick, lastTick - 5, []api.Parts{l[0], l[2], l[3]}},
		{lastTick + 1, lastTick - 4, l},
		{math.MaxInt, lastTick - 4, l},
		{math.MaxInt, math.MinInt, nil},
		{math.MaxInt, math.MaxInt, l},
	} {
		checkExpire(t, l, row.now, row.life, row.want)
		compareExpire(t, l, row.now, row.life)
	}
	checkExpire(t, nil, 5, 5, nil)
}

// P15.2, P15.3, P15.7: random lists.
func TestRandomLists(t *testing.T) {
	source := newSource()
	for range 30000 {
		l := randomList(source)
		now, life := source.IntN(30), source.IntN(15)
		if source.IntN(8) == 0 {
			now, life = oneOf(source, farNumbers()...), oneOf(source, farNumbers()...)
		}
		compareAdd(t, l, source.IntN(3), now, randomPiece(source))
		compareExpire(t, l, now, life)
	}
}

// P15.2, P15.3, P15.7: pieces and ticks one after the other, from a list that was empty.
func TestSequences(t *testing.T) {
	source := newSource()
	for range 200 {
		var l []api.Parts
		sources, now := 1+source.IntN(4), 0
		for range 100 {
			now += source.IntN(3)
			if p := randomPiece(source); check(p) == api.OK {
				l = compareAdd(t, l, source.IntN(sources), now, p)
			}
			if source.IntN(10) == 0 {
				l = compareExpire(t, l, now, source.IntN(30))
			}
		}
		if left := frag.Expire(l, now+1, 0); len(left) > 0 {
			t.Fatalf("after all ticks there is %v", left)
		}
	}
}

// order returns the indexes of pieces, each at least once, in some order.
func order(source *rand.Rand, count int) []int {
	indexes := source.Perm(count)
	for range source.IntN(2 * count) {
		indexes = append(indexes, source.IntN(count))
	}
	source.Shuffle(len(indexes), func(i, k int) { indexes[i], indexes[k] = indexes[k], indexes[i] })
	return indexes
}

// checkOrder checks P15.5 for the pieces of a message in some order, until all of them
// have arrived.
func checkOrder(t *testing.T, s string, indexes []int) {
	t.Helper()
	pieces, err := frag.Split(s, 7)
	if err != api.OK {
		t.Fatalf("Split of %d bytes: %d", len(s), err)
	}
	var l []api.Parts
	arrived := map[int]bool{}
	for now, i := range indexes {
		after, text, ok, err := frag.Add(l, 3, now, pieces[i])
		arrived[i] = true
		if len(arrived) == len(pieces) {
			if text != s || !ok || err != api.OK || len(after) != 0 {
				t.Fatalf("%d bytes in the order %v: %q, %t, %d, %v", len(s), indexes, text, ok, err, after)
			}
			return
		}
		if text != "" || ok || err != api.OK || len(after) != 1 || after[0].Since != 0 {
			t.Fatalf("%d bytes in the order %v, too early: %q, %t, %d, %v", len(s), indexes, text, ok, err, after)
		}
		l = after
	}
}

// everyOrder calls a function with each order of the numbers below count.
func everyOrder(count int, f func(indexes []int)) {
	var extend func(indexes []int)
	extend = func(indexes []int) {
		if len(indexes) == count {
			f(indexes)
		}
		for i := range count {
			if !slices.Contains(indexes, i) {
				extend(append(slices.Clone(indexes), i))
			}
		}
	}
	extend(nil)
}

// P15.5: every order of a few pieces.
func TestEveryOrder(t *testing.T) {
	source := newSource()
	for count := 1; count <= 6; count++ {
		for _, length := range []int{64*(count-1) + 1, 64*count - 1, 64 * count} {
			s := randomText(source, length)
			everyOrder(count, func(indexes []int) { checkOrder(t, s, indexes) })
		}
	}
	checkOrder(t, "", []int{0})
}

// P15.5: messages of every length, in some order, with pieces that come again.
func TestOrders(t *testing.T) {
	source := newSource()
	for length := range longest + 1 {
		s := randomText(source, length)
		count := len(cut(length))
		for range 3 {
			checkOrder(t, s, order(source, count))
			missing := source.IntN(count)
			checkOrder(t, s, slices.DeleteFunc(order(source, count), func(i int) bool { return i == missing }))
		}
	}
}

// P15.5: without one of the pieces, there is no message.
func TestMissingPieces(t *testing.T) {
	source := newSource()
	for count := 1; count <= 16; count++ {
		s := randomText(source, 64*count-24)
		for missing := range count {
			var indexes []int
			for range 3 {
				indexes = append(indexes, source.Perm(count)...)
			}
			checkOrder(t, s, slices.DeleteFunc(indexes, func(i int) bool { return i == missing }))
		}
	}
}

// stream is a message whose pieces arrive among those of others.
type stream struct {
	name
	text   string
	pieces []string
	list   []api.Parts // of this message alone
}

func newStream(t *testing.T, source *rand.Rand, n name) *stream {
	t.Helper()
	s := &stream{name: n, text: randomText(source, 65+source.IntN(300))}
	pieces, err := frag.Split(s.text, n.id)
	if err != api.OK {
		t.Fatalf("Split: %d", err)
	}
	for _, i := range order(source, len(pieces)) {
		s.pieces = append(s.pieces, pieces[i])
	}
	return s
}

// P15.6: up to 8 messages at a time arrive as each of them does alone.
func TestIndependence(t *testing.T) {
	source := newSource()
	for range 400 {
		var streams []*stream
		for i := range 1 + source.IntN(8) {
			n := name{source: i % 3 * 1000, id: i / 3 * 100}
			streams = append(streams, newStream(t, source, n))
		}
		var l []api.Parts
		for now := 0; len(streams) > 0; now++ {
			at := source.IntN(len(streams))
			s := streams[at]
			alone, text, ok, err := frag.Add(s.list, s.source, now, s.pieces[0])
			after, text2, ok2, err2 := frag.Add(l, s.source, now, s.pieces[0])
			if text2 != text || ok2 != ok || err2 != err || !areSame(only(after, s.name), alone) {
				t.Fatalf("got %q, %t, %d, %v, want %q, %t, %d, %v", text2, ok2, err2, after, text, ok, err, alone)
			}
			if ok && text != s.text {
				t.Fatalf("got %q, want %q", text, s.text)
			}
			checkOthers(t, l, after, s.name)
			s.list, s.pieces, l = alone, s.pieces[1:], after
			if len(s.pieces) == 0 || ok {
				streams = slices.Delete(streams, at, at+1)
			}
		}
		if len(l) > 0 {
			t.Fatalf("at the end there is %v", l)
		}
	}
}

// only returns the entries of a message.
func only(l []api.Parts, n name) []api.Parts {
	return slices.DeleteFunc(cloned(l), func(entry api.Parts) bool { return n != name{entry.Source, entry.Id} })
}

// checkOthers checks that the entries of other messages have not changed.
func checkOthers(t *testing.T, before, after []api.Parts, n name) {
	t.Helper()
	isThis := func(entry api.Parts) bool { return n == name{entry.Source, entry.Id} }
	if a, b := slices.DeleteFunc(cloned(before), isThis), slices.DeleteFunc(cloned(after), isThis); !areSame(a, b) {
		t.Fatalf("a piece of %v changed the others from %v to %v", n, a, b)
	}
}

// P15.6: with a ninth message, the first one is lost.
func TestNinthMessage(t *testing.T) {
	data := strings.Repeat("a", 64)
	var l []api.Parts
	for i := range 9 {
		l = compareAdd(t, l, i, i, piece(7, 1, 2, "b"))
	}
	for i := 1; i < 9; i++ {
		checkAdd(t, l, i, 20, piece(7, 0, 2, data), slices.Delete(cloned(l), i-1, i), data+"b", true, api.OK)
	}
	late := api.Parts{Source: 0, Id: 7, Count: 2, Since: 20, Have: []bool{true, false}, Data: []string{data, ""}}
	checkAdd(t, l, 0, 20, piece(7, 0, 2, data), append(cloned(l[1:]), late), "", false, api.OK)
}

// P15.7: after the ticks of all entries, none is left with the life 0.
func TestExpireOfAll(t *testing.T) {
	source := newSource()
	for range 2000 {
		l := randomList(source)
		last := 0
		for _, entry := range l {
			if 0 <= entry.Since && entry.Since < lastTick {
				last = max(last, entry.Since)
			}
		}
		for _, entry := range frag.Expire(l, last+1, 0) {
			if entry.Since != lastTick {
				t.Fatalf("at %d, there is %v", last+1, entry)
			}
		}
	}
}

// R1: long lists of entries, valid or not, and the time that they take.
func TestLongLists(t *testing.T) {
	for _, entry := range []api.Parts{{}, entryOf(3, 7, 3, 5, 1), entryOf(3, 7, 16, 5)} {
		compareExpire(t, slices.Repeat([]api.Parts{entry}, 200000), 5, 0)
	}
	l := numbered(200000)
	checkExpire(t, l, 0, 0, l[len(l)-8:])
	checkAdd(t, l, 0, 9, piece(7, 1, 2, dataFor(1, 2)), append(cloned(l[len(l)-7:]), entryOf(0, 7, 2, 9, 1)), "", false, api.OK)
}

// results returns each list that results from a list, in several ways.
func results(l []api.Parts) [][]api.Parts {
	lists := [][]api.Parts{frag.Expire(l, 0, 0), frag.Expire(l, 11, 5)}
	for _, p := range []string{
		piece(9, 0, 1, "a"), piece(7, 0, 1, "a"), piece(7, 0, 3, dataFor(0, 3)), piece(7, 1, 3, dataFor(1, 3)),
		piece(7, 2, 3, "a"), piece(7, 1, 2, "a"), piece(9, 1, 2, "a"), piece(7, 5, 3, "a"), "",
	} {
		after, _, _, _ := frag.Add(l, 3, 5, p)
		lists = append(lists, after)
	}
	return lists
}

// scribble changes all memory of a list, also that behind its elements.
func scribble(l []api.Parts) {
	for i := range l {
		have, data := l[i].Have, l[i].Data
		for k := range have[:cap(have)] {
			have[:cap(have)][k] = !have[:cap(have)][k]
		}
		for k := range data[:cap(data)] {
			data[:cap(data)][k] += "!"
		}
	}
	for i := range l[:cap(l)] {
		l[:cap(l)][i] = api.Parts{Source: -99}
	}
}

// R5: results share no memory with the list, or among their entries.
func TestMemory(t *testing.T) {
	shared := entryOf(3, 7, 3, 5, 1)
	same := shared
	same.Source = 4
	for _, l := range [][]api.Parts{
		{shared},
		{shared, same},
		append(numbered(6), shared, same),
		append(numbered(8), shared),
		append(slices.Grow(numbered(2), 20), shared),
		{{}, shared, {}, entryOf(3, 8, 2, 6, 0), shared},
	} {
		// Also the memory behind the elements stays as it is.
		whole := l[:cap(l)]
		before, wanted := cloned(whole), results(cloned(l))
		for i := range wanted {
			got := results(l)
			scribble(got[i])
			checkUnchanged(t, whole, before)
			for k := range got {
				if k != i && !areSame(got[k], wanted[k]) {
					t.Fatalf("the result %d shares memory with the result %d", k, i)
				}
			}
			checkEntries(t, results(l)[i], wanted[i])
		}
		got := results(l)
		scribble(l)
		for i := range wanted {
			if !areSame(got[i], wanted[i]) {
				t.Fatalf("the result %d shares memory with the list", i)
			}
		}
	}
}

// checkEntries changes each entry of a list, and checks that the others stay.
func checkEntries(t *testing.T, l, want []api.Parts) {
	t.Helper()
	for i := range l {
		// One after the other: the entries before i are changed already.
		scribble([]api.Parts{{Have: l[i].Have, Data: l[i].Data}})
		if !areSame(l[i+1:], want[i+1:]) {
			t.Fatalf("the entry %d shares memory with another one", i)
		}
	}
}

// R5: pieces can be changed without effect on others.
func TestMemoryOfPieces(t *testing.T) {
	s := strings.Repeat("ab", 100)
	pieces, _ := frag.Split(s, 7)
	again, _ := frag.Split(s, 7)
	for i := range pieces[:cap(pieces)] {
		pieces[:cap(pieces)][i] = "!"
	}
	checkSplit(t, s, 7, again, api.OK)
}

// R4: an empty list is the same as none.
func TestEmptyLists(t *testing.T) {
	for _, l := range [][]api.Parts{nil, {}, make([]api.Parts, 0, 5), {{}}} {
		checkExpire(t, l, 5, 5, nil)
		checkAdd(t, l, 3, 9, piece(7, 0, 1, ""), nil, "", true, api.OK)
		checkAdd(t, l, 3, 9, piece(7, 0, 3, dataFor(0, 3)), []api.Parts{entryOf(3, 7, 3, 9, 0)}, "", false, api.OK)
	}
}

// R7
func TestCallsAreIndependent(t *testing.T) {
	source := newSource()
	for range 500 {
		l, p := randomList(source), randomPiece(source)
		list, text, ok, err := frag.Add(l, 1, 5, p)
		left := frag.Expire(l, 15, 5)
		pieces, splitErr := frag.Split(p, 9)
		compareAdd(t, randomList(source), 1, 5, randomPiece(source))
		checkSplit(t, p, 9, pieces, splitErr)
		checkAdd(t, l, 1, 5, p, list, text, ok, err)
		checkExpire(t, l, 15, 5, left)
	}
}
