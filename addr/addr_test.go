package addr_test

import (
	"encoding/binary"
	"hash/fnv"
	"math"
	"math/big"
	"math/rand/v2"
	"slices"
	"testing"

	"homehub/addr"
	"homehub/api"
)

const (
	most    = 250 // the greatest address
	nodes   = 24  // the most claims of a valid list
	linear  = 15  // the attempt from which on the addresses follow each other
	lastTry = 100000
)

// hashed returns the address of an attempt that is hashed.
func hashed(eui uint64, try int) int {
	hash := fnv.New64a()
	hash.Write(binary.BigEndian.AppendUint64(nil, eui))
	hash.Write([]byte{byte(try)})
	return int(hash.Sum64()%(1<<32)%most) + 1
}

// address returns what Pick returns. Its sums have any size.
func address(eui uint64, try int) int {
	if try <= linear {
		return hashed(eui, max(try, 0))
	}
	sum := big.NewInt(int64(hashed(eui, linear)) - 1 - linear)
	sum.Add(sum, big.NewInt(int64(try)))
	return int(sum.Mod(sum, big.NewInt(most)).Int64()) + 1
}

// attemptOf returns the least attempt that has an address.
func attemptOf(eui uint64, want int) int {
	try := 0
	for address(eui, try) != want {
		try++
	}
	return try
}

// claim returns the claim of an attempt.
func claim(eui uint64, try int) api.Claim {
	return api.Claim{Eui: eui, Try: try, Addr: address(eui, try)}
}

// claimAt returns the claim of the first attempt, not before from, with an address.
func claimAt(eui uint64, want, from int) api.Claim {
	for try := max(from, linear); ; try++ {
		if address(eui, try) == want {
			return claim(eui, try)
		}
	}
}

// checked returns what Check returns.
func checked(l []api.Claim) api.Errno {
	if len(l) > nodes {
		return api.ErrLimit
	}
	for i, c := range l {
		for _, earlier := range l[:i] {
			if earlier.Eui == c.Eui {
				return api.ErrDup
			}
		}
		if c.Try < 0 || c.Try > lastTry || c.Addr != address(c.Eui, c.Try) {
			return api.ErrRange
		}
	}
	return api.OK
}

// conflicts returns the addresses that more than one claim of any list has.
func conflicts(l []api.Claim) []int {
	var found []int
	for a := 1; a <= most; a++ {
		n := 0
		for _, c := range l {
			if c.Addr == a {
				n++
			}
		}
		if n > 1 {
			found = append(found, a)
		}
	}
	return found
}

// round returns any list after a round, and the number of changed claims.
func round(l []api.Claim) ([]api.Claim, int) {
	var after []api.Claim
	changed := 0
	for _, c := range l {
		next := c
		for _, other := range l {
			if other.Addr == c.Addr && other.Eui < c.Eui {
				next = claim(c.Eui, c.Try+1)
			}
		}
		if next != c {
			changed++
		}
		after = append(after, next)
	}
	return after, changed
}

// settled returns any list after as many rounds as it takes, and their number.
func settled(l []api.Claim) ([]api.Claim, int) {
	rounds := 0
	for len(conflicts(l)) > 0 {
		l, _ = round(l)
		rounds++
	}
	return l, rounds
}

func checkPick(t *testing.T, eui uint64, try, want int) {
	t.Helper()
	if got := addr.Pick(eui, try); got != want {
		t.Errorf("Pick(%d, %d): got %d, want %d", eui, try, got, want)
	}
}

func checkFirst(t *testing.T, eui uint64, taken []int, wantTry, wantAddress int, want bool) {
	t.Helper()
	try, a, ok := addr.First(eui, taken)
	if try != wantTry || a != wantAddress || ok != want {
		t.Errorf("First(%d, %v): got %d, %d, %t, want %d, %d, %t", eui, taken, try, a, ok, wantTry, wantAddress, want)
	}
}

func checkCheck(t *testing.T, l []api.Claim, want api.Errno) {
	t.Helper()
	if got := addr.Check(l); got != want {
		t.Errorf("Check(%v): got %d, want %d", l, got, want)
	}
}

func checkConflicts(t *testing.T, l []api.Claim, want []int) {
	t.Helper()
	if got := addr.Conflicts(l); !slices.Equal(got, want) {
		t.Errorf("Conflicts(%v): got %v, want %v", l, got, want)
	}
}

func checkRound(t *testing.T, l, want []api.Claim, wantChanged int) {
	t.Helper()
	got, changed := addr.Round(l)
	if !slices.Equal(got, want) || changed != wantChanged {
		t.Errorf("Round(%v): got %v, %d, want %v, %d", l, got, changed, want, wantChanged)
	}
}

func checkSettle(t *testing.T, l, want []api.Claim) {
	t.Helper()
	if got := addr.Settle(l); !slices.Equal(got, want) {
		t.Errorf("Settle(%v): got %v, want %v", l, got, want)
	}
}

// checkClaims compares the functions of claims with their models.
func checkClaims(t *testing.T, l []api.Claim) {
	t.Helper()
	err := checked(l)
	checkCheck(t, l, err)
	if err != api.OK {
		checkConflicts(t, l, nil)
		checkRound(t, l, nil, 0)
		checkSettle(t, l, l)
		return
	}
	after, changed := round(l)
	last, rounds := settled(l)
	checkConflicts(t, l, conflicts(l))
	checkRound(t, l, after, changed)
	checkSettle(t, l, last)
	if rounds > 700 {
		t.Errorf("%v takes %d rounds", l, rounds)
	}
}

// identifiers returns identifiers at the ends of their range, and others.
func identifiers() []uint64 {
	l := []uint64{math.MaxUint64, math.MaxUint64 - 1, 1 << 63, 1<<63 - 1, 0x0123456789abcdef}
	for bit := range 64 {
		l = append(l, 1<<bit)
	}
	for n := range uint64(40) {
		l = append(l, 3*n)
	}
	return l
}

// allTaken returns all addresses but the given ones.
func allTaken(free ...int) []int {
	var taken []int
	for a := 1; a <= most; a++ {
		if !slices.Contains(free, a) {
			taken = append(taken, a)
		}
	}
	return taken
}

func newSource() *rand.Rand {
	return rand.New(rand.NewPCG(8, 1))
}

// randomTry returns the number of an attempt that is valid, mostly a small one.
func randomTry(source *rand.Rand) int {
	switch source.IntN(4) {
	case 0:
		return source.IntN(linear + 3)
	case 1:
		return lastTry - source.IntN(30)
	case 2:
		return source.IntN(lastTry + 1)
	}
	return 0
}

// randomClaims returns a valid list, whose addresses lie close together.
func randomClaims(source *rand.Rand) []api.Claim {
	var l []api.Claim
	used := map[uint64]bool{}
	width := 1 + source.IntN(30)
	for range source.IntN(nodes + 1) {
		eui := source.Uint64() >> source.IntN(64)
		if used[eui] {
			continue
		}
		used[eui] = true
		c := claim(eui, randomTry(source))
		if source.IntN(4) > 0 {
			c = claimAt(eui, (230+source.IntN(width))%most+1, min(c.Try, lastTry-most))
		}
		l = append(l, c)
	}
	return l
}

// spoilt returns a list with a fault in an element, if there is one.
func spoilt(source *rand.Rand, l []api.Claim) []api.Claim {
	if len(l) == 0 {
		return l
	}
	bad := slices.Clone(l)
	i := source.IntN(len(bad))
	switch source.IntN(5) {
	case 0:
		bad[i].Addr += source.IntN(3) - 1
	case 1:
		bad[i].Addr += most
	case 2:
		bad[i].Try += source.IntN(3) - 1
	case 3:
		bad[i] = bad[source.IntN(len(bad))]
	default:
		bad[i] = claim(bad[i].Eui, lastTry+source.IntN(3))
	}
	return bad
}

// P8.1: the values were calculated apart from the module.
func TestPickExamples(t *testing.T) {
	tries := []int{0, 1, 2, 14, 15, 16, 17, 100000, math.MaxInt64}
	for _, row := range []struct {
		eui  uint64
		want []int
	}{
		{0, []int{148, 213, 18, 8, 73, 74, 75, 58, 115}},
		{1, []int{173, 108, 53, 23, 208, 209, 210, 193, 250}},
		{7, []int{73, 8, 193, 163, 98, 99, 100, 83, 140}},
		{1 << 63, []int{140, 205, 10, 250, 65, 66, 67, 50, 107}},
		{math.MaxUint64, []int{12, 77, 132, 162, 227, 228, 229, 212, 19}},
		{0x0123456789abcdef, []int{114, 179, 234, 224, 39, 40, 41, 24, 81}},
	} {
		for i, try := range tries {
			checkPick(t, row.eui, try, row.want[i])
		}
	}
}

// P8.1
func TestPickOfEachAttempt(t *testing.T) {
	for _, eui := range identifiers() {
		for try := range 600 {
			checkPick(t, eui, try, address(eui, try))
		}
		for k := range 600 {
			checkPick(t, eui, math.MaxInt-k, address(eui, math.MaxInt-k))
			checkPick(t, eui, lastTry-300+k, address(eui, lastTry-300+k))
		}
	}
}

// P8.1: a negative attempt counts as 0.
func TestPickOfNegativeAttempts(t *testing.T) {
	for _, eui := range identifiers() {
		first := addr.Pick(eui, 0)
		for _, try := range []int{-1, -2, -15, -16, -250, -256, math.MinInt, math.MinInt + 1} {
			checkPick(t, eui, try, first)
		}
	}
}

// P8.1: the linear attempts follow from attempt 15 alone.
func TestPickFollowsAttemptFifteen(t *testing.T) {
	source := newSource()
	for range 2000 {
		eui, try := source.Uint64(), linear+source.IntN(math.MaxInt-linear)
		checkPick(t, eui, try, (addr.Pick(eui, linear)-1+(try-linear)%most)%most+1)
		checkPick(t, eui, try+1, addr.Pick(eui, try)%most+1)
	}
}

// P8.7
func TestPickProbesAllAddresses(t *testing.T) {
	for _, eui := range identifiers() {
		for _, start := range []int{linear, linear + 1, 200, lastTry, math.MaxInt - most + 1} {
			var seen [most + 1]int
			for k := range most {
				a := addr.Pick(eui, start+k)
				if a < 1 || a > most {
					t.Fatalf("Pick(%d, %d): got %d", eui, start+k, a)
				}
				seen[a]++
			}
			if slices.Max(seen[:]) != 1 {
				t.Errorf("the attempts of %d from %d on repeat an address", eui, start)
			}
		}
	}
}

// P8.7: also the addresses of hashed attempts, both ends included.
func TestPickStaysInRange(t *testing.T) {
	source := newSource()
	var seen [most + 1]bool
	for range 2000 {
		eui := source.Uint64()
		for try := range linear + 1 {
			a := addr.Pick(eui, try)
			if a < 1 || a > most {
				t.Fatalf("Pick(%d, %d): got %d", eui, try, a)
			}
			seen[a] = true
		}
	}
	if slices.Contains(seen[1:], false) {
		t.Error("some address is never picked")
	}
}

// P8.2, and the chapter's second example.
func TestFirstExamples(t *testing.T) {
	checkFirst(t, 7, nil, 0, 73, true)
	checkFirst(t, 7, []int{8}, 0, 73, true)
	checkFirst(t, 7, []int{73}, 1, 8, true)
	checkFirst(t, 7, []int{8, 73}, 2, 193, true)
	checkFirst(t, 7, []int{73, 8, 73, 8, 193, 73}, 3, address(7, 3), true)
	checkFirst(t, 7, allTaken(), 0, 0, false)
	checkFirst(t, 7, allTaken(97), 264, 97, true)
	checkFirst(t, 7, allTaken(98), 15, 98, true)
	checkFirst(t, 7, allTaken(97, 99), 16, 99, true)
	checkFirst(t, 7, allTaken(163), 14, 163, true)
	checkFirst(t, 7, append(allTaken(), allTaken()...), 0, 0, false)
}

// P8.2: numbers that are not addresses have no effect.
func TestFirstIgnoresOtherNumbers(t *testing.T) {
	others := []int{0, -1, 251, 252, 255, -73, 73 + 250, 73 + 256, 73 - 250, math.MaxInt, math.MinInt, 73 + 1<<32}
	checkFirst(t, 7, others, 0, 73, true)
	checkFirst(t, 7, append(others, 73), 1, 8, true)
	checkFirst(t, 7, append(others, allTaken()...), 0, 0, false)
	checkFirst(t, 7, append(allTaken(200), others...), attemptOf(7, 200), 200, true)
	for a := 1; a <= most; a++ {
		// Numbers in the place of an address do not make up for it.
		checkFirst(t, 7, append(allTaken(a), 0, 251), attemptOf(7, a), a, true)
	}
}

// P8.2: with one free address, at most the attempt 264 is needed.
func TestFirstWithOneFreeAddress(t *testing.T) {
	latest := 0
	for _, eui := range identifiers() {
		for a := 1; a <= most; a++ {
			try := attemptOf(eui, a)
			checkFirst(t, eui, allTaken(a), try, a, true)
			latest = max(latest, try)
		}
	}
	if latest != 264 {
		t.Errorf("the latest attempt is %d", latest)
	}
}

// P8.2, P8.8
func TestFirstIsTheLeastFreeAttempt(t *testing.T) {
	source := newSource()
	for range 3000 {
		eui := source.Uint64()
		var taken []int
		for range source.IntN(1200) {
			taken = append(taken, source.IntN(most+10)-4)
		}
		for range source.IntN(8) {
			taken = append(taken, address(eui, source.IntN(5)))
		}
		try, a, ok := addr.First(eui, taken)
		if !ok {
			checkAllTaken(t, taken)
			continue
		}
		if a != address(eui, try) || slices.Contains(taken, a) {
			t.Errorf("First(%d, %v): got %d, %d", eui, taken, try, a)
		}
		for lesser := range try {
			if !slices.Contains(taken, address(eui, lesser)) {
				t.Errorf("First(%d, %v): got %d, but %d is free", eui, taken, try, lesser)
			}
		}
	}
}

func checkAllTaken(t *testing.T, taken []int) {
	t.Helper()
	for _, a := range allTaken() {
		if !slices.Contains(taken, a) {
			t.Errorf("%d is free beside %v", a, taken)
		}
	}
}

// P8.2: a false only if nothing is free.
func TestFirstFindsTheLastFreeAddress(t *testing.T) {
	source := newSource()
	for range 300 {
		eui := source.Uint64()
		taken := allTaken()
		source.Shuffle(len(taken), func(i, k int) { taken[i], taken[k] = taken[k], taken[i] })
		checkFirst(t, eui, taken, 0, 0, false)
		free := taken[most-1]
		checkFirst(t, eui, taken[:most-1], attemptOf(eui, free), free, true)
	}
}

// P8.3
func TestCheckOfOneClaim(t *testing.T) {
	for _, eui := range identifiers() {
		for _, try := range []int{0, 1, 14, 15, 16, 17, 264, 265, 99999, lastTry} {
			good := claim(eui, try)
			checkCheck(t, []api.Claim{good}, api.OK)
			for _, wrong := range []int{0, -1, 1, most + 1, good.Addr + 1, good.Addr - 1, good.Addr + most, good.Addr - most, -good.Addr, math.MaxInt, math.MinInt} {
				if wrong != good.Addr {
					checkCheck(t, []api.Claim{{Eui: eui, Try: try, Addr: wrong}}, api.ErrRange)
				}
			}
		}
		for _, try := range []int{-1, -2, math.MinInt, lastTry + 1, lastTry + 2, lastTry + most, math.MaxInt} {
			checkCheck(t, []api.Claim{claim(eui, try)}, api.ErrRange)
		}
	}
}

// P8.3
func TestCheckOfTwoClaims(t *testing.T) {
	good, bad := claim(3, 0), api.Claim{Eui: 9, Try: 1, Addr: 251}
	for _, row := range []struct {
		l    []api.Claim
		want api.Errno
	}{
		{nil, api.OK},
		{[]api.Claim{good, claim(9, 1)}, api.OK},
		{[]api.Claim{claimAt(3, 7, 0), claimAt(9, 7, 0)}, api.OK},
		{[]api.Claim{good, good}, api.ErrDup},
		{[]api.Claim{good, claim(3, 1)}, api.ErrDup},
		{[]api.Claim{good, {Eui: 3, Try: -1}}, api.ErrDup},
		{[]api.Claim{good, claim(9, 1), {Eui: 3, Addr: 251}}, api.ErrDup},
		{[]api.Claim{{}, {}}, api.ErrRange},
		{[]api.Claim{bad, good, good}, api.ErrRange},
		{[]api.Claim{good, good, bad}, api.ErrDup},
		{[]api.Claim{good, bad}, api.ErrRange},
		{[]api.Claim{claim(1<<63, 0), claim(0, 0), claim(math.MaxUint64, 0), claim(math.MaxInt64, 0)}, api.OK},
		{[]api.Claim{claim(1<<32|3, 0), good}, api.OK},
		{[]api.Claim{claim(1<<63, 0), claim(0, 0), claim(1<<63, 1)}, api.ErrDup},
	} {
		checkCheck(t, row.l, row.want)
	}
}

// manyClaims returns n claims of different devices.
func manyClaims(n int) []api.Claim {
	var l []api.Claim
	for i := range n {
		l = append(l, claim(uint64(i), i))
	}
	return l
}

// P8.3: too many claims come before all other errors.
func TestCheckOfManyClaims(t *testing.T) {
	checkCheck(t, manyClaims(nodes), api.OK)
	checkCheck(t, manyClaims(nodes+1), api.ErrLimit)
	checkCheck(t, manyClaims(1000), api.ErrLimit)
	checkCheck(t, make([]api.Claim, nodes+1), api.ErrLimit)
	checkCheck(t, make([]api.Claim, nodes), api.ErrRange)
	for i := range nodes {
		l := manyClaims(nodes)
		l[i].Addr = 0
		checkCheck(t, l, api.ErrRange)
		l = manyClaims(nodes)
		l[i] = claim(l[(i+7)%nodes].Eui, 3)
		checkCheck(t, l, api.ErrDup)
	}
}

// P8.4, P8.5 and the chapter's first example.
func TestTwoClaimsOfOneAddress(t *testing.T) {
	l := []api.Claim{claimAt(3, 7, 0), claimAt(9, 7, 0)}
	want := []api.Claim{l[0], {Eui: 9, Try: l[1].Try + 1, Addr: 8}}
	checkConflicts(t, l, []int{7})
	checkRound(t, l, want, 1)
	checkSettle(t, l, want)
	checkConflicts(t, want, nil)
	checkRound(t, want, want, 0)
	checkSettle(t, want, want)
}

// P8.4: identifiers are compared as unsigned numbers, and as wholes.
func TestLeastIdentifierKeepsItsAddress(t *testing.T) {
	ids := []uint64{0, 1, 1<<32 | 1, 1<<63 - 1, 1 << 63, 1<<63 + 1, math.MaxUint64}
	for i, lesser := range ids {
		for _, greater := range ids[i+1:] {
			a, b := claimAt(lesser, 250, 0), claimAt(greater, 250, 0)
			next := claim(greater, b.Try+1)
			if next.Addr != 1 {
				t.Fatalf("the address after 250 is %d", next.Addr)
			}
			checkRound(t, []api.Claim{a, b}, []api.Claim{a, next}, 1)
			checkRound(t, []api.Claim{b, a}, []api.Claim{next, a}, 1)
			checkSettle(t, []api.Claim{b, a}, []api.Claim{next, a})
		}
	}
}

// P8.4: all but one of an address change at once, whatever they meet.
func TestRoundChangesSeveralClaims(t *testing.T) {
	l := []api.Claim{claimAt(5, 8, 0), claimAt(9, 7, 0), claimAt(4, 7, 0), claimAt(6, 8, 0), claimAt(2, 7, 0), claimAt(1, 40, 0)}
	checkConflicts(t, l, []int{7, 8})
	want := []api.Claim{l[0], claim(9, l[1].Try+1), claim(4, l[2].Try+1), claim(6, l[3].Try+1), l[4], l[5]}
	checkRound(t, l, want, 3)
	// The claims that came to 8 have conflicts with 5 and with each other.
	checkConflicts(t, want, []int{8})
	checkRound(t, want, []api.Claim{claim(5, l[0].Try+1), claim(9, l[1].Try+2), want[2], want[3], l[4], l[5]}, 2)
}

// P8.4: Conflicts is ascending, also if the claims are not.
func TestConflictsAreAscending(t *testing.T) {
	var l []api.Claim
	for i, a := range []int{250, 3, 250, 17, 1, 1, 100, 3, 17, 3, 249} {
		l = append(l, claimAt(uint64(50-i), a, 0))
	}
	checkConflicts(t, l, []int{1, 3, 17, 250})
	slices.Reverse(l)
	checkConflicts(t, l, []int{1, 3, 17, 250})
}

// P8.4: claims meet also at attempts that are hashed.
func TestConflictsOfHashedAttempts(t *testing.T) {
	found := 0
	for try := range linear + 1 {
		for eui := range uint64(400) {
			l := []api.Claim{claim(eui+1, try), claim(2000, try)}
			if l[0].Addr != l[1].Addr {
				continue
			}
			found++
			checkConflicts(t, l, []int{l[0].Addr})
			checkRound(t, l, []api.Claim{l[0], claim(2000, try+1)}, 1)
			checkClaims(t, l)
		}
	}
	if found < 10 {
		t.Errorf("only %d pairs were tried", found)
	}
}

// P8.4, P8.5
func TestListsThatCheckRejects(t *testing.T) {
	same := claimAt(3, 7, 0)
	for _, l := range [][]api.Claim{
		{same, same},
		{same, claimAt(9, 7, 0), {Eui: 10, Try: 0, Addr: 0}},
		{same, claimAt(9, 7, 0), claim(10, lastTry+1)},
		{same, claimAt(9, 7, 0), claim(10, -1)},
		{same, claimAt(9, 7, 0), claimAt(9, 7, 0)},
		append(manyClaims(nodes-1), claimAt(90, 7, 0), claimAt(91, 7, 0)),
		make([]api.Claim, 2),
	} {
		if checked(l) == api.OK {
			t.Fatalf("%v is valid", l)
		}
		checkClaims(t, l)
	}
}

// P8.5: a claim is driven along by a chain of others.
func TestSettleOfAChain(t *testing.T) {
	for n := 1; n < nodes; n++ {
		var l []api.Claim
		for i := range n {
			l = append(l, claimAt(uint64(i), (240+i)%most+1, 0))
		}
		last := claimAt(1000, 241, 0)
		want := append(slices.Clone(l), claim(1000, last.Try+n))
		checkSettle(t, append(l, last), want)
		if _, rounds := settled(append(l, last)); rounds != n {
			t.Errorf("a chain of %d takes %d rounds", n, rounds)
		}
	}
}

// P8.5: the claims of one address spread over the following ones.
func TestSettleOfOneAddress(t *testing.T) {
	for _, start := range []int{1, 100, 240, 250} {
		var l, want []api.Claim
		for i := range nodes {
			c := claimAt(uint64(i*i), start, 0)
			l, want = append(l, c), append(want, claim(c.Eui, c.Try+i))
		}
		checkSettle(t, l, want)
		slices.Reverse(l)
		slices.Reverse(want)
		checkSettle(t, l, want)
	}
}

// P8.5: the attempts may pass the greatest one of a valid list.
func TestSettleGoesOnAfterTheLastAttempt(t *testing.T) {
	var l []api.Claim
	start := claim(0, lastTry)
	for eui := uint64(0); len(l) < 3; eui++ {
		if c := claim(eui, lastTry); c.Addr == start.Addr {
			l = append(l, c)
		}
	}
	checkCheck(t, l, api.OK)
	after := []api.Claim{l[0], claim(l[1].Eui, lastTry+1), claim(l[2].Eui, lastTry+1)}
	checkRound(t, l, after, 2)
	checkRound(t, after, nil, 0)
	checkSettle(t, l, []api.Claim{l[0], after[1], claim(l[2].Eui, lastTry+2)})
}

// P8.3 to P8.5
func TestRandomClaims(t *testing.T) {
	source := newSource()
	for range 2000 {
		l := randomClaims(source)
		if checked(l) != api.OK {
			t.Fatalf("%v is not valid", l)
		}
		checkClaims(t, l)
		checkClaims(t, spoilt(source, l))
	}
}

// P8.5: Settle repeats Round, as long as no attempt passes the greatest one.
func TestSettleRepeatsRound(t *testing.T) {
	source := newSource()
	for range 500 {
		var l []api.Claim
		for range source.IntN(nodes + 1) {
			l = append(l, claimAt(source.Uint64(), 1+source.IntN(6), source.IntN(200)))
		}
		want, changed := addr.Round(l)
		for changed > 0 {
			want, changed = addr.Round(want)
		}
		checkSettle(t, l, want)
	}
}

// P8.6
func TestSettleLeavesNoConflicts(t *testing.T) {
	source := newSource()
	for range 2000 {
		l := randomClaims(source)
		after := addr.Settle(l)
		if len(after) != len(l) || len(conflicts(after)) > 0 {
			t.Fatalf("Settle(%v): got %v", l, after)
		}
		for i, c := range after {
			if c.Eui != l[i].Eui || c.Try < l[i].Try || c.Addr != address(c.Eui, c.Try) || isLeast(l, i) && c != l[i] {
				t.Errorf("Settle(%v): got %v for %v", l, c, l[i])
			}
		}
	}
}

// isLeast reports whether no element has a lesser identifier than that of index i.
func isLeast(l []api.Claim, i int) bool {
	return !slices.ContainsFunc(l, func(c api.Claim) bool { return c.Eui < l[i].Eui })
}

// P8.9, and the same for Conflicts and Round.
func TestOrderDoesNotMatter(t *testing.T) {
	source := newSource()
	for range 1000 {
		l := randomClaims(source)
		found, after := addr.Conflicts(l), addr.Settle(l)
		next, changed := addr.Round(l)
		order := source.Perm(len(l))
		checkConflicts(t, permuted(l, order), found)
		checkRound(t, permuted(l, order), permuted(next, order), changed)
		checkSettle(t, permuted(l, order), permuted(after, order))
	}
}

// permuted returns the elements of a list in another order.
func permuted(l []api.Claim, order []int) []api.Claim {
	var after []api.Claim
	for _, i := range order {
		after = append(after, l[i])
	}
	return after
}

// R4
func TestNilIsEmpty(t *testing.T) {
	for _, l := range [][]api.Claim{nil, {}} {
		checkCheck(t, l, api.OK)
		checkConflicts(t, l, nil)
		checkRound(t, l, nil, 0)
		checkSettle(t, l, nil)
	}
	checkFirst(t, 1, nil, 0, 173, true)
	checkFirst(t, 1, []int{}, 0, 173, true)
}

// R5: neither the elements nor the memory behind them changes.
func TestArgumentsAreKept(t *testing.T) {
	source := newSource()
	for range 300 {
		l := randomClaims(source)
		if source.IntN(3) == 0 {
			l = spoilt(source, l)
		}
		spare := slices.Repeat([]api.Claim{{Eui: 1, Addr: 2, Try: 3}}, nodes)
		whole := slices.Concat(l, spare)
		part := whole[:len(l)]
		addr.Check(part)
		addr.Conflicts(part)
		addr.Round(part)
		addr.Settle(part)
		if !slices.Equal(whole, slices.Concat(l, spare)) {
			t.Fatalf("%v was changed to %v", l, whole)
		}
	}
	taken := append(allTaken(97, 12), 73, 73, -5, 400)
	whole := append(slices.Clone(taken), 1, 2, 3)
	addr.First(7, whole[:len(taken)])
	if !slices.Equal(whole, append(slices.Clone(taken), 1, 2, 3)) {
		t.Error("First changed the list of taken addresses")
	}
}

// R5: a caller may change what a function returned.
func TestResultsAreNewMemory(t *testing.T) {
	valid := []api.Claim{claimAt(3, 7, 0), claimAt(9, 7, 0), claimAt(1, 100, 0)}
	quiet := []api.Claim{claimAt(3, 7, 0), claimAt(1, 100, 0)}
	rejected := []api.Claim{claim(3, 0), claim(3, 1)}
	for _, l := range [][]api.Claim{valid, quiet, rejected} {
		before := slices.Clone(l)
		after, _ := addr.Round(l)
		for _, result := range [][]api.Claim{after, addr.Settle(l)} {
			for i := range result {
				result[i] = api.Claim{}
			}
			if !slices.Equal(l, before) {
				t.Fatalf("%v was changed to %v", before, l)
			}
		}
	}
}

// R7
func TestCallsAreIndependent(t *testing.T) {
	source := newSource()
	for range 200 {
		l, other := randomClaims(source), spoilt(source, randomClaims(source))
		found, after := addr.Conflicts(l), addr.Settle(l)
		next, changed := addr.Round(l)
		checkClaims(t, other)
		checkConflicts(t, l, found)
		checkRound(t, l, next, changed)
		checkSettle(t, l, after)
	}
	checkFirst(t, 7, allTaken(), 0, 0, false)
	checkFirst(t, 7, nil, 0, 73, true)
}
