package frame_test

import (
	"math"
	"math/rand/v2"
	"strings"
	"testing"

	"homehub/api"
	"homehub/frame"
)

const (
	least    = 11  // the bytes of a frame without Data
	most     = 120 // the bytes of the longest frame
	mostData = 109
)

// crc is the CRC-16 byte by byte: as the polynomial has few terms, the bits of a
// byte can be taken together.
func crc(s string) int {
	register := uint16(0xffff)
	for i := range len(s) {
		x := register>>8 ^ uint16(s[i])
		x ^= x >> 4
		register = register<<8 ^ x<<12 ^ x<<5 ^ x
	}
	return int(register)
}

// sealed returns a string and its checksum.
func sealed(s string) string {
	n := crc(s)
	return s + string([]byte{byte(n / 256), byte(n % 256)})
}

// checked returns what Check returns.
func checked(f api.Frame) api.Errno {
	if f.Kind != 1 && f.Kind != 2 && f.Kind != 3 && f.Kind != 4 {
		return api.ErrKind
	}
	if f.From < 0 || f.From > 250 || f.Source < 0 || f.Source > 250 || f.Seq < 0 || f.Seq > 65535 || f.Hops < 0 || f.Hops > 15 {
		return api.ErrRange
	}
	if f.To < 0 || f.To > 250 && f.To != 255 || f.Target < 0 || f.Target > 250 && f.Target != 255 {
		return api.ErrRange
	}
	if len(f.Data) > mostData {
		return api.ErrLimit
	}
	toAll := f.Kind == 1 || f.Kind == 4
	if toAll && (f.To != 255 || f.Target != 255) {
		return api.ErrForm
	}
	if f.Kind == 3 && (len(f.Data) > 0 || f.To == 255) {
		return api.ErrForm
	}
	if f.From == f.To {
		return api.ErrForm
	}
	return api.OK
}

// encoded returns what Encode returns.
func encoded(f api.Frame) (string, api.Errno) {
	if err := checked(f); err != api.OK {
		return "", err
	}
	first := f.Kind
	if f.Urgent {
		first += 128
	}
	var s strings.Builder
	for _, n := range []int{first, f.From, f.To, f.Source, f.Target, f.Seq / 256, f.Seq % 256, f.Hops, len(f.Data)} {
		s.WriteByte(byte(n))
	}
	s.WriteString(f.Data)
	return sealed(s.String()), api.OK
}

// decoded returns what Decode returns.
func decoded(s string) (api.Frame, api.Errno) {
	if len(s) < least {
		return api.Frame{}, api.ErrShort
	}
	if sealed(s[:len(s)-2]) != s {
		return api.Frame{}, api.ErrSum
	}
	if int(s[8]) != len(s)-least {
		return api.Frame{}, api.ErrForm
	}
	f := api.Frame{
		Kind: int(s[0]) % 128, Urgent: s[0] >= 128,
		From: int(s[1]), To: int(s[2]), Source: int(s[3]), Target: int(s[4]),
		Seq: int(s[5])*256 + int(s[6]), Hops: int(s[7]), Data: s[9 : len(s)-2],
	}
	if err := checked(f); err != api.OK {
		return api.Frame{}, err
	}
	return f, api.OK
}

// The first difference ends a test, as some of them compare very many frames.

func checkCheck(t *testing.T, f api.Frame, want api.Errno) {
	t.Helper()
	if got := frame.Check(f); got != want {
		t.Fatalf("Check(%+v): got %d, want %d", f, got, want)
	}
}

func checkSize(t *testing.T, f api.Frame, want int) {
	t.Helper()
	if got := frame.Size(f); got != want {
		t.Fatalf("Size(%+v): got %d, want %d", f, got, want)
	}
}

func checkEncode(t *testing.T, f api.Frame, want string, wantErr api.Errno) {
	t.Helper()
	if got, err := frame.Encode(f); got != want || err != wantErr {
		t.Fatalf("Encode(%+v): got %q, %d, want %q, %d", f, got, err, want, wantErr)
	}
}

func checkDecode(t *testing.T, s string, want api.Frame, wantErr api.Errno) {
	t.Helper()
	if got, err := frame.Decode(s); got != want || err != wantErr {
		t.Fatalf("Decode(%q): got %+v, %d, want %+v, %d", s, got, err, want, wantErr)
	}
}

// checkFrame compares all functions with their models.
func checkFrame(t *testing.T, f api.Frame) {
	t.Helper()
	s, err := encoded(f)
	checkCheck(t, f, err)
	checkSize(t, f, len(s))
	checkEncode(t, f, s, err)
	if err == api.OK {
		checkDecode(t, s, f, api.OK)
	}
}

// checkText compares Decode with its model, and what it returns with the text.
func checkText(t *testing.T, s string) {
	t.Helper()
	f, err := decoded(s)
	checkDecode(t, s, f, err)
	if err == api.OK {
		checkCheck(t, f, api.OK)
		checkSize(t, f, len(s))
		checkEncode(t, f, s, api.OK)
	}
}

// everyByte is the string of all bytes, in order.
func everyByte() string {
	b := make([]byte, 256)
	for i := range b {
		b[i] = byte(i)
	}
	return string(b)
}

// example is a frame and its encoding, whose checksum was calculated apart from
// the module.
type example struct {
	f api.Frame
	s string
}

func examples() []example {
	return []example{
		{api.Frame{Kind: api.FkBeacon, From: 1, To: 255, Source: 1, Target: 255, Seq: 258},
			"\x01\x01\xff\x01\xff\x01\x02\x00\x00\x16\x28"},
		{api.Frame{Kind: api.FkData, From: 2, To: 0, Source: 9, Target: 0, Seq: 65535, Hops: 15, Urgent: true, Data: "hi"},
			"\x82\x02\x00\x09\x00\xff\xff\x0f\x02hi\xb1\x07"},
		{api.Frame{Kind: api.FkPoll, From: 250, To: 1, Source: 250},
			"\x03\xfa\x01\xfa\x00\x00\x00\x00\x00\x46\x18"},
		{api.Frame{Kind: api.FkPoll, To: 1, Target: 255, Seq: 32768, Urgent: true},
			"\x83\x00\x01\x00\xff\x80\x00\x00\x00\xb5\x72"},
		{api.Frame{Kind: api.FkJoin, From: 250, To: 255, Source: 250, Target: 255, Seq: 1, Hops: 10, Urgent: true},
			"\x84\xfa\xff\xfa\xff\x00\x01\x0a\x00\xd7\x45"},
		{api.Frame{Kind: api.FkData, From: 1, To: 5, Source: 2, Target: 9, Seq: 255, Hops: 7, Data: "\x00\xff\x80"},
			"\x02\x01\x05\x02\x09\x00\xff\x07\x03\x00\xff\x80\x3d\x84"},
		{api.Frame{Kind: api.FkData, From: 250, To: 255, Source: 250, Target: 255, Seq: 65535, Hops: 15, Data: strings.Repeat("x", mostData)},
			"\x02\xfa\xff\xfa\xff\xff\xff\x0f\x6d" + strings.Repeat("x", mostData) + "\x14\x6c"},
	}
}

// plain returns a valid frame of each kind.
func plain() []api.Frame {
	return []api.Frame{
		{Kind: api.FkBeacon, From: 7, To: 255, Source: 7, Target: 255, Seq: 9},
		{Kind: api.FkData, From: 7, To: 8, Source: 6, Target: 5, Seq: 300, Hops: 2, Data: "abc"},
		{Kind: api.FkPoll, From: 7, To: 8, Source: 7, Target: 8, Seq: 300, Urgent: true},
		{Kind: api.FkJoin, From: 7, To: 255, Source: 7, Target: 255, Data: "claim"},
	}
}

// change sets a field of a frame.
type change func(f *api.Frame)

// changes returns, field by field, values in range, at its ends, and outside.
func changes() [][]change {
	return [][]change{
		numbers([]int{0, 1, 2, 3, 4, 5, -1, 127, 129, 130, 256 + 2, math.MinInt, math.MaxInt}, func(f *api.Frame) *int { return &f.Kind }),
		numbers(addresses(), func(f *api.Frame) *int { return &f.From }),
		numbers(addresses(), func(f *api.Frame) *int { return &f.To }),
		numbers(addresses(), func(f *api.Frame) *int { return &f.Source }),
		numbers(addresses(), func(f *api.Frame) *int { return &f.Target }),
		numbers([]int{0, 1, 255, 256, 65534, 65535, 65536, -1, 1 << 32, math.MinInt, math.MaxInt}, func(f *api.Frame) *int { return &f.Seq }),
		numbers([]int{0, 1, 14, 15, 16, 255, 256, -1, 1 << 32, math.MinInt, math.MaxInt}, func(f *api.Frame) *int { return &f.Hops }),
		{func(f *api.Frame) { f.Urgent = false }, func(f *api.Frame) { f.Urgent = true }},
		texts("", "x", "\x00", "\xff\xfe", strings.Repeat("a", mostData-1), strings.Repeat("b", mostData), strings.Repeat("c", mostData+1), everyByte(), strings.Repeat("d", 256+50)),
	}
}

func addresses() []int {
	return []int{0, 1, 7, 8, 249, 250, 251, 254, 255, 256, -1, 256 + 8, 1 << 32, math.MinInt, math.MaxInt}
}

func numbers(values []int, field func(f *api.Frame) *int) []change {
	var l []change
	for _, n := range values {
		l = append(l, func(f *api.Frame) { *field(f) = n })
	}
	return l
}

func texts(values ...string) []change {
	var l []change
	for _, s := range values {
		l = append(l, func(f *api.Frame) { f.Data = s })
	}
	return l
}

func newSource() *rand.Rand {
	return rand.New(rand.NewPCG(9, 1))
}

// randomText returns some string of this length.
func randomText(source *rand.Rand, length int) string {
	b := make([]byte, length)
	for i := range b {
		b[i] = byte(source.Uint32())
	}
	return string(b)
}

// randomFrame returns a frame that is valid, unless From is To.
func randomFrame(source *rand.Rand) api.Frame {
	f := api.Frame{
		Kind: 1 + source.IntN(4), From: source.IntN(251), To: source.IntN(251),
		Source: source.IntN(251), Target: source.IntN(251),
		Seq: source.IntN(65536), Hops: source.IntN(16), Urgent: source.IntN(2) == 0,
	}
	if f.Kind == api.FkBeacon || f.Kind == api.FkJoin {
		f.To, f.Target = 255, 255
	}
	if f.Kind != api.FkPoll {
		f.Data = randomText(source, source.IntN(mostData+1))
	}
	return f
}

// P9.1, P9.2, P9.3, and the chapter's first two examples.
func TestExamples(t *testing.T) {
	for _, e := range examples() {
		checkCheck(t, e.f, api.OK)
		checkSize(t, e.f, len(e.s))
		checkEncode(t, e.f, e.s, api.OK)
		checkDecode(t, e.s, e.f, api.OK)
	}
}

// P9.1, P9.2
func TestCheckOfEachError(t *testing.T) {
	long := strings.Repeat("x", mostData+1)
	for _, row := range []struct {
		f    api.Frame
		want api.Errno
	}{
		{api.Frame{}, api.ErrKind},
		{api.Frame{Kind: 5, From: -1, Data: long}, api.ErrKind},
		{api.Frame{Kind: -1, From: 3, To: 3}, api.ErrKind},
		{api.Frame{Kind: api.FkData, From: 251, To: 1}, api.ErrRange},
		{api.Frame{Kind: api.FkData, From: 255, To: 1}, api.ErrRange},
		{api.Frame{Kind: api.FkData, From: 255, To: 255}, api.ErrRange},
		{api.Frame{Kind: api.FkData, To: 1, Source: 255}, api.ErrRange},
		{api.Frame{Kind: api.FkData, To: 254}, api.ErrRange},
		{api.Frame{Kind: api.FkData, To: 1, Target: 251}, api.ErrRange},
		{api.Frame{Kind: api.FkPoll, From: 3, To: 3, Hops: 16}, api.ErrRange},
		{api.Frame{Kind: api.FkData, From: 3, To: 3, Seq: 65536, Data: long}, api.ErrRange},
		{api.Frame{Kind: api.FkData, From: 3, To: 3, Seq: -1, Data: long}, api.ErrRange},
		{api.Frame{Kind: api.FkData, From: 3, To: 3, Data: long}, api.ErrLimit},
		{api.Frame{Kind: api.FkPoll, From: 3, To: 4, Data: long}, api.ErrLimit},
		{api.Frame{Kind: api.FkBeacon, From: 3, To: 4, Data: long}, api.ErrLimit},
		{api.Frame{Kind: api.FkBeacon, From: 3, To: 255, Target: 4}, api.ErrForm},
		{api.Frame{Kind: api.FkBeacon, From: 3, To: 4, Target: 255}, api.ErrForm},
		{api.Frame{Kind: api.FkJoin, From: 3, To: 255, Target: 4}, api.ErrForm},
		{api.Frame{Kind: api.FkJoin, From: 3, To: 4, Target: 255}, api.ErrForm},
		{api.Frame{Kind: api.FkJoin, From: 3, To: 3, Target: 3}, api.ErrForm},
		{api.Frame{Kind: api.FkPoll, From: 3, To: 4, Data: "x"}, api.ErrForm},
		{api.Frame{Kind: api.FkPoll, From: 3, To: 255}, api.ErrForm},
		{api.Frame{Kind: api.FkPoll, From: 3, To: 3}, api.ErrForm},
		{api.Frame{Kind: api.FkData, From: 3, To: 3}, api.ErrForm},
		{api.Frame{Kind: api.FkData}, api.ErrForm},
	} {
		checkCheck(t, row.f, row.want)
		checkSize(t, row.f, 0)
		checkEncode(t, row.f, "", row.want)
	}
}

// P9.1: what the rules of the kinds do not forbid.
func TestCheckAccepts(t *testing.T) {
	for _, f := range []api.Frame{
		{Kind: api.FkData, From: 3, To: 255, Target: 255},
		{Kind: api.FkData, From: 3, To: 255, Target: 4},
		{Kind: api.FkData, From: 3, To: 4, Target: 255, Data: "x"},
		{Kind: api.FkData, From: 3, To: 4, Source: 4, Target: 3},
		{Kind: api.FkData, From: 3, To: 4, Source: 5, Target: 5},
		{Kind: api.FkData, From: 3},
		{Kind: api.FkData, To: 3, Target: 3},
		{Kind: api.FkPoll, From: 3, To: 4, Source: 5, Target: 255, Hops: 15},
		{Kind: api.FkPoll, From: 3, To: 4, Source: 4, Target: 3, Urgent: true},
		{Kind: api.FkBeacon, To: 255, Source: 9, Target: 255, Hops: 15, Data: "x"},
		{Kind: api.FkJoin, To: 255, Source: 9, Target: 255, Data: strings.Repeat("x", mostData)},
	} {
		checkCheck(t, f, api.OK)
		checkFrame(t, f)
	}
}

// P9.1, P9.2: all pairs of fields, with values in range and outside.
func TestPairsOfFields(t *testing.T) {
	all := changes()
	for _, f := range plain() {
		checkCheck(t, f, api.OK)
		for i := range all {
			for k := range i {
				for _, one := range all[i] {
					for _, other := range all[k] {
						changed := f
						one(&changed)
						other(&changed)
						checkFrame(t, changed)
					}
				}
			}
		}
	}
}

// P9.1, P9.2: several fields at once.
func TestManyFields(t *testing.T) {
	source, all := newSource(), changes()
	for range 30000 {
		f := plain()[source.IntN(4)]
		for _, field := range all {
			if source.IntN(3) == 0 {
				field[source.IntN(len(field))](&f)
			}
		}
		checkFrame(t, f)
	}
}

// P9.1, P9.2, P9.4: every address in each place.
func TestEveryAddress(t *testing.T) {
	for _, f := range plain() {
		for n := -3; n <= 260; n++ {
			for _, field := range []func(f *api.Frame) *int{
				func(f *api.Frame) *int { return &f.From },
				func(f *api.Frame) *int { return &f.To },
				func(f *api.Frame) *int { return &f.Source },
				func(f *api.Frame) *int { return &f.Target },
			} {
				changed := f
				*field(&changed) = n
				checkFrame(t, changed)
			}
		}
	}
}

// P9.1, P9.4: From is To at each address.
func TestEveryFrameToItself(t *testing.T) {
	for n := range 251 {
		for _, kind := range []int{api.FkBeacon, api.FkData, api.FkPoll, api.FkJoin} {
			checkCheck(t, api.Frame{Kind: kind, From: n, To: n, Source: 7, Target: 8}, api.ErrForm)
			checkCheck(t, api.Frame{Kind: kind, From: n, To: n, Source: n, Target: 255}, api.ErrForm)
		}
	}
}

// P9.2, P9.4: every Seq, Hops, and both values of Urgent.
func TestEverySeqAndHops(t *testing.T) {
	for _, f := range plain() {
		for seq := range 65536 {
			f.Seq, f.Hops, f.Urgent = seq, seq%16, seq/16%2 == 1
			checkFrame(t, f)
		}
	}
}

// P9.2, P9.6: every number of bytes, up to one too many.
func TestEveryLength(t *testing.T) {
	source := newSource()
	for _, f := range plain() {
		for n := range mostData + 2 {
			f.Data = randomText(source, n)
			checkFrame(t, f)
			if f.Kind != api.FkPoll && n <= mostData {
				checkSize(t, f, least+n)
			}
		}
	}
	f := plain()[1]
	f.Data = strings.Repeat("x", mostData)
	checkSize(t, f, most)
	f.Data += "x"
	checkSize(t, f, 0)
}

// P9.2, P9.4: Data of any bytes.
func TestEveryByteOfData(t *testing.T) {
	f := plain()[1]
	all := everyByte()
	for i := range all {
		for _, f.Data = range []string{all[i : i+1], "ab" + all[i:i+1], all[i:i+1] + "z\u00e9", all[i:min(i+mostData, 256)]} {
			checkFrame(t, f)
		}
	}
}

// P9.4
func TestInverse(t *testing.T) {
	source := newSource()
	for range 20000 {
		f := randomFrame(source)
		checkFrame(t, f)
		s, err := frame.Encode(f)
		if err != api.OK {
			continue
		}
		checkText(t, s)
		if len(s) < least || len(s) > most || len(s) != frame.Size(f) {
			t.Errorf("%+v: %d bytes, its Size is %d", f, len(s), frame.Size(f))
		}
	}
}

// P9.3, and the chapter's fourth example.
func TestDecodeOfShortTexts(t *testing.T) {
	for _, e := range examples() {
		for n := range least {
			checkDecode(t, e.s[:n], api.Frame{}, api.ErrShort)
			if n > 2 {
				checkDecode(t, sealed(e.s[:n-2]), api.Frame{}, api.ErrShort)
			}
		}
		for n := least; n < len(e.s); n++ {
			checkDecode(t, e.s[:n], api.Frame{}, api.ErrSum)
		}
	}
	checkDecode(t, "\xff\xff", api.Frame{}, api.ErrShort)
	checkDecode(t, strings.Repeat("\x00", 10), api.Frame{}, api.ErrShort)
	checkDecode(t, strings.Repeat("\x00", 11), api.Frame{}, api.ErrSum)
}

// P9.3: the errors, and which one comes first.
func TestDecodeErrors(t *testing.T) {
	for _, row := range []struct {
		s    string
		want api.Errno
	}{
		{"\x02\x02\x00\x09\x00\x00\x00\x00\x02hi", api.OK},
		{"\x00\x02\x00\x09\x00\x00\x00\x00\x02hi", api.ErrKind},
		{"\x80\x02\x00\x09\x00\x00\x00\x00\x02hi", api.ErrKind},
		{"\x05\x02\x02\x09\xfb\x00\x00\x10\x02hi", api.ErrKind},
		{"\x05\x02\x00\x09\x00\x00\x00\x00\x01hi", api.ErrForm},
		{"\x02\x02\x00\x09\x00\x00\x00\x10\x03hi", api.ErrForm},
		{"\x02\x02\x00\x09\x00\x00\x00\x00\x00hi", api.ErrForm},
		{"\x02\x02\x00\x09\x00\x00\x00\x00\x0dhi", api.ErrForm},
		{"\x02\x02\x00\x09\x00\x00\x00\x00\x04hi", api.ErrForm},
		{"\x02\xff\x00\x09\x00\x00\x00\x00\x02hi", api.ErrRange},
		{"\x02\x02\xfb\x09\x00\x00\x00\x00\x02hi", api.ErrRange},
		{"\x02\x02\x00\xff\x00\x00\x00\x00\x02hi", api.ErrRange},
		{"\x02\x02\x00\x09\xfe\x00\x00\x00\x02hi", api.ErrRange},
		{"\x02\x02\x02\x09\x00\x00\x00\x10\x02hi", api.ErrRange},
		{"\x02\x02\x02\x09\x00\x00\x00\x00\x02hi", api.ErrForm},
		{"\x03\x02\x00\x09\x00\x00\x00\x00\x02hi", api.ErrForm},
		{"\x83\x02\xff\x09\x00\x00\x00\x00\x00", api.ErrForm},
		{"\x01\x02\xff\x09\x00\x00\x00\x00\x00", api.ErrForm},
		{"\x84\x02\x01\x09\xff\x00\x00\x00\x00", api.ErrForm},
		{"\x02\x02\x02\x09\x00\x00\x00\x00\x6e" + strings.Repeat("x", 110), api.ErrLimit},
		{"\x03\x02\xff\x09\x00\x00\x00\x00\xff" + strings.Repeat("x", 255), api.ErrLimit},
		{"\x02\x02\x00\x09\x00\x00\x00\x10\x6e" + strings.Repeat("x", 110), api.ErrRange},
		{"\x02\x02\x00\x09\x00\x00\x00\x00\x00" + strings.Repeat("x", 256), api.ErrForm},
		{"\x02\x02\x00\x09\x00\x00\x00\x00\x02" + strings.Repeat("x", 258), api.ErrForm},
	} {
		checkText(t, sealed(row.s))
		if _, err := frame.Decode(sealed(row.s)); err != row.want {
			t.Errorf("Decode of sealed %q: got %d, want %d", row.s, err, row.want)
		}
		// Without the right checksum, nothing else counts.
		s := []byte(sealed(row.s))
		s[len(s)-1] ^= 1
		checkDecode(t, string(s), api.Frame{}, api.ErrSum)
		s[len(s)-1] ^= 1
		s[len(s)-2] ^= 0x80
		checkDecode(t, string(s), api.Frame{}, api.ErrSum)
	}
}

// P9.3: the checksum has its more significant byte first.
func TestDecodeOfSwappedSums(t *testing.T) {
	for _, e := range examples() {
		end := len(e.s) - 2
		swapped := e.s[:end] + e.s[end+1:] + e.s[end:end+1]
		checkDecode(t, swapped, api.Frame{}, api.ErrSum)
		checkDecode(t, e.s[end:]+e.s[:end], api.Frame{}, api.ErrSum)
	}
}

// P9.3, P9.4: every value of each byte of a frame, under the right checksum.
func TestDecodeOfEveryByte(t *testing.T) {
	for _, f := range plain() {
		s, _ := encoded(f)
		for i := range len(s) - 2 {
			for n := range 256 {
				changed := []byte(s[:len(s)-2])
				changed[i] = byte(n)
				checkText(t, sealed(string(changed)))
			}
		}
	}
}

// P9.3, P9.4: frames with several changed bytes, mostly under the right checksum.
func TestDecodeOfChangedFrames(t *testing.T) {
	source := newSource()
	for range 20000 {
		s, err := encoded(randomFrame(source))
		if err != api.OK {
			continue
		}
		changed := []byte(s[:len(s)-2])
		for range source.IntN(4) {
			changed[source.IntN(9)] = byte(source.Uint32() >> source.IntN(8))
		}
		switch source.IntN(4) {
		case 0:
			checkText(t, string(changed))
		case 1:
			checkText(t, sealed(string(changed)+randomText(source, source.IntN(3))))
		default:
			checkText(t, sealed(string(changed)))
		}
	}
}

// P9.3: strings of any bytes and lengths.
func TestDecodeOfRandomTexts(t *testing.T) {
	source := newSource()
	for n := range 400 {
		for range 20 {
			s := randomText(source, n)
			checkText(t, s)
			checkText(t, sealed("\x02"+s))
		}
	}
}

// P9.3: the length byte cannot hold the length of a long string.
func TestDecodeOfLongTexts(t *testing.T) {
	long := "\x02\x02\x00\x09\x00\x00\x00\x00\x00" + strings.Repeat("\x00", 1<<20)
	checkDecode(t, sealed(long), api.Frame{}, api.ErrForm)
	checkDecode(t, long, api.Frame{}, api.ErrSum)
}

// changedAt returns a string with two bytes combined with those of n, from place i on.
func changedAt(s string, i, n int) string {
	b := []byte(s)
	b[i] ^= byte(n >> 8)
	if i+1 < len(b) {
		b[i+1] ^= byte(n)
	}
	return string(b)
}

// P9.5: all changes of one byte.
func TestChangesOfOneByte(t *testing.T) {
	for _, e := range examples() {
		for i := range e.s {
			for n := 1; n < 256; n++ {
				checkDecode(t, changedAt(e.s, i, n<<8), api.Frame{}, api.ErrSum)
			}
		}
	}
}

// P9.5: all changes of two adjacent bytes of short frames.
func TestChangesOfTwoBytes(t *testing.T) {
	for _, e := range examples() {
		if len(e.s) > 14 {
			continue
		}
		for i := range len(e.s) - 1 {
			for n := 1; n < 1<<16; n++ {
				checkDecode(t, changedAt(e.s, i, n), api.Frame{}, api.ErrSum)
			}
		}
	}
}

// P9.5: some changes of two adjacent bytes of frames of any length.
func TestSomeChangesOfTwoBytes(t *testing.T) {
	source := newSource()
	for range 2000 {
		s, err := encoded(randomFrame(source))
		if err != api.OK {
			continue
		}
		for i := range len(s) - 1 {
			checkDecode(t, changedAt(s, i, 1+source.IntN(1<<16-1)), api.Frame{}, api.ErrSum)
		}
	}
}

// P9.6: the first nine bytes of an encoding, and another length.
func TestOtherLengths(t *testing.T) {
	source := newSource()
	for _, e := range examples() {
		for n := range 400 {
			s := sealed(e.s[:9] + randomText(source, n))
			if n+least == len(e.s) {
				checkText(t, s)
				continue
			}
			checkDecode(t, s, api.Frame{}, api.ErrForm)
		}
		for n := 9; n < len(e.s)-2; n++ {
			checkDecode(t, sealed(e.s[:n]), api.Frame{}, api.ErrForm)
		}
		checkDecode(t, sealed(e.s), api.Frame{}, api.ErrForm)
	}
}

// R7
func TestCallsAreIndependent(t *testing.T) {
	source := newSource()
	for range 500 {
		f, other := randomFrame(source), randomFrame(source)
		size, err := frame.Size(f), frame.Check(f)
		s, _ := frame.Encode(f)
		checkFrame(t, other)
		checkText(t, sealed("\x02"+other.Data))
		checkSize(t, f, size)
		checkEncode(t, f, s, err)
	}
}
