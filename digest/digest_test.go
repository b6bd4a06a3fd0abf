package digest_test

import (
	"encoding/binary"
	"hash/crc32"
	"hash/fnv"
	"math"
	"math/bits"
	"math/rand/v2"
	"strings"
	"testing"

	"homehub/api"
	"homehub/digest"
)

const fnvFactor = 1099511628211

// everyByte is the string of all bytes, in order.
func everyByte() string {
	b := make([]byte, 256)
	for i := range b {
		b[i] = byte(i)
	}
	return string(b)
}

// random returns some string of this length, the same in each run of the tests.
func random(source *rand.Rand, length int) string {
	b := make([]byte, length)
	for i := range b {
		b[i] = byte(source.Uint32())
	}
	return string(b)
}

func newSource() *rand.Rand {
	return rand.New(rand.NewPCG(3, 16))
}

// texts are strings of all kinds: the empty one, one byte, every byte, long ones.
func texts() []string {
	all := everyByte()
	l := []string{"", all, "abc", "123456789", "z\u00e9\u4e16", "\xe4\xb8", strings.Repeat("long ", 50000)}
	for i := range len(all) {
		l = append(l, all[i:i+1])
	}
	for _, n := range []int{2, 3, 4, 5, 8, 16, 1000} {
		l = append(l, strings.Repeat("\x00", n), strings.Repeat("\xff", n), strings.Repeat("\x80", n))
	}
	source := newSource()
	for n := range 70 {
		l = append(l, random(source, n))
	}
	return append(l, random(source, 1<<17))
}

// keys are keys at both ends, keys with one bit, and keys whose bytes differ.
func keys() []uint64 {
	l := []uint64{0, 5, math.MaxUint64, math.MaxUint64 - 1, 0x0102030405060708, 0xfedcba9876543210}
	for bit := range 64 {
		l = append(l, 1<<bit)
	}
	return l
}

// xor returns the bytewise exclusive or of strings of equal length.
func xor(a, b string) string {
	c := []byte(a)
	for i := range c {
		c[i] ^= b[i]
	}
	return string(c)
}

// remainder is the CRC-16 as the remainder of a division of polynomials: that
// of s and 16 zeros, whose first 16 bits are inverted, by 11021 (hexadecimal).
func remainder(s string) int {
	dividend := []byte(s + "\x00\x00")
	dividend[0] ^= 0xff
	dividend[1] ^= 0xff
	rest := 0
	for _, b := range dividend {
		for bit := 7; bit >= 0; bit-- {
			rest = rest<<1 | int(b)>>bit&1
			if rest >= 1<<16 {
				rest ^= 0x11021
			}
		}
	}
	return rest
}

// libraryHash is the hash of a string by the library.
func libraryHash(s string) uint64 {
	h := fnv.New64a()
	h.Write([]byte(s))
	return h.Sum64()
}

// libraryMac is the keyed checksum as it is defined, by the library's hash.
func libraryMac(key uint64, s string) int {
	k := string(binary.BigEndian.AppendUint64(nil, key))
	return int(libraryHash(k+s+k) / (1 << 32))
}

// libraryMark are the four bytes behind a sealed string.
func libraryMark(key uint64, s string) string {
	return string(binary.BigEndian.AppendUint32(nil, uint32(libraryMac(key, s))))
}

// short returns a text for a message.
func short(s string) string {
	return s[:min(len(s), 40)]
}

func checkOpen(t *testing.T, key uint64, s, want string, err api.Errno) {
	t.Helper()
	if text, e := digest.Open(key, s); text != want || e != err {
		t.Errorf("Open(%x, %q of %d): got %q, %d; want %q, %d", key, short(s), len(s), short(text), e, short(want), err)
	}
}

// P3.1
func TestChecksExamples(t *testing.T) {
	for _, c := range []struct {
		s           string
		short, long int
		hash        uint64
	}{
		{"", 65535, 0, 14695981039346656037},
		{"123456789", 10673, 3421780262, 0x06d5573923c6cdfc},
		{"a", 0x9d77, 0xe8b7be43, 12638187200555641996},
		{"A", 0xb915, 0xd3d99e8b, 0xaf63fc4c860222ec},
		{"foobar", 0xbe35, 0x9ef61f95, 0x85944171f73967e8},
		{"\x00", 0xe1f0, 0xd202ef8d, 0xaf63bd4c8601b7df},
		{"\xff", 0xff00, 0xff000000, 0xaf64724c8602eb6e},
		{"\xff\xff", 0, 0xffff0000, 0x0a99c907b6f64763},
		{"\xff\xff\xff\xff", 0x1d0f, 0xffffffff, 0x994f76653e2a3951},
		{"\x00\x00\x00\x00", 0x84c0, 0x2144df1c, 0x4d25767f9dce13f5},
		{everyByte(), 0x3fbd, 0x29058c73, 0x4242dc5249c33625},
	} {
		if n := digest.Crc16(c.s); n != c.short {
			t.Errorf("Crc16(%q): got %x, want %x", c.s, n, c.short)
		}
		if n := digest.Crc32(c.s); n != c.long {
			t.Errorf("Crc32(%q): got %x, want %x", c.s, n, c.long)
		}
		if h := digest.Fnv(c.s); h != c.hash {
			t.Errorf("Fnv(%q): got %x, want %x", c.s, h, c.hash)
		}
	}
}

// P3.1
func TestChecksOfAllKindsOfTexts(t *testing.T) {
	for _, s := range texts() {
		if n, want := digest.Crc16(s), remainder(s); n != want {
			t.Errorf("Crc16(%q of %d): got %x, want %x", short(s), len(s), n, want)
		}
		if n, want := digest.Crc32(s), int(crc32.ChecksumIEEE([]byte(s))); n != want {
			t.Errorf("Crc32(%q of %d): got %x, want %x", short(s), len(s), n, want)
		}
		if h, want := digest.Fnv(s), libraryHash(s); h != want {
			t.Errorf("Fnv(%q of %d): got %x, want %x", short(s), len(s), h, want)
		}
	}
}

// P3.1: all strings of two bytes.
func TestChecksOfPairs(t *testing.T) {
	for n := range 1 << 16 {
		s := string([]byte{byte(n >> 8), byte(n)})
		if digest.Crc16(s) != remainder(s) || digest.Crc32(s) != int(crc32.ChecksumIEEE([]byte(s))) || digest.Fnv(s) != libraryHash(s) {
			t.Errorf("%q: %x, %x, %x", s, digest.Crc16(s), digest.Crc32(s), digest.Fnv(s))
		}
	}
}

// P3.2
func TestMacExamples(t *testing.T) {
	for _, c := range []struct {
		key  uint64
		s    string
		want int
	}{
		{0, "", 0x88201fb9}, {0, "x", 0xb2a7a213}, {0, "abc", 0x2921994b}, {0, everyByte(), 0x08dc3c2d},
		{5, "", 0xa70c79e5}, {5, "x", 0x376dfa01}, {5, "abc", 0x08a4832a},
		{1, "x", 0xe1e28527}, {1 << 32, "x", 0xe34fad08}, {1 << 63, "x", 0xa0e619c4},
		{0x0102030405060708, "", 0xd0763764}, {0x0102030405060708, "x", 0xe6bea3dd},
		{math.MaxUint64, "", 0xd6607508}, {math.MaxUint64, "x", 0x887130ad}, {math.MaxUint64, everyByte(), 0x31104c2b},
		{math.MaxUint64 - 1, "x", 0x01638e49},
	} {
		if n := digest.Mac(c.key, c.s); n != c.want {
			t.Errorf("Mac(%x, %q): got %x, want %x", c.key, c.s, n, c.want)
		}
	}
}

// P3.2
func TestSealExamples(t *testing.T) {
	for _, c := range []struct {
		key     uint64
		s, want string
	}{
		{5, "x", "x\x37\x6d\xfa\x01"}, {5, "", "\xa7\x0c\x79\xe5"}, {5, "abc", "abc\x08\xa4\x83\x2a"},
		{0, "", "\x88\x20\x1f\xb9"}, {math.MaxUint64, "x", "x\x88\x71\x30\xad"},
		{math.MaxUint64 - 1, "x", "x\x01\x63\x8e\x49"},
	} {
		if s := digest.Seal(c.key, c.s); s != c.want {
			t.Errorf("Seal(%x, %q): got %q, want %q", c.key, c.s, s, c.want)
		}
		checkOpen(t, c.key, c.want, c.s, api.OK)
	}
}

// P3.2, P3.3
func TestSealAndOpen(t *testing.T) {
	for _, s := range texts() {
		for _, key := range keys() {
			if len(s) > 1000 && key < math.MaxUint64 {
				continue
			}
			if n, want := digest.Mac(key, s), libraryMac(key, s); n != want {
				t.Errorf("Mac(%x, %q of %d): got %x, want %x", key, short(s), len(s), n, want)
			}
			sealed := s + libraryMark(key, s)
			if got := digest.Seal(key, s); got != sealed {
				t.Errorf("Seal(%x, %q of %d): got %q", key, short(s), len(s), short(got))
			}
			checkOpen(t, key, sealed, s, api.OK)
		}
	}
}

// P3.2: ErrShort comes before ErrSum, whatever the bytes are.
func TestOpenOfShortTexts(t *testing.T) {
	l := []string{"", "abc", "xyz", "\x00\x00\x00", "\xff\xff\xff"}
	for n := range 1 << 16 {
		l = append(l, string([]byte{byte(n >> 8), byte(n)}))
	}
	for n := range 1 << 8 {
		l = append(l, string([]byte{byte(n)}))
	}
	for _, s := range l {
		checkOpen(t, 5, s, "", api.ErrShort)
	}
	for _, key := range keys() {
		sealed := digest.Seal(key, "")
		if len(sealed) != 4 {
			t.Fatalf("Seal(%x, \"\"): %q", key, sealed)
		}
		for n := range 4 {
			checkOpen(t, key, sealed[:n], "", api.ErrShort)
			checkOpen(t, key, sealed[4-n:], "", api.ErrShort)
		}
		for _, s := range l[:5] {
			checkOpen(t, key, s, "", api.ErrShort)
		}
	}
}

// P3.2: four bytes are the seal of the empty string, or of nothing.
func TestOpenOfFourBytes(t *testing.T) {
	for _, key := range keys() {
		checkOpen(t, key, libraryMark(key, ""), "", api.OK)
		for _, s := range []string{"abcd", "\x00\x00\x00\x00", "\xff\xff\xff\xff", libraryMark(key, "x")} {
			checkOpen(t, key, s, "", api.ErrSum)
		}
	}
}

// P3.2
func TestOpenWithAWrongKey(t *testing.T) {
	for _, s := range []string{"", "x", "abc", everyByte()} {
		for _, key := range keys() {
			sealed := digest.Seal(key, s)
			for bit := range 64 {
				checkOpen(t, key^1<<bit, sealed, "", api.ErrSum)
			}
			checkOpen(t, ^key, sealed, "", api.ErrSum)
			checkOpen(t, key+1, sealed, "", api.ErrSum)
		}
	}
}

// P3.2: each byte of a sealed string, of the text and of the seal.
func TestOpenOfChangedTexts(t *testing.T) {
	for _, key := range []uint64{0, 5, 0x0102030405060708, math.MaxUint64} {
		for _, s := range []string{"", "x", "abc", "a longer text of some words", strings.Repeat("\x00", 20)} {
			sealed := digest.Seal(key, s)
			for at := range len(sealed) {
				for change := 1; change < 256; change++ {
					b := []byte(sealed)
					b[at] ^= byte(change)
					checkOpen(t, key, string(b), "", api.ErrSum)
				}
			}
		}
	}
}

// P3.2: bytes that are missing, moved or added.
func TestOpenOfCutTexts(t *testing.T) {
	const key = 0x0102030405060708
	sealed := digest.Seal(key, "abcdefgh")
	for n := range len(sealed) {
		err := api.ErrSum
		if n < 4 {
			err = api.ErrShort
		}
		checkOpen(t, key, sealed[:n], "", err)
		checkOpen(t, key, sealed[len(sealed)-n:], "", err)
	}
	checkOpen(t, key, sealed+"\x00", "", api.ErrSum)
	checkOpen(t, key, "\x00"+sealed, "", api.ErrSum)
	checkOpen(t, key, sealed[8:]+sealed[:8], "", api.ErrSum)
	checkOpen(t, key, sealed+sealed, "", api.ErrSum)
	checkOpen(t, key, digest.Seal(key, sealed), sealed, api.OK)
}

// P3.3: what Open accepts is what Seal returns, and nothing else.
func TestOneSealOfEachText(t *testing.T) {
	for _, key := range []uint64{0, 5, math.MaxUint64} {
		for _, s := range []string{"", "x", "ab"} {
			want := uint32(libraryMac(key, s))
			for n := range uint32(1 << 16) {
				// Each value of the upper half, and each one of the lower half.
				for _, sum := range []uint32{want ^ n, want ^ n<<16, want ^ n ^ n<<16} {
					sealed := s + string(binary.BigEndian.AppendUint32(nil, sum))
					if text, e := digest.Open(key, sealed); (e == api.OK) != (sum == want) || e == api.OK && text != s || e != api.OK && text != "" {
						t.Errorf("Open(%x, %q): %q, %d", key, sealed, text, e)
					}
				}
			}
			checkOpen(t, key, s+string(binary.LittleEndian.AppendUint32(nil, want)), "", api.ErrSum)
		}
	}
}

// P3.3
func TestOpenAcceptsOnlySeals(t *testing.T) {
	source := newSource()
	for range 20000 {
		key, s := source.Uint64(), random(source, source.IntN(12))
		text, e := digest.Open(key, s)
		if e == api.OK && digest.Seal(key, text) != s || e != api.OK && text != "" {
			t.Errorf("Open(%x, %q): %q, %d", key, s, text, e)
		}
		checkOpen(t, key, digest.Seal(key, s), s, api.OK)
	}
}

// P3.4
func TestLinearity(t *testing.T) {
	source := newSource()
	for n := range 300 {
		length := n % 100
		a, b, c := random(source, length), random(source, length), random(source, length)
		together := xor(xor(a, b), c)
		if digest.Crc16(together) != digest.Crc16(a)^digest.Crc16(b)^digest.Crc16(c) {
			t.Errorf("Crc16 of %q, %q and %q", a, b, c)
		}
		if digest.Crc32(together) != digest.Crc32(a)^digest.Crc32(b)^digest.Crc32(c) {
			t.Errorf("Crc32 of %q, %q and %q", a, b, c)
		}
	}
	long := []string{random(source, 5000), strings.Repeat("\x00", 5000), everyByte() + strings.Repeat("\xff", 4744)}
	together := xor(xor(long[0], long[1]), long[2])
	for _, check := range []func(string) int{digest.Crc16, digest.Crc32} {
		if check(together) != check(long[0])^check(long[1])^check(long[2]) {
			t.Error("linearity of long strings")
		}
	}
}

// changed returns s with the bytes from a position on changed by those of bytes.
func changed(s string, at int, bytes string) string {
	return s[:at] + xor(s[at:at+len(bytes)], bytes) + s[at+len(bytes):]
}

func burstTexts() []string {
	return []string{"abcd", "\x00\x00\x00\x00\x00", "\xff\xff\xff\xff\xff\xff", random(newSource(), 9), everyByte()[120:140]}
}

// P3.5: all changes of one byte and of two adjacent bytes, wherever they are.
func TestCrc16OfBursts(t *testing.T) {
	for _, s := range append(burstTexts(), "x", "xy") {
		sum := digest.Crc16(s)
		for at := range len(s) {
			for n := 1; n < 1<<8; n++ {
				if digest.Crc16(changed(s, at, string([]byte{byte(n)}))) == sum {
					t.Errorf("Crc16 of %q: byte %d changed by %x", s, at, n)
				}
			}
		}
		for at := range len(s) - 1 {
			for n := 1; n < 1<<16; n++ {
				if digest.Crc16(changed(s, at, string([]byte{byte(n >> 8), byte(n)}))) == sum {
					t.Errorf("Crc16 of %q: bytes from %d changed by %x", s, at, n)
				}
			}
		}
	}
}

// P3.5: changes of one to four adjacent bytes.
func TestCrc32OfBursts(t *testing.T) {
	source := newSource()
	for _, s := range append(burstTexts(), "x", "xy", "xyz") {
		sum := digest.Crc32(s)
		for size := 1; size <= min(4, len(s)); size++ {
			for at := range len(s) - size + 1 {
				for n := range 6000 {
					change := random(source, size)
					if n < 256 {
						change = strings.Repeat(string([]byte{byte(n)}), size)
					}
					other := changed(s, at, change)
					if (digest.Crc32(other) == sum) != (other == s) {
						t.Errorf("Crc32 of %q: bytes from %d changed by %x", s, at, change)
					}
				}
			}
		}
	}
}

// independent reports whether no exclusive or of some of these numbers is 0.
func independent(l []int) bool {
	var byTop [64]int
	for _, n := range l {
		for n != 0 && byTop[bits.Len(uint(n))] != 0 {
			n ^= byTop[bits.Len(uint(n))]
		}
		if n == 0 {
			return false
		}
		byTop[bits.Len(uint(n))] = n
	}
	return true
}

// P3.5: by linearity, every change within some adjacent bytes changes the
// checksum if the effects of their bits are independent. So this covers all
// changes of four bytes, which are too many to be tried.
func TestBitsOfBurstsAreIndependent(t *testing.T) {
	for _, c := range []struct {
		name  string
		check func(string) int
		size  int
	}{{"Crc16", digest.Crc16, 2}, {"Crc32", digest.Crc32, 4}} {
		for _, length := range []int{c.size, c.size + 1, 9, 120, 1000} {
			s := strings.Repeat("\x55", length)
			for at := range length - c.size + 1 {
				var effects []int
				for bit := range 8 * c.size {
					change := make([]byte, c.size)
					change[bit/8] = 1 << (bit % 8)
					effects = append(effects, c.check(s)^c.check(changed(s, at, string(change))))
				}
				if !independent(effects) {
					t.Errorf("%s of %d bytes: the bits from byte %d", c.name, length, at)
				}
			}
		}
	}
}

// P3.6
func TestFnvOfOneByteMore(t *testing.T) {
	if h := digest.Fnv(""); h != 14695981039346656037 {
		t.Errorf("Fnv of the empty string: %d", h)
	}
	all := everyByte()
	for _, s := range texts() {
		if len(s) > 1000 {
			continue
		}
		before := digest.Fnv(s)
		for i := range len(all) {
			if h, want := digest.Fnv(s+all[i:i+1]), (before^uint64(i))*fnvFactor; h != want {
				t.Errorf("Fnv of %q and the byte %x: got %x, want %x", short(s), i, h, want)
			}
		}
	}
}

// R7: the result of a call does not depend on the calls before it.
func TestCallsAreIndependent(t *testing.T) {
	for range 2 {
		digest.Open(7, "abcdefgh")
		digest.Open(7, "abc")
		checkOpen(t, 5, digest.Seal(5, "x"), "x", api.OK)
		if digest.Crc16("123456789") != 10673 || digest.Crc32("123456789") != 3421780262 || digest.Fnv("a") != 12638187200555641996 {
			t.Error("a result changed")
		}
		if digest.Seal(5, "x") != "x\x37\x6d\xfa\x01" {
			t.Error("a seal changed")
		}
	}
}
