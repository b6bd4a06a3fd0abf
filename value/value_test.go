package value_test

import (
	"encoding/binary"
	"fmt"
	"math"
	"math/rand/v2"
	"regexp"
	"slices"
	"strconv"
	"strings"
	"testing"

	"homehub/api"
	"homehub/value"
	"homehub/wire"
)

const lastNumber = 1099511627776

var (
	wholeName   = regexp.MustCompile(`\A[a-z][a-z0-9_\-]{0,23}\z`)
	wholeNumber = regexp.MustCompile(`\A(?:0|-?[1-9][0-9]{0,12})\z`)
	wholeMember = regexp.MustCompile(`\A#(?:[0-9]|[1-5][0-9]|6[0-3])\z`)
	wholeQuoted = regexp.MustCompile(`\A"(?:[ !#-\[\]-~]|\\["\\]|\\x(?:[01][0-9a-f]|7f|[89a-f][0-9a-f])){0,60}"\z`)
)

// The model of the checks.

// checked returns what Check returns.
func checked(v api.Value) api.Errno {
	kinds := []struct{ least, most, text int }{{0, 0, 0}, {0, 1, 0}, {-lastNumber, lastNumber, 0}, {0, 63, 0}, {0, 0, 60}}
	if v.Kind < 0 || v.Kind >= len(kinds) {
		return api.ErrKind
	}
	kind := kinds[v.Kind]
	switch {
	case v.N < kind.least || v.N > kind.most:
		return api.ErrRange
	case len(v.S) > 60:
		return api.ErrLimit
	case len(v.S) > kind.text:
		return api.ErrForm
	}
	return api.OK
}

// defined returns what Def returns.
func defined(a api.Attr) api.Errno {
	if !wholeName.MatchString(a.Name) {
		return api.ErrName
	}
	isZero := a.Min == 0 && a.Max == 0
	isRange := a.Min <= a.Max && a.Min >= -lastNumber && a.Max <= lastNumber
	switch a.Kind {
	case 2:
		if !isRange {
			return api.ErrRange
		}
	case 1, 3, 4:
		if !isZero {
			return api.ErrRange
		}
	default:
		return api.ErrKind
	}
	if a.Kind == 3 {
		return listed(a.Enum)
	}
	if len(a.Enum) != 0 {
		return api.ErrForm
	}
	return api.OK
}

// listed returns what Def returns for the members of an enumeration.
func listed(members []string) api.Errno {
	if len(members) < 1 || len(members) > 64 {
		return api.ErrLimit
	}
	seen := map[string]bool{}
	for _, member := range members {
		if !wholeName.MatchString(member) {
			return api.ErrName
		}
		if seen[member] {
			return api.ErrDup
		}
		seen[member] = true
	}
	return api.OK
}

// fitting returns what Fits returns.
func fitting(a api.Attr, v api.Value) api.Errno {
	if err := defined(a); err != api.OK {
		return err
	}
	if err := checked(v); err != api.OK {
		return err
	}
	least, most := map[int]int{2: a.Min}, map[int]int{1: 1, 2: a.Max, 3: len(a.Enum) - 1}
	switch {
	case v.Kind != a.Kind:
		return api.ErrType
	case v.N < least[a.Kind] || v.N > most[a.Kind]:
		return api.ErrRange
	}
	return api.OK
}

// initial returns what Zero returns.
func initial(a api.Attr) api.Value {
	switch {
	case defined(a) != api.OK:
		return api.Value{}
	case a.Min > 0:
		return api.Value{Kind: a.Kind, N: a.Min}
	case a.Max < 0:
		return api.Value{Kind: a.Kind, N: a.Max}
	}
	return api.Value{Kind: a.Kind}
}

// limited returns what Limit returns.
func limited(a api.Attr, v api.Value) api.Value {
	if defined(a) == api.OK && a.Kind == 2 && v.Kind == 2 {
		return api.Value{Kind: 2, N: min(max(v.N, a.Min), a.Max), S: v.S}
	}
	return v
}

// less returns what Less returns.
func less(a, b api.Value) bool {
	if a.Kind != b.Kind {
		return a.Kind < b.Kind
	}
	if a.N != b.N {
		return a.N < b.N
	}
	for i := range min(len(a.S), len(b.S)) {
		if a.S[i] != b.S[i] {
			return a.S[i] < b.S[i]
		}
	}
	return len(a.S) < len(b.S)
}

// The model of encodings: the numbers of the standard library.

func number(n int) string {
	return string(binary.AppendVarint(nil, int64(n)))
}

// encoded returns what Put returns.
func encoded(v api.Value) string {
	switch {
	case checked(v) != api.OK:
		return "\x00"
	case v.Kind == 0:
		return "\x00"
	case v.Kind == 4:
		return "\x08" + number(len(v.S)) + v.S
	}
	return number(v.Kind) + number(v.N)
}

// readNumber returns the number that a string begins with, what follows it, and the
// error.
func readNumber(s string) (int, string, api.Errno) {
	for i := range len(s) {
		switch {
		case i > 0 && s[i] == 0, i == 9 && s[i] > 1:
			return 0, "", api.ErrForm
		case s[i] < 128:
			n, _ := binary.Varint([]byte(s))
			return int(n), s[i+1:], api.OK
		}
	}
	return 0, "", api.ErrShort
}

// readText returns the text of at most 60 bytes that a string begins with, what
// follows it, and the error.
func readText(s string) (string, string, api.Errno) {
	length, rest, err := readNumber(s)
	switch {
	case err != api.OK:
		return "", "", err
	case length < 0:
		return "", "", api.ErrForm
	case length > 60:
		return "", "", api.ErrLimit
	case length > len(rest):
		return "", "", api.ErrShort
	}
	return rest[:length], rest[length:], api.OK
}

// taken returns what Take returns for a string, what is left, and the error.
func taken(s string) (api.Value, string, api.Errno) {
	v := api.Value{}
	kind, rest, err := readNumber(s)
	v.Kind = kind
	switch {
	case err != api.OK:
	case kind == 1, kind == 2, kind == 3:
		v.N, rest, err = readNumber(rest)
	case kind == 4:
		v.S, rest, err = readText(rest)
	}
	if err == api.OK && checked(v) != api.OK {
		err = api.ErrForm
	}
	if err != api.OK {
		return api.Value{}, "", err
	}
	return v, rest, api.OK
}

// decoded returns what Decode returns.
func decoded(s string) (api.Value, api.Errno) {
	v, rest, err := taken(s)
	if err == api.OK && rest != "" {
		return api.Value{}, api.ErrTail
	}
	return v, err
}

// The model of texts.

// printed returns what Print returns.
func printed(v api.Value) string {
	if checked(v) != api.OK {
		return ""
	}
	switch v.Kind {
	case 1:
		return strconv.FormatBool(v.N == 1)
	case 2:
		return strconv.Itoa(v.N)
	case 3:
		return "#" + strconv.Itoa(v.N)
	case 4:
		return quoted(v.S)
	}
	return "none"
}

// quoted is the quoted form of a string.
func quoted(s string) string {
	form := `"`
	for _, b := range []byte(s) {
		switch {
		case b == '"' || b == '\\':
			form += `\` + string(rune(b))
		case b < 32 || b > 126:
			form += fmt.Sprintf(`\x%02x`, b)
		default:
			form += string(rune(b))
		}
	}
	return form + `"`
}

// parsed returns what Parse returns.
func parsed(s string) (api.Value, api.Errno) {
	switch {
	case s == "none":
		return api.Value{}, api.OK
	case s == "false":
		return api.Value{Kind: 1}, api.OK
	case s == "true":
		return api.Value{Kind: 1, N: 1}, api.OK
	case wholeMember.MatchString(s):
		n, _ := strconv.Atoi(s[1:])
		return api.Value{Kind: 3, N: n}, api.OK
	case wholeQuoted.MatchString(s):
		return api.Value{Kind: 4, S: unquoted(s)}, api.OK
	case wholeNumber.MatchString(s):
		n, _ := strconv.Atoi(s)
		if n >= -lastNumber && n <= lastNumber {
			return api.Value{Kind: 2, N: n}, api.OK
		}
	}
	return api.Value{}, api.ErrForm
}

// unquoted is the string with a quoted form.
func unquoted(form string) string {
	s := ""
	for form = form[1 : len(form)-1]; form != ""; {
		size := 1
		switch {
		case strings.HasPrefix(form, `\x`):
			size = 4
			n, _ := strconv.ParseUint(form[2:4], 16, 8)
			s += string([]byte{byte(n)})
		case form[0] == '\\':
			size = 2
			s += form[1:2]
		default:
			s += form[:1]
		}
		form = form[size:]
	}
	return s
}

// The first difference ends a test, as some of them compare very many values.

func checkCheck(t *testing.T, v api.Value, want api.Errno) {
	t.Helper()
	if got := value.Check(v); got != want {
		t.Fatalf("Check(%#v): got %d, want %d", v, got, want)
	}
}

func checkDef(t *testing.T, a api.Attr, want api.Errno) {
	t.Helper()
	if got := value.Def(a); got != want {
		t.Fatalf("Def(%#v): got %d, want %d", a, got, want)
	}
}

func checkFits(t *testing.T, a api.Attr, v api.Value, want api.Errno) {
	t.Helper()
	if got := value.Fits(a, v); got != want {
		t.Fatalf("Fits(%#v, %#v): got %d, want %d", a, v, got, want)
	}
}

func checkZero(t *testing.T, a api.Attr, want api.Value) {
	t.Helper()
	if got := value.Zero(a); got != want {
		t.Fatalf("Zero(%#v): got %#v, want %#v", a, got, want)
	}
}

func checkLimit(t *testing.T, a api.Attr, v, want api.Value) {
	t.Helper()
	if got := value.Limit(a, v); got != want {
		t.Fatalf("Limit(%#v, %#v): got %#v, want %#v", a, v, got, want)
	}
}

func checkLess(t *testing.T, a, b api.Value, want bool) {
	t.Helper()
	if got := value.Less(a, b); got != want {
		t.Fatalf("Less(%#v, %#v): got %t, want %t", a, b, got, want)
	}
}

func checkPut(t *testing.T, v api.Value, want string) {
	t.Helper()
	if got := value.Put(v); got != want {
		t.Fatalf("Put(%#v): got %q, want %q", v, got, want)
	}
}

// checkTake checks what Take returns for a reader, and the reader's error after it.
func checkTake(t *testing.T, r *wire.Reader, want api.Value, wantErr api.Errno) {
	t.Helper()
	if got := value.Take(r); got != want || r.Err() != wantErr {
		t.Fatalf("Take: got %#v, %d, want %#v, %d", got, r.Err(), want, wantErr)
	}
}

func checkDecode(t *testing.T, s string, want api.Value, wantErr api.Errno) {
	t.Helper()
	if got, err := value.Decode(s); got != want || err != wantErr {
		t.Fatalf("Decode(%q): got %#v, %d, want %#v, %d", s, got, err, want, wantErr)
	}
}

func checkPrint(t *testing.T, v api.Value, want string) {
	t.Helper()
	if got := value.Print(v); got != want {
		t.Fatalf("Print(%#v): got %q, want %q", v, got, want)
	}
}

func checkParse(t *testing.T, s string, want api.Value, wantErr api.Errno) {
	t.Helper()
	if got, err := value.Parse(s); got != want || err != wantErr {
		t.Fatalf("Parse(%q): got %#v, %d, want %#v, %d", s, got, err, want, wantErr)
	}
}

// checkAttr compares the functions of an attribute with their models. Its flags
// change nothing, and its list of members stays.
func checkAttr(t *testing.T, a api.Attr, values ...api.Value) {
	t.Helper()
	before := slices.Clone(a.Enum)
	for range 2 {
		checkDef(t, a, defined(a))
		checkZero(t, a, initial(a))
		for _, v := range values {
			checkFits(t, a, v, fitting(a, v))
			checkLimit(t, a, v, limited(a, v))
		}
		a.Writable, a.Safety = !a.Writable, a.Writable
	}
	if !slices.Equal(a.Enum, before) {
		t.Fatalf("the members %q became %q", before, a.Enum)
	}
}

// checkValue compares the functions of a single value with their models, and what it
// is written as with what is read.
func checkValue(t *testing.T, v api.Value) {
	t.Helper()
	err := checked(v)
	checkCheck(t, v, err)
	checkPut(t, v, encoded(v))
	checkPrint(t, v, printed(v))
	if err != api.OK {
		return
	}
	checkDecode(t, value.Put(v), v, api.OK)
	checkParse(t, value.Print(v), v, api.OK)
}

// checkBytes compares Take and Decode with their models. What is decoded is encoded
// as it was.
func checkBytes(t *testing.T, s string) {
	t.Helper()
	want, rest, wantErr := taken(s)
	r := wire.New(s)
	checkTake(t, r, want, wantErr)
	if r.Left() != len(rest) {
		t.Fatalf("Take of %q: %d bytes are left, want %d", s, r.Left(), len(rest))
	}
	want, wantErr = decoded(s)
	checkDecode(t, s, want, wantErr)
	if wantErr == api.OK {
		checkCheck(t, want, api.OK)
		checkPut(t, want, s)
	}
}

// checkText compares Parse with its model. What is parsed is printed as it was.
func checkText(t *testing.T, s string) {
	t.Helper()
	want, wantErr := parsed(s)
	checkParse(t, s, want, wantErr)
	if wantErr == api.OK {
		checkCheck(t, want, api.OK)
		checkPrint(t, want, s)
	}
}

func boolean(n int) api.Value {
	return api.Value{Kind: api.VkBool, N: n}
}

func integer(n int) api.Value {
	return api.Value{Kind: api.VkInt, N: n}
}

func member(n int) api.Value {
	return api.Value{Kind: api.VkEnum, N: n}
}

func textual(s string) api.Value {
	return api.Value{Kind: api.VkText, S: s}
}

func integers(least, most int) api.Attr {
	return api.Attr{Name: "level", Kind: api.VkInt, Min: least, Max: most}
}

func enumeration(members ...string) api.Attr {
	return api.Attr{Name: "state", Kind: api.VkEnum, Enum: members}
}

// memberNames are so many different names.
func memberNames(count int) []string {
	var l []string
	for i := range count {
		l = append(l, "m"+strconv.Itoa(i))
	}
	return l
}

// everyByte is the string of all bytes, in order.
func everyByte() string {
	b := make([]byte, 256)
	for i := range b {
		b[i] = byte(i)
	}
	return string(b)
}

// farNumbers are numbers at the ends of booleans, members, integers and int.
func farNumbers() []int {
	return []int{
		math.MinInt, math.MinInt + 1, -1 << 62, -2 * lastNumber, -lastNumber - 2, -lastNumber - 1, -lastNumber, -lastNumber + 1,
		-1 << 32, -1000, -65, -64, -63, -10, -2, -1, 0, 1, 2, 3, 4, 5, 9, 10, 62, 63, 64, 65, 99, 100, 127, 128, 255, 256, 257, 1 << 32, 1<<32 + 1,
		lastNumber - 1, lastNumber, lastNumber + 1, lastNumber + 2, 2 * lastNumber, 1 << 62, math.MaxInt - 1, math.MaxInt,
	}
}

func farKinds() []int {
	return []int{math.MinInt, -lastNumber, -4, -3, -2, -1, 0, 1, 2, 3, 4, 5, 6, 8, 255, 256, 257, 1 << 32, 1<<32 + 2, math.MaxInt}
}

// someTexts are strings of all kinds of bytes, and of lengths around the limit.
func someTexts() []string {
	all := everyByte()
	return []string{
		"", "a", "b", "aa", "ab", "none", "true", "#1", "5", " ", `"`, `\`, `""`, `a"b`, "\n", "\x00", "\x00\x00", "\x1f", "~", "\x7f", "\x80", "\xff", "\xffa",
		"\u00e9", "\u4e16", "\U0001f600", "\ufffd", "\xe4\xb8", all[:60], all[60:120], all[120:180], all[180:240], all[196:], all[:61], all,
		strings.Repeat("x", 59), strings.Repeat("x", 60), strings.Repeat("x", 61), strings.Repeat("x", 62), strings.Repeat("\xff", 60),
		strings.Repeat("\u00e9", 30), strings.Repeat("\u00e9", 31), strings.Repeat(`"`, 60), strings.Repeat(`\`, 60), strings.Repeat("x", 64), strings.Repeat("x", 120), strings.Repeat("x", 5000),
	}
}

// someValues are values of all kinds, valid and not.
func someValues() []api.Value {
	var l []api.Value
	for _, kind := range farKinds() {
		for _, n := range farNumbers() {
			for _, s := range someTexts() {
				l = append(l, api.Value{Kind: kind, N: n, S: s})
			}
		}
	}
	return l
}

// fewValues are values of all kinds, valid and not, some for each reason.
func fewValues() []api.Value {
	var l []api.Value
	for _, kind := range []int{math.MinInt, -1, 0, 1, 2, 3, 4, 5} {
		for _, n := range []int{math.MinInt, -lastNumber - 1, -lastNumber, -6, -5, -4, -1, 0, 1, 2, 3, 4, 9, 10, 11, 62, 63, 64, lastNumber, lastNumber + 1, math.MaxInt} {
			for _, s := range []string{"", "x", strings.Repeat("x", 60), strings.Repeat("x", 61)} {
				l = append(l, api.Value{Kind: kind, N: n, S: s})
			}
		}
	}
	return l
}

func newSource() *rand.Rand {
	return rand.New(rand.NewPCG(20, 1))
}

// randomText returns some string of this length.
func randomText(source *rand.Rand, length int) string {
	b := make([]byte, length)
	for i := range b {
		b[i] = byte(source.Uint32())
	}
	return string(b)
}

// randomValue returns some valid value.
func randomValue(source *rand.Rand) api.Value {
	switch source.IntN(12) {
	case 0:
		return api.Value{}
	case 1:
		return boolean(source.IntN(2))
	case 2, 3:
		return member(source.IntN(64))
	case 4, 5, 6, 7:
		return integer((source.IntN(2*lastNumber+1) - lastNumber) >> source.IntN(41))
	}
	return textual(randomText(source, source.IntN(61)))
}

// The chapter's examples: P20.2, P20.3, P20.4, P20.5, P20.7, P20.9.
func TestExamples(t *testing.T) {
	level := integers(10, 100)
	checkDef(t, level, api.OK)
	checkZero(t, level, integer(10))
	checkLimit(t, level, integer(200), integer(100))
	checkFits(t, level, integer(9), api.ErrRange)
	checkFits(t, level, boolean(1), api.ErrType)
	checkPut(t, integer(5), "\x04\x0a")
	checkPrint(t, member(2), "#2")
	checkPrint(t, textual(`a"b`), `"a\"b"`)
	for _, s := range []string{"#64", "01", "-0", `"a`} {
		checkParse(t, s, api.Value{}, api.ErrForm)
	}
}

// P20.1
func TestCheck(t *testing.T) {
	sixty, more := strings.Repeat("x", 60), strings.Repeat("x", 61)
	for _, row := range []struct {
		v    api.Value
		want api.Errno
	}{
		{api.Value{}, api.OK},
		{boolean(0), api.OK},
		{boolean(1), api.OK},
		{integer(0), api.OK},
		{integer(-5), api.OK},
		{integer(lastNumber), api.OK},
		{integer(-lastNumber), api.OK},
		{member(0), api.OK},
		{member(63), api.OK},
		{textual(""), api.OK},
		{textual("none"), api.OK},
		{textual(sixty), api.OK},
		{textual("\x00\xff\n"), api.OK},
		{textual(everyByte()[196:]), api.OK},
		// A kind that is none comes before all other errors.
		{api.Value{Kind: -1}, api.ErrKind},
		{api.Value{Kind: 5}, api.ErrKind},
		{api.Value{Kind: math.MinInt}, api.ErrKind},
		{api.Value{Kind: math.MaxInt}, api.ErrKind},
		{api.Value{Kind: 5, N: 1}, api.ErrKind},
		{api.Value{Kind: -1, N: math.MaxInt, S: more}, api.ErrKind},
		{api.Value{Kind: 5, S: "x"}, api.ErrKind},
		// A number out of range comes before a text that is too long or not empty.
		{api.Value{N: 1}, api.ErrRange},
		{api.Value{N: -1, S: "x"}, api.ErrRange},
		{boolean(2), api.ErrRange},
		{boolean(-1), api.ErrRange},
		{api.Value{Kind: api.VkBool, N: 2, S: more}, api.ErrRange},
		{integer(lastNumber + 1), api.ErrRange},
		{integer(-lastNumber - 1), api.ErrRange},
		{integer(math.MaxInt), api.ErrRange},
		{integer(math.MinInt), api.ErrRange},
		{api.Value{Kind: api.VkInt, N: math.MinInt, S: more}, api.ErrRange},
		{member(64), api.ErrRange},
		{member(-1), api.ErrRange},
		{api.Value{Kind: api.VkEnum, N: 64, S: "x"}, api.ErrRange},
		{api.Value{Kind: api.VkText, N: 1}, api.ErrRange},
		{api.Value{Kind: api.VkText, N: -1, S: "x"}, api.ErrRange},
		{api.Value{Kind: api.VkText, N: 1, S: more}, api.ErrRange},
		// A text that is too long is so for all kinds.
		{textual(more), api.ErrLimit},
		{api.Value{S: more}, api.ErrLimit},
		{api.Value{Kind: api.VkBool, N: 1, S: more}, api.ErrLimit},
		{api.Value{Kind: api.VkInt, S: more}, api.ErrLimit},
		{api.Value{Kind: api.VkEnum, N: 3, S: more}, api.ErrLimit},
		{textual(strings.Repeat("\u00e9", 31)), api.ErrLimit},
		// A text where there can be none.
		{api.Value{S: "x"}, api.ErrForm},
		{api.Value{S: sixty}, api.ErrForm},
		{api.Value{Kind: api.VkBool, S: "\x00"}, api.ErrForm},
		{api.Value{Kind: api.VkInt, N: 5, S: "x"}, api.ErrForm},
		{api.Value{Kind: api.VkEnum, S: sixty}, api.ErrForm},
	} {
		checkCheck(t, row.v, row.want)
		checkValue(t, row.v)
	}
}

// P20.1, P20.7, P20.9, P20.10: fields at and beyond their ends, in every combination.
func TestAllKindsOfValues(t *testing.T) {
	for _, v := range someValues() {
		checkValue(t, v)
	}
}

// P20.2
func TestDef(t *testing.T) {
	longName := strings.Repeat("n", 24)
	for _, row := range []struct {
		a    api.Attr
		want api.Errno
	}{
		{api.Attr{Name: "a", Kind: api.VkBool}, api.OK},
		{api.Attr{Name: longName, Kind: api.VkText}, api.OK},
		{api.Attr{Name: "on-off_2", Kind: api.VkBool, Writable: true, Safety: true}, api.OK},
		{api.Attr{Name: "a", Kind: api.VkBool, Enum: []string{}}, api.OK},
		{integers(0, 0), api.OK},
		{integers(10, 100), api.OK},
		{integers(-5, -5), api.OK},
		{integers(-lastNumber, lastNumber), api.OK},
		{integers(lastNumber, lastNumber), api.OK},
		{integers(-lastNumber, -lastNumber), api.OK},
		{enumeration("a"), api.OK},
		{enumeration("on", "off", "state"), api.OK},
		{enumeration(memberNames(64)...), api.OK},
		{enumeration(longName, longName[1:]), api.OK},
		// A name that is none comes before all other errors.
		{api.Attr{}, api.ErrName},
		{api.Attr{Kind: api.VkBool}, api.ErrName},
		{api.Attr{Name: "A", Kind: api.VkBool}, api.ErrName},
		{api.Attr{Name: "1a", Kind: api.VkBool}, api.ErrName},
		{api.Attr{Name: "a b", Kind: api.VkBool}, api.ErrName},
		{api.Attr{Name: longName + "n", Kind: api.VkBool}, api.ErrName},
		{api.Attr{Name: "\u00e9", Kind: 9, Min: 1, Enum: []string{""}}, api.ErrName},
		{api.Attr{Kind: api.VkInt, Min: 2, Max: 1}, api.ErrName},
		{api.Attr{Kind: api.VkEnum}, api.ErrName},
		// A kind that is none comes before bounds and members.
		{api.Attr{Name: "a"}, api.ErrKind},
		{api.Attr{Name: "a", Kind: -1}, api.ErrKind},
		{api.Attr{Name: "a", Kind: 5}, api.ErrKind},
		{api.Attr{Name: "a", Kind: math.MinInt}, api.ErrKind},
		{api.Attr{Name: "a", Kind: math.MaxInt}, api.ErrKind},
		{api.Attr{Name: "a", Min: 1}, api.ErrKind},
		{api.Attr{Name: "a", Kind: 5, Max: 1, Enum: []string{"a"}}, api.ErrKind},
		{api.Attr{Name: "a", Enum: []string{"a"}}, api.ErrKind},
		// Bounds come before members.
		{integers(2, 1), api.ErrRange},
		{integers(0, -1), api.ErrRange},
		{integers(-lastNumber-1, 0), api.ErrRange},
		{integers(0, lastNumber+1), api.ErrRange},
		{integers(lastNumber+1, lastNumber+1), api.ErrRange},
		{integers(-lastNumber-1, -lastNumber-1), api.ErrRange},
		{integers(lastNumber, -lastNumber), api.ErrRange},
		{integers(math.MinInt, math.MaxInt), api.ErrRange},
		{integers(math.MaxInt, math.MinInt), api.ErrRange},
		{api.Attr{Name: "a", Kind: api.VkInt, Max: -1, Enum: []string{"a"}}, api.ErrRange},
		{api.Attr{Name: "a", Kind: api.VkBool, Max: 1}, api.ErrRange},
		{api.Attr{Name: "a", Kind: api.VkBool, Min: -1}, api.ErrRange},
		{api.Attr{Name: "a", Kind: api.VkText, Max: 60}, api.ErrRange},
		{api.Attr{Name: "a", Kind: api.VkText, Min: -1, Max: 1, Enum: []string{"a"}}, api.ErrRange},
		{api.Attr{Name: "a", Kind: api.VkEnum, Max: 1}, api.ErrRange},
		{api.Attr{Name: "a", Kind: api.VkEnum, Min: 1, Enum: []string{"a", "b"}}, api.ErrRange},
		{api.Attr{Name: "a", Kind: api.VkEnum, Max: 1, Enum: []string{"a", ""}}, api.ErrRange},
		// The number of members comes before their names.
		{enumeration(), api.ErrLimit},
		{enumeration(memberNames(65)...), api.ErrLimit},
		{enumeration(make([]string, 65)...), api.ErrLimit},
		{enumeration(make([]string, 1<<20)...), api.ErrLimit},
		// Members are taken one by one.
		{enumeration(""), api.ErrName},
		{enumeration(make([]string, 64)...), api.ErrName},
		{enumeration("a", "A"), api.ErrName},
		{enumeration("a", longName+"n"), api.ErrName},
		{enumeration(append(memberNames(63), "a b")...), api.ErrName},
		{enumeration("a", "", "a"), api.ErrName},
		{enumeration("", "", "a"), api.ErrName},
		{enumeration("a", "a"), api.ErrDup},
		{enumeration("a", "b", "a"), api.ErrDup},
		{enumeration("a", "b", "b"), api.ErrDup},
		{enumeration("a", "a", ""), api.ErrDup},
		{enumeration(append(memberNames(63), "m0")...), api.ErrDup},
		{enumeration(append(memberNames(63), "m62")...), api.ErrDup},
		// Members where there can be none, whatever they are.
		{api.Attr{Name: "a", Kind: api.VkBool, Enum: []string{"a"}}, api.ErrForm},
		{api.Attr{Name: "a", Kind: api.VkText, Enum: []string{""}}, api.ErrForm},
		{api.Attr{Name: "a", Kind: api.VkText, Enum: []string{"a", "a"}}, api.ErrForm},
		{api.Attr{Name: "a", Kind: api.VkInt, Max: 5, Enum: []string{"a"}}, api.ErrForm},
		{api.Attr{Name: "a", Kind: api.VkBool, Enum: make([]string, 65)}, api.ErrForm},
	} {
		checkDef(t, row.a, row.want)
		checkAttr(t, row.a, fewValues()...)
	}
}

// P20.2, P20.3, P20.4, P20.5: fields at and beyond their ends, in every combination.
func TestAllKindsOfAttributes(t *testing.T) {
	values := []api.Value{{}, boolean(1), boolean(2), integer(0), integer(-5), integer(math.MaxInt), member(0), member(2), textual("a"), {Kind: 7}, {Kind: api.VkInt, S: "a"}}
	lists := [][]string{nil, {}, {"a"}, {"a", "b"}, {"a", "a"}, {""}, {"a", "B"}, memberNames(64), memberNames(65)}
	for _, name := range []string{"a", "", "A", strings.Repeat("a", 25)} {
		for _, kind := range farKinds() {
			for _, least := range []int{math.MinInt, -lastNumber - 1, -lastNumber, -1, 0, 1, lastNumber, lastNumber + 1, math.MaxInt} {
				for _, most := range []int{math.MinInt, -lastNumber - 1, -lastNumber, -1, 0, 1, lastNumber, lastNumber + 1, math.MaxInt} {
					for _, members := range lists {
						checkAttr(t, api.Attr{Name: name, Kind: kind, Min: least, Max: most, Enum: members}, values...)
					}
				}
			}
		}
	}
}

// P20.2: lists of up to four members of a few kinds, in every order.
func TestDefOfAllKindsOfMembers(t *testing.T) {
	lists := [][]string{nil}
	for from, round := 0, 0; round < 4; round++ {
		to := len(lists)
		for ; from < to; from++ {
			for _, name := range []string{"a", "b", "ab", "", "a "} {
				lists = append(lists, append(slices.Clone(lists[from]), name))
			}
		}
	}
	for _, members := range lists {
		checkAttr(t, enumeration(members...), member(0), member(len(members)-1), member(len(members)))
		checkAttr(t, api.Attr{Name: "a", Kind: api.VkBool, Enum: members}, boolean(0))
	}
	for count := range 70 {
		checkAttr(t, enumeration(memberNames(count)...), member(0), member(count-1), member(count), member(63))
		for at := range min(count, 64) {
			members := memberNames(count)
			members[at] = "m" + strconv.Itoa(count/2)
			checkAttr(t, enumeration(members...), member(0))
		}
	}
}

// P20.3
func TestFits(t *testing.T) {
	level, state := integers(10, 100), enumeration("off", "on")
	flag, label := api.Attr{Name: "flag", Kind: api.VkBool}, api.Attr{Name: "label", Kind: api.VkText}
	for _, row := range []struct {
		a    api.Attr
		v    api.Value
		want api.Errno
	}{
		{level, integer(10), api.OK},
		{level, integer(55), api.OK},
		{level, integer(100), api.OK},
		{integers(-lastNumber, lastNumber), integer(-lastNumber), api.OK},
		{integers(-lastNumber, lastNumber), integer(lastNumber), api.OK},
		{state, member(0), api.OK},
		{state, member(1), api.OK},
		{enumeration(memberNames(64)...), member(63), api.OK},
		{flag, boolean(0), api.OK},
		{flag, boolean(1), api.OK},
		{label, textual(""), api.OK},
		{label, textual(strings.Repeat("\xff", 60)), api.OK},
		// The attribute comes first.
		{api.Attr{}, api.Value{Kind: 7}, api.ErrName},
		{api.Attr{Name: "a"}, api.Value{}, api.ErrKind},
		{integers(2, 1), api.Value{N: 1}, api.ErrRange},
		{enumeration(), member(64), api.ErrLimit},
		{enumeration("a", "a"), api.Value{Kind: 7}, api.ErrDup},
		{api.Attr{Name: "a", Kind: api.VkBool, Enum: []string{"a"}}, boolean(2), api.ErrForm},
		// Then the value.
		{level, api.Value{Kind: 7}, api.ErrKind},
		{level, boolean(2), api.ErrRange},
		{flag, integer(lastNumber + 1), api.ErrRange},
		{state, textual(strings.Repeat("x", 61)), api.ErrLimit},
		{label, api.Value{Kind: api.VkInt, S: "x"}, api.ErrForm},
		{level, api.Value{Kind: api.VkInt, N: 9, S: "x"}, api.ErrForm},
		// Then the kinds.
		{level, api.Value{}, api.ErrType},
		{level, boolean(1), api.ErrType},
		{level, member(9), api.ErrType},
		{level, textual("10"), api.ErrType},
		{state, integer(0), api.ErrType},
		{state, integer(2), api.ErrType},
		{state, boolean(1), api.ErrType},
		{flag, integer(1), api.ErrType},
		{flag, member(0), api.ErrType},
		{flag, api.Value{}, api.ErrType},
		{label, api.Value{}, api.ErrType},
		{label, boolean(0), api.ErrType},
		// Then the bounds.
		{level, integer(9), api.ErrRange},
		{level, integer(101), api.ErrRange},
		{level, integer(0), api.ErrRange},
		{level, integer(-lastNumber), api.ErrRange},
		{integers(-9, -3), integer(-10), api.ErrRange},
		{integers(-9, -3), integer(-2), api.ErrRange},
		{integers(0, 0), integer(1), api.ErrRange},
		{state, member(2), api.ErrRange},
		{state, member(63), api.ErrRange},
		{enumeration("a"), member(1), api.ErrRange},
		{enumeration(memberNames(63)...), member(63), api.ErrRange},
	} {
		checkFits(t, row.a, row.v, row.want)
		checkAttr(t, row.a, row.v)
	}
}

// P20.4, P20.5, P20.12
func TestZeroAndLimit(t *testing.T) {
	for _, row := range []struct {
		least, most, zero int
	}{
		{10, 100, 10}, {1, 1, 1}, {0, 5, 0}, {-5, 0, 0}, {-5, 5, 0}, {0, 0, 0}, {-9, -3, -3}, {-1, -1, -1}, {1, lastNumber, 1}, {-lastNumber, -1, -1},
		{-lastNumber, lastNumber, 0}, {lastNumber, lastNumber, lastNumber}, {-lastNumber, -lastNumber, -lastNumber},
	} {
		a := integers(row.least, row.most)
		checkZero(t, a, integer(row.zero))
		checkFits(t, a, integer(row.zero), api.OK)
		for _, n := range farNumbers() {
			for _, s := range []string{"", "x", strings.Repeat("x", 61)} {
				v := api.Value{Kind: api.VkInt, N: n, S: s}
				checkLimit(t, a, v, api.Value{Kind: api.VkInt, N: min(max(n, row.least), row.most), S: s})
			}
			for _, kind := range []int{-1, api.VkNone, api.VkBool, api.VkEnum, api.VkText, 5} {
				v := api.Value{Kind: kind, N: n, S: "x"}
				checkLimit(t, a, v, v)
			}
		}
	}
	checkZero(t, api.Attr{Name: "a", Kind: api.VkBool}, boolean(0))
	checkZero(t, api.Attr{Name: "a", Kind: api.VkText}, textual(""))
	checkZero(t, enumeration("off", "on"), member(0))
	for _, a := range []api.Attr{
		{}, {Name: "a"}, {Name: "a", Kind: 5}, {Kind: api.VkBool}, {Kind: api.VkText}, {Name: "A", Kind: api.VkEnum, Enum: []string{"a"}}, enumeration(), enumeration("a", "a"),
		{Kind: api.VkInt, Min: 10, Max: 20}, integers(2, 1), integers(5, lastNumber+1), integers(-lastNumber-1, -5), {Name: "a", Kind: api.VkInt, Min: 10, Max: 20, Enum: []string{"a"}},
	} {
		checkZero(t, a, api.Value{})
		for _, v := range fewValues() {
			checkLimit(t, a, v, v)
		}
	}
	for _, a := range []api.Attr{{Name: "a", Kind: api.VkBool}, {Name: "a", Kind: api.VkText}, enumeration("off", "on")} {
		checkFits(t, a, value.Zero(a), api.OK)
		for _, v := range fewValues() {
			checkLimit(t, a, v, v)
		}
	}
}

// P20.3, P20.4, P20.5, P20.12: all bounds and integers of a small range, with Fits
// alone as the measure.
func TestBoundsByThemselves(t *testing.T) {
	const far = 6
	distance := func(n, m int) int { return max(n-m, m-n) }
	for least := -far; least <= far; least++ {
		for most := least; most <= far; most++ {
			a := integers(least, most)
			for n := -far - 2; n <= far+2; n++ {
				v := integer(n)
				near := value.Limit(a, v)
				checkFits(t, a, near, api.OK)
				if value.Fits(a, v) == api.OK && near != v {
					t.Fatalf("Limit(%v, %d): got %v", a, n, near)
				}
				for m := -far - 2; m <= far+2; m++ {
					if value.Fits(a, integer(m)) != api.OK {
						continue
					}
					if distance(m, n) < distance(near.N, n) || n == 0 && distance(m, n) < distance(value.Zero(a).N, n) {
						t.Fatalf("Limit(%v, %d): got %v, but %d is nearer", a, n, near, m)
					}
				}
			}
			checkFits(t, a, value.Zero(a), api.OK)
			for n := -far - 2; n <= far+2; n++ {
				checkFits(t, a, integer(n), fitting(a, integer(n)))
			}
		}
	}
}

// P20.6
func TestLess(t *testing.T) {
	ascending := []api.Value{
		{Kind: math.MinInt, N: math.MaxInt, S: "z"}, {Kind: -1}, {N: math.MinInt, S: "z"}, {N: -1}, {}, {S: "a"}, {N: 1},
		{Kind: api.VkBool, N: -1, S: "x"}, boolean(0), {Kind: api.VkBool, S: "\x00"}, boolean(1), {Kind: api.VkBool, N: 2},
		integer(math.MinInt), integer(-lastNumber - 1), integer(-lastNumber), integer(-5), integer(-1), integer(0), integer(3), {Kind: api.VkInt, N: 3, S: "a"}, integer(4), integer(10), integer(lastNumber), integer(math.MaxInt),
		member(0), member(9), member(10), member(63), member(64),
		{Kind: api.VkText, N: -1, S: "z"}, textual(""), textual("\x00"), textual("\x00\x00"), textual("\x00a"), textual(" "), textual("10"), textual("9"), textual("A"), textual("Z"),
		textual("a"), textual("a\x00"), textual("aa"), textual("ab"), textual("b"), textual("z"), textual("\x7f"), textual("\x80"), textual("\u00e9"), textual("\xe4"), textual("\xff"), textual("\xff\x00"), {Kind: api.VkText, N: 1},
		{Kind: 5, N: math.MinInt}, {Kind: 5}, {Kind: 5, S: "a"}, {Kind: math.MaxInt, N: math.MinInt},
	}
	for i, a := range ascending {
		for k, b := range ascending {
			checkLess(t, a, b, i < k)
		}
	}
}

// P20.6, P20.11: fields at and beyond their ends, in every combination.
func TestOrder(t *testing.T) {
	l := fewValues()
	for _, s := range someTexts() {
		l = append(l, textual(s), api.Value{Kind: api.VkInt, S: s})
	}
	for _, a := range l {
		for _, b := range l {
			checkLess(t, a, b, less(a, b))
			if a != b && value.Less(a, b) == value.Less(b, a) {
				t.Fatalf("not exactly one of %#v and %#v precedes the other one", a, b)
			}
		}
		checkLess(t, a, a, false)
	}
	source := newSource()
	for range 200000 {
		a, b, c := l[source.IntN(len(l))], l[source.IntN(len(l))], l[source.IntN(len(l))]
		if value.Less(a, b) && value.Less(b, c) && !value.Less(a, c) {
			t.Fatalf("%#v, %#v and %#v are in no order", a, b, c)
		}
	}
}

// P20.7
func TestPut(t *testing.T) {
	for _, row := range []struct {
		v    api.Value
		want string
	}{
		{api.Value{}, "\x00"},
		{boolean(0), "\x02\x00"},
		{boolean(1), "\x02\x02"},
		{integer(0), "\x04\x00"},
		{integer(5), "\x04\x0a"},
		{integer(-1), "\x04\x01"},
		{integer(64), "\x04\x80\x01"},
		{integer(lastNumber), "\x04\x80\x80\x80\x80\x80\x40"},
		{integer(-lastNumber), "\x04\xff\xff\xff\xff\xff\x3f"},
		{member(0), "\x06\x00"},
		{member(63), "\x06\x7e"},
		{textual(""), "\x08\x00"},
		{textual("ab"), "\x08\x04ab"},
		{textual("\x00\xff\""), "\x08\x06\x00\xff\""},
		{textual(strings.Repeat("x", 60)), "\x08\x78" + strings.Repeat("x", 60)},
		// What Check rejects counts as the zero value.
		{api.Value{Kind: 5}, "\x00"},
		{api.Value{Kind: -1, N: 5}, "\x00"},
		{api.Value{N: 1}, "\x00"},
		{boolean(2), "\x00"},
		{integer(lastNumber + 1), "\x00"},
		{member(64), "\x00"},
		{textual(strings.Repeat("x", 61)), "\x00"},
		{api.Value{Kind: api.VkInt, N: 5, S: "x"}, "\x00"},
		{api.Value{Kind: api.VkText, N: 1, S: "x"}, "\x00"},
	} {
		checkPut(t, row.v, row.want)
		checkValue(t, row.v)
		checkBytes(t, row.want)
	}
}

// P20.8
func TestDecode(t *testing.T) {
	for _, row := range []struct {
		s    string
		want api.Errno
	}{
		// Errors of the kind.
		{"", api.ErrShort},
		{"\x80", api.ErrShort},
		{"\x80\x00", api.ErrForm},
		{"\xff\xff\xff\xff\xff\xff\xff\xff\xff\x02", api.ErrForm},
		{"\x01", api.ErrForm},
		{"\x03\x00", api.ErrForm},
		{"\x0a", api.ErrForm},
		{"\x0a\x00", api.ErrForm},
		{"\x0c\x02\x02", api.ErrForm},
		{"\x80\x04", api.ErrForm},
		{"\xff\xff\xff\xff\xff\xff\xff\xff\xff\x01", api.ErrForm},
		{"\xfe\xff\xff\xff\xff\xff\xff\xff\xff\x01", api.ErrForm},
		// Errors of the number.
		{"\x02", api.ErrShort},
		{"\x04", api.ErrShort},
		{"\x06", api.ErrShort},
		{"\x04\x80", api.ErrShort},
		{"\x06\x80\x80", api.ErrShort},
		{"\x04\x80\x00", api.ErrForm},
		{"\x04\xff\xff\xff\xff\xff\xff\xff\xff\xff\x02", api.ErrForm},
		// Numbers that a kind cannot have.
		{"\x02\x01", api.ErrForm},
		{"\x02\x04", api.ErrForm},
		{"\x02\x04\x00", api.ErrForm},
		{"\x04\x82\x80\x80\x80\x80\x40", api.ErrForm},
		{"\x04\x81\x80\x80\x80\x80\x40", api.ErrForm},
		{"\x04\xff\xff\xff\xff\xff\xff\xff\xff\xff\x01", api.ErrForm},
		{"\x06\x01", api.ErrForm},
		{"\x06\x80\x01", api.ErrForm},
		// Errors of the text.
		{"\x08", api.ErrShort},
		{"\x08\x80", api.ErrShort},
		{"\x08\x80\x00", api.ErrForm},
		{"\x08\x01", api.ErrForm},
		{"\x08\x02", api.ErrShort},
		{"\x08\x04a", api.ErrShort},
		{"\x08\x78" + strings.Repeat("x", 59), api.ErrShort},
		{"\x08\x7a", api.ErrLimit},
		{"\x08\x7a" + strings.Repeat("x", 61), api.ErrLimit},
		{"\x08\x80\x01" + strings.Repeat("x", 64), api.ErrLimit},
		// Bytes that are left.
		{"\x00\x00", api.ErrTail},
		{"\x00\x80", api.ErrTail},
		{"\x02\x02\x02", api.ErrTail},
		{"\x04\x0a\x04\x0a", api.ErrTail},
		{"\x06\x06\x00", api.ErrTail},
		{"\x08\x00\x00", api.ErrTail},
		{"\x08\x02ab", api.ErrTail},
	} {
		checkDecode(t, row.s, api.Value{}, row.want)
		checkBytes(t, row.s)
	}
}

// P20.8, P20.10: all short strings, all changes of a byte of encodings, and all their
// beginnings.
func TestDecodeOfAllKindsOfBytes(t *testing.T) {
	for first := range 256 {
		checkBytes(t, string([]byte{byte(first)}))
		for second := range 256 {
			checkBytes(t, string([]byte{byte(first), byte(second)}))
		}
	}
	for _, first := range []byte{0, 1, 2, 4, 6, 8, 10, 128, 132} {
		for last := range 1 << 16 {
			checkBytes(t, string([]byte{first, byte(last >> 8), byte(last)}))
		}
	}
	for _, v := range fewValues() {
		s := value.Put(v)
		for at := range s {
			checkBytes(t, s[:at])
			for b := range 256 {
				checkBytes(t, s[:at]+string([]byte{byte(b)})+s[at+1:])
			}
		}
		checkBytes(t, s+"\x00")
		checkBytes(t, s+s)
	}
	source := newSource()
	for range 100000 {
		s := randomText(source, source.IntN(70))
		checkBytes(t, s)
		checkBytes(t, string([]byte{byte(2 * source.IntN(6))})+s)
	}
	for _, n := range farNumbers() {
		for kind := -2; kind < 8; kind++ {
			checkBytes(t, number(kind)+number(n))
			checkBytes(t, number(n)+number(kind))
			checkBytes(t, number(kind)+number(n)+strings.Repeat("x", 60))
		}
	}
}

// P20.8: values one after the other, among other fields, up to the first error.
func TestTake(t *testing.T) {
	r := wire.New(wire.Int(7) + "\x04\x0a\x08\x04ab" + wire.Bool(true) + "\x00\x06\x7e\x02\x02\x0a\x02\x02")
	if n := r.Int(); n != 7 {
		t.Errorf("Int: got %d", n)
	}
	checkTake(t, r, integer(5), api.OK)
	checkTake(t, r, textual("ab"), api.OK)
	if !r.Bool() {
		t.Error("Bool: got false")
	}
	checkTake(t, r, api.Value{}, api.OK)
	checkTake(t, r, member(63), api.OK)
	checkTake(t, r, boolean(1), api.OK)
	if n := r.Left(); n != 3 {
		t.Errorf("Left: got %d", n)
	}
	checkTake(t, r, api.Value{}, api.ErrForm)
	checkTake(t, r, api.Value{}, api.ErrForm)

	source := newSource()
	for range 2000 {
		var l []api.Value
		s := ""
		for range source.IntN(10) {
			l = append(l, randomValue(source))
			s += value.Put(l[len(l)-1])
		}
		r := wire.New(s)
		for _, v := range l {
			checkTake(t, r, v, api.OK)
		}
		if err := r.End(); err != api.OK {
			t.Fatalf("End: got %d", err)
		}
		checkTake(t, r, api.Value{}, api.ErrShort)
	}
}

// P20.8: readers that have an error keep it, and nothing is read from them.
func TestTakeOfReadersWithErrors(t *testing.T) {
	for range 2 {
		checkTake(t, nil, api.Value{}, api.ErrState)
		checkTake(t, new(wire.Reader), api.Value{}, api.ErrState)
	}
	for _, err := range []api.Errno{api.ErrArg, api.ErrForm, api.ErrShort, api.ErrTail, 99, -1} {
		for _, s := range []string{"", "\x00", "\x04\x0a", "\x0a", "\x08\x7a", "\x02\x04"} {
			r := wire.New(s)
			r.Fail(err)
			checkTake(t, r, api.Value{}, err)
			checkTake(t, r, api.Value{}, err)
		}
	}
	r := wire.New("\x04\x0a\x08\x7a\x04\x0a")
	checkTake(t, r, integer(5), api.OK)
	checkTake(t, r, api.Value{}, api.ErrLimit)
	checkTake(t, r, api.Value{}, api.ErrLimit)
}

// P20.9
func TestPrint(t *testing.T) {
	for _, row := range []struct {
		v    api.Value
		want string
	}{
		{api.Value{}, "none"},
		{boolean(0), "false"},
		{boolean(1), "true"},
		{integer(0), "0"},
		{integer(1), "1"},
		{integer(-12), "-12"},
		{integer(lastNumber), "1099511627776"},
		{integer(-lastNumber), "-1099511627776"},
		{member(0), "#0"},
		{member(3), "#3"},
		{member(63), "#63"},
		{textual(""), `""`},
		{textual("none"), `"none"`},
		{textual("a\"\n"), `"a\"\x0a"`},
		{textual(`\`), `"\\"`},
		{textual("\u00e9"), `"\xc3\xa9"`},
		// What Check rejects has no text.
		{api.Value{Kind: 5}, ""},
		{api.Value{Kind: -1}, ""},
		{api.Value{N: 1}, ""},
		{api.Value{S: "x"}, ""},
		{boolean(-1), ""},
		{boolean(2), ""},
		{integer(lastNumber + 1), ""},
		{integer(-lastNumber - 1), ""},
		{integer(math.MinInt), ""},
		{member(64), ""},
		{member(-1), ""},
		{textual(strings.Repeat("x", 61)), ""},
		{api.Value{Kind: api.VkBool, N: 1, S: "x"}, ""},
		{api.Value{Kind: api.VkText, N: 1}, ""},
	} {
		checkPrint(t, row.v, row.want)
		checkValue(t, row.v)
		checkText(t, row.want)
	}
}

// P20.9
func TestParse(t *testing.T) {
	for _, s := range []string{
		"", " ", "\n", "\x00", "\xff", "n", "non", "None", "NONE", "none ", " none", "nonee", "none0", "nonenone", "none\n", "nil", "0none",
		"t", "true ", " true", "True", "truetrue", "truefalse", "true1", "f", "false ", "False", "falsefalse", "fals", "falsee", "yes", "no", "on", "off",
		"01", "00", "-0", "-", "--1", "+1", "+", "- 1", "1 ", " 1", "1.0", "1e3", "0x1", "1_000", "1,000", "-01", "1-", "1a", "a1", "\u0661", "\uff11",
		"1099511627777", "-1099511627777", "9999999999999", "9223372036854775807", "-9223372036854775808", "18446744073709551616", "18446744073709551617",
		"#", "#64", "#65", "#99", "#100", "#01", "#00", "#-1", "#-0", "#+1", "##1", "# 1", "#1 ", " #1", "#a", "#none", `#"a"`, "1#", "#63#", "#1099511627776", "#18446744073709551616", "#18446744073709551617",
		`"`, `"a`, `a"`, `a`, `'a'`, `"a" `, ` "a"`, `"a"b`, `"a""b"`, `"a"b"`, `"\"`, `"\n"`, `"\x41"`, `"\x0A"`, `"\x0"`, "\"\n\"", "\"\u00e9\"", "\"\xff\"", `"""`,
		quoted(strings.Repeat("x", 61)), quoted(strings.Repeat("\xff", 61)), quoted(strings.Repeat(`"`, 61)), quoted(strings.Repeat("x", 1<<16)), strings.Repeat(`"`, 1<<16), strings.Repeat("1", 1<<16), strings.Repeat("none", 1<<16), strings.Repeat("#", 1<<16),
	} {
		checkParse(t, s, api.Value{}, api.ErrForm)
		checkText(t, s)
	}
	for _, row := range []struct {
		s    string
		want api.Value
	}{
		{"none", api.Value{}},
		{"false", boolean(0)},
		{"true", boolean(1)},
		{"0", integer(0)},
		{"7", integer(7)},
		{"-12", integer(-12)},
		{"1099511627776", integer(lastNumber)},
		{"-1099511627776", integer(-lastNumber)},
		{"#0", member(0)},
		{"#9", member(9)},
		{"#10", member(10)},
		{"#63", member(63)},
		{`""`, textual("")},
		{`"a"`, textual("a")},
		{`"#1"`, textual("#1")},
		{`"a\"b"`, textual(`a"b`)},
		{`"\\x41"`, textual(`\x41`)},
		{`"\x0a\xff "`, textual("\n\xff ")},
		{quoted(strings.Repeat("x", 60)), textual(strings.Repeat("x", 60))},
		{quoted(strings.Repeat("\xff", 60)), textual(strings.Repeat("\xff", 60))},
	} {
		checkParse(t, row.s, row.want, api.OK)
		checkText(t, row.s)
	}
}

// P20.9, P20.10: all strings of up to four elements, and of up to two bytes.
func TestParseOfAllKindsOfTexts(t *testing.T) {
	alphabet := []string{"none", "false", "true", "n", "e", "#", `"`, `\`, "x", "-", "+", "0", "1", "3", "4", "6", "7", "f", " ", "\n", "\xff"}
	texts := []string{""}
	for from, round := 0, 0; round < 4; round++ {
		to := len(texts)
		for ; from < to; from++ {
			for _, element := range alphabet {
				texts = append(texts, texts[from]+element)
			}
		}
	}
	for first := range 256 {
		texts = append(texts, string([]byte{byte(first)}))
		for second := range 256 {
			texts = append(texts, string([]byte{byte(first), byte(second)}), `"`+string([]byte{byte(first), byte(second)})+`"`)
		}
	}
	for _, s := range texts {
		checkText(t, s)
	}
	for n := -1000; n <= 1000; n++ {
		for _, lead := range []string{"", "#", "-", "+", "0", "#0", " ", "##"} {
			checkText(t, lead+strconv.Itoa(n))
		}
	}
	for _, n := range farNumbers() {
		checkText(t, strconv.Itoa(n))
		checkText(t, "#"+strconv.Itoa(n))
		checkText(t, strconv.Itoa(n)+"0")
	}
}

// P20.10: random values, and changes of a byte of their texts.
func TestInverses(t *testing.T) {
	source := newSource()
	for range 20000 {
		v := randomValue(source)
		checkCheck(t, v, api.OK)
		checkValue(t, v)
		s := value.Print(v)
		at := source.IntN(len(s))
		checkText(t, s[:at])
		checkText(t, s[:at]+s[at+1:])
		checkText(t, s[:at]+randomText(source, 1)+s[at+1:])
		checkText(t, s[:at]+randomText(source, 1)+s[at:])
		checkBytes(t, s)
		checkText(t, value.Put(v))
	}
	for n := range 64 {
		checkValue(t, member(n))
		checkValue(t, integer(1<<min(n, 40)))
		checkValue(t, integer(-1<<min(n, 40)))
		checkValue(t, integer(1<<min(n, 40)-1))
	}
	for length := range 63 {
		checkValue(t, textual(randomText(source, length)))
		checkText(t, quoted(randomText(source, length)))
	}
}
