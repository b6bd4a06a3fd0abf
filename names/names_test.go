package names_test

import (
	"fmt"
	"math/rand/v2"
	"regexp"
	"slices"
	"strings"
	"testing"

	"homehub/api"
	"homehub/names"
)

// alphabet has a byte of each kind that matters in names, quoted forms and
// lines: 9 and e are digits of escapes, 7 and f are those at their limits.
var alphabet = []string{`"`, `\`, "x", "0", "2", "7", "f", "F", "g", " ", "\n", "\x7f", "\x80", "\u00e9"}

// The forms as the chapter defines them. An invalid byte is one character of an
// expression here.
const (
	byteForm   = `(?:[ !#-\[\]-~]|\\["\\]|\\x(?:[01][0-9a-f]|7f|[89a-f][0-9a-f]))`
	quotedForm = `"` + byteForm + `*"`
	part       = `(?:` + quotedForm + `|[^\x00- "][^\x00- ]*)`
)

var (
	wholeName   = regexp.MustCompile(`\A[a-z][a-z0-9_\-]{0,23}\z`)
	wholeQuoted = regexp.MustCompile(`\A` + quotedForm + `\z`)
	wholeLine   = regexp.MustCompile(`\A(?:` + part + `(?: ` + part + `)*)?\z`)
	firstPart   = regexp.MustCompile(`\A` + part)
)

// byteText is the string of one byte.
func byteText(n int) string {
	return string([]byte{byte(n)})
}

// everyByte is the string of all bytes, in order.
func everyByte() string {
	var s strings.Builder
	for n := range 256 {
		s.WriteByte(byte(n))
	}
	return s.String()
}

// quoted is the quoted form of a string.
func quoted(s string) string {
	form := `"`
	for _, b := range []byte(s) {
		switch {
		case b == '"':
			form += `\"`
		case b == '\\':
			form += `\\`
		case b < 32 || b > 126:
			form += fmt.Sprintf(`\x%02x`, b)
		default:
			form += byteText(int(b))
		}
	}
	return form + `"`
}

// parts are the parts of a line that can be divided.
func parts(s string) []string {
	var l []string
	for s != "" {
		first := firstPart.FindString(s)
		l = append(l, first)
		s = strings.TrimPrefix(s[len(first):], " ")
	}
	return l
}

// combinations are all strings of up to so many elements of the alphabet.
func combinations(most int) []string {
	l := []string{""}
	from := 0
	for range most {
		to := len(l)
		for ; from < to; from++ {
			for _, c := range alphabet {
				l = append(l, l[from]+c)
			}
		}
	}
	return l
}

// randoms are some strings, the same in each run of the tests: of bytes of all
// kinds, and of elements of the alphabet.
func randoms() []string {
	source := rand.New(rand.NewPCG(4, 16))
	var l []string
	for n := range 20000 {
		var s strings.Builder
		for range source.IntN(2 + n%70) {
			if n%2 == 0 {
				s.WriteByte(byte(source.Uint32()))
			} else {
				s.WriteString(alphabet[source.IntN(len(alphabet))])
			}
		}
		l = append(l, s.String())
	}
	return l
}

// texts are strings of all kinds.
func texts() []string {
	l := []string{
		"", everyByte(), `a"` + "\n", "a b", " ", "  ", `""`, `\x41`, `\"`, "z\u00e9\u4e16\U0001f600", "\ufffd", "\xef\xbf", "\xe4\xb8",
		"\xff\xfe", "\xc0\xaf", "\xed\xa0\x80", "\xf4\x90\x80\x80", "a\xe4", "\xe4a", "\u4e16\xb8\u4e16", strings.Repeat("\xff", 70), strings.Repeat(`\"`, 40),
		strings.Repeat("a", 59), strings.Repeat("a", 60), strings.Repeat("a", 61), strings.Repeat("\u00e9", 30), strings.Repeat("\u00e9", 31),
	}
	for n := range 256 {
		b := byteText(n)
		l = append(l, b, b+"a", "a"+b, "a"+b+"b", b+b, `"`+b, b+`\`, "\u00e9"+b, b+"\u00e9", "\xe4"+b, b+"\xb8", strings.Repeat(b, 60), strings.Repeat(b, 61))
	}
	return append(l, randoms()...)
}

// shown returns texts for a message, cut if they are long.
func shown(l ...string) string {
	s := fmt.Sprintf("%q", l)
	return s[:min(len(s), 200)]
}

func checkValid(t *testing.T, s string, want bool) {
	t.Helper()
	if names.Valid(s) != want {
		t.Errorf("Valid%s: got %v", shown(s), !want)
	}
}

func checkDistinct(t *testing.T, want bool, l ...string) {
	t.Helper()
	if names.Distinct(l) != want {
		t.Errorf("Distinct%s: got %v", shown(l...), !want)
	}
}

func checkUnquote(t *testing.T, s, want string, err api.Errno) {
	t.Helper()
	if text, e := names.Unquote(s); text != want || e != err {
		t.Errorf("Unquote%s: got %s, %d; want %s, %d", shown(s), shown(text), e, shown(want), err)
	}
}

func checkFields(t *testing.T, s string, want ...string) {
	t.Helper()
	if l, e := names.Fields(s); !slices.Equal(l, want) || e != api.OK {
		t.Errorf("Fields%s: got %s, %d; want %s", shown(s), shown(l...), e, shown(want...))
	}
}

func checkNoFields(t *testing.T, s string) {
	t.Helper()
	if l, e := names.Fields(s); len(l) > 0 || e != api.ErrForm {
		t.Errorf("Fields%s: got %s, %d; want ErrForm", shown(s), shown(l...), e)
	}
}

// P4.1
func TestValidExamples(t *testing.T) {
	for _, s := range []string{"a", "z", "m", "web-1", "z_9", "a0", "a-", "a_", "a--__00", "aa", "zz", "n23456789012345678901234"} {
		checkValid(t, s, true)
	}
	for _, s := range []string{
		"", "1a", "-a", "_a", "A", "aB", "a b", " a", "a ", "a.b", "a\n", "\"a\"", "\u00e9", "a\u00e9", "\uff41", "a\u0660", "a\xff", "\xff", "a\x00",
		"n234567890123456789012345", strings.Repeat("\u00e9", 12), "a" + strings.Repeat("\u00e9", 11), strings.Repeat("a", 1000000),
	} {
		checkValid(t, s, false)
	}
}

// P4.1: each byte value at the first and at each later place of names of all lengths.
func TestValidOfEachByte(t *testing.T) {
	for n := range 256 {
		b := byteText(n)
		letter := strings.Contains("abcdefghijklmnopqrstuvwxyz", b)
		later := letter || strings.Contains("0123456789_-", b)
		for length := 1; length <= 25; length++ {
			checkValid(t, b+strings.Repeat("n", length-1), letter && length <= 24)
			for at := 1; at < length; at++ {
				checkValid(t, strings.Repeat("n", at)+b+strings.Repeat("n", length-at-1), later && length <= 24)
			}
		}
	}
}

// P4.1
func TestValidOfAllKindsOfTexts(t *testing.T) {
	for _, s := range texts() {
		checkValid(t, s, wholeName.MatchString(s))
	}
}

// P4.1
func TestDistinct(t *testing.T) {
	checkDistinct(t, true)
	checkDistinct(t, true, []string{}...)
	checkDistinct(t, true, "a")
	checkDistinct(t, true, "a", "b")
	checkDistinct(t, true, "b", "a", "aa", "a-", "a_", "a1")
	checkDistinct(t, true, strings.Repeat("n", 24), strings.Repeat("n", 23))
	checkDistinct(t, false, "a", "a")
	checkDistinct(t, false, "a", "b", "a")
	checkDistinct(t, false, "b", "a", "a")
	checkDistinct(t, false, "a", "a", "b")
	checkDistinct(t, false, "c", "b", "a", "b", "d")
	for _, s := range []string{"", "A", "1a", "a b", strings.Repeat("n", 25), "\xff"} {
		checkDistinct(t, false, s)
		checkDistinct(t, false, "a", s)
		checkDistinct(t, false, s, "a")
		checkDistinct(t, false, "a", s, "b")
	}
}

// P4.1: many names, and two equal ones wherever they are.
func TestDistinctOfLongLists(t *testing.T) {
	var l []string
	for n := range 300 {
		l = append(l, fmt.Sprintf("n%d", (n*7919)%300))
	}
	checkDistinct(t, true, l...)
	for i := range l {
		for _, j := range []int{0, 1, 150, 298, 299} {
			equal := slices.Clone(l)
			equal[i] = equal[j]
			checkDistinct(t, i == j, equal...)
		}
	}
}

// P4.1
func TestIndex(t *testing.T) {
	for _, c := range []struct {
		l    []string
		s    string
		want int
	}{
		{nil, "", -1}, {nil, "a", -1}, {[]string{}, "", -1},
		{[]string{""}, "", 0}, {[]string{"a"}, "", -1}, {[]string{"a", ""}, "", 1},
		{[]string{"a", "b", "b"}, "b", 1}, {[]string{"b", "a", "b"}, "b", 0}, {[]string{"c", "b", "a"}, "a", 2},
		{[]string{"a", "b"}, "c", -1}, {[]string{"a", "b"}, "A", -1}, {[]string{"ab"}, "a", -1}, {[]string{"a"}, "ab", -1},
		{[]string{"\xff", "\ufffd", "\xfe"}, "\xfe", 2}, {[]string{"\xff"}, "\ufffd", -1}, {[]string{"a\x00", "a"}, "a", 1},
	} {
		if i := names.Index(c.l, c.s); i != c.want {
			t.Errorf("Index(%q, %q): got %d, want %d", c.l, c.s, i, c.want)
		}
	}
	for _, s := range texts() {
		l := []string{s + "!", s, s}
		if names.Index(l, s) != 1 || names.Index(l, s+"!") != 0 || names.Index(l, s+"?") != -1 {
			t.Errorf("Index of %q", s)
		}
	}
}

// P4.1
func TestSorted(t *testing.T) {
	for _, c := range []struct{ l, want []string }{
		{nil, nil}, {[]string{}, nil}, {[]string{""}, []string{""}}, {[]string{"", ""}, []string{""}},
		{[]string{"b", "a", "b"}, []string{"a", "b"}}, {[]string{"a", "b"}, []string{"a", "b"}}, {[]string{"c", "b", "a"}, []string{"a", "b", "c"}},
		{[]string{"b", "", "a", "b"}, []string{"", "a", "b"}}, {[]string{"a", "a", "a"}, []string{"a"}},
		{[]string{"ab", "a", "a\x00", "b"}, []string{"a", "a\x00", "ab", "b"}}, {[]string{"a", "B", "_", "1", "-"}, []string{"-", "1", "B", "_", "a"}},
		{[]string{"10", "9"}, []string{"10", "9"}}, {[]string{"\xff", "\ufffd", "\U0001f600", "\xf5", "z"}, []string{"z", "\ufffd", "\U0001f600", "\xf5", "\xff"}},
	} {
		if l := names.Sorted(c.l); !slices.Equal(l, c.want) {
			t.Errorf("Sorted(%q): got %q, want %q", c.l, l, c.want)
		}
	}
}

// P4.1: each byte orders as its number.
func TestSortedOfAllKindsOfTexts(t *testing.T) {
	l := texts()
	sorted := names.Sorted(l)
	for i, s := range sorted {
		if i > 0 && sorted[i-1] >= s {
			t.Errorf("Sorted: %q is followed by %q", sorted[i-1], s)
		}
	}
	kept := map[string]bool{}
	for _, s := range l {
		kept[s] = true
	}
	for _, s := range sorted {
		if !kept[s] {
			t.Errorf("Sorted: %q came from nowhere", s)
		}
	}
	if len(sorted) != len(kept) {
		t.Errorf("Sorted: %d of %d strings", len(sorted), len(kept))
	}
}

// P1, R5: arguments are not changed, and no memory is shared.
func TestListsAreKept(t *testing.T) {
	for _, before := range [][]string{{"c", "b", "a"}, {"b", "a", "b", "c"}, {"a", "b", "c"}, {"a", "a", "b"}, {"a"}} {
		l := slices.Clone(before)
		names.Distinct(l)
		names.Index(l, "a")
		sorted := names.Sorted(l)
		if !slices.Equal(l, before) {
			t.Errorf("%q became %q", before, l)
		}
		for i := range sorted {
			sorted[i] = "changed"
		}
		_ = append(sorted[:0], "more", "more")
		if !slices.Equal(l, before) {
			t.Errorf("%q became %q with its result", before, l)
		}
	}
	roomy := append(make([]string, 0, 10), "b", "a")
	sorted := names.Sorted(roomy)
	_ = append(sorted, "more")
	if beyond := roomy[:3]; beyond[0] != "b" || beyond[1] != "a" || beyond[2] != "" {
		t.Errorf("behind the list: %q", beyond)
	}
	const line = `set "a b" 1`
	first, _ := names.Fields(line)
	first[0] = "changed"
	checkFields(t, line, "set", `"a b"`, "1")
}

// P4.2
func TestQuoteExamples(t *testing.T) {
	for _, c := range []struct{ s, want string }{
		{"", `""`}, {"a", `"a"`}, {"a\"\n", `"a\"\x0a"`}, {"a b", `"a b"`}, {`\`, `"\\"`}, {`"`, `"\""`}, {`""`, `"\"\""`}, {`\x41`, `"\\x41"`},
		{"\x00", `"\x00"`}, {"\x1f", `"\x1f"`}, {" ", `" "`}, {"~", `"~"`}, {"\x7f", `"\x7f"`}, {"\x80", `"\x80"`}, {"\xff", `"\xff"`}, {"\t", `"\x09"`},
		{"'", `"'"`}, {"\u00e9", `"\xc3\xa9"`}, {"\u4e16", `"\xe4\xb8\x96"`}, {"\xe4\xb8", `"\xe4\xb8"`}, {"\ufffd", `"\xef\xbf\xbd"`}, {"\xef\xbf", `"\xef\xbf"`},
		{"\U0001f600", `"\xf0\x9f\x98\x80"`}, {"\xffa\xfe", `"\xffa\xfe"`}, {"\xed\xa0\x80", `"\xed\xa0\x80"`},
		{strings.Repeat("a", 1000), `"` + strings.Repeat("a", 1000) + `"`},
	} {
		if q := names.Quote(c.s); q != c.want {
			t.Errorf("Quote(%q): got %s, want %s", c.s, q, c.want)
		}
	}
}

// P4.2, P4.4: each byte alone and beside others, valid UTF-8 or not.
func TestQuoteAndUnquote(t *testing.T) {
	for _, s := range append(texts(), combinations(3)...) {
		q := names.Quote(s)
		if q != quoted(s) {
			t.Errorf("Quote(%q): got %s, want %s", s, q, quoted(s))
		}
		for _, b := range []byte(q) {
			if b < 32 || b > 126 {
				t.Errorf("Quote(%q): byte %x", s, b)
			}
		}
		if len(s) <= 60 {
			checkUnquote(t, q, s, api.OK)
		} else {
			checkUnquote(t, q, "", api.ErrLimit)
		}
	}
}

// P4.2, P4.4: all pairs of bytes.
func TestQuoteOfPairs(t *testing.T) {
	for n := range 1 << 16 {
		s := byteText(n>>8) + byteText(n)
		if q := names.Quote(s); q != quoted(s) {
			t.Errorf("Quote(%q): got %s", s, q)
		}
		checkUnquote(t, quoted(s), s, api.OK)
	}
}

// P4.2
func TestUnquoteExamples(t *testing.T) {
	for _, c := range []struct{ q, want string }{
		{`""`, ""}, {`"a"`, "a"}, {`"a b"`, "a b"}, {`" "`, " "}, {`"\""`, `"`}, {`"\\"`, `\`}, {`"\\\""`, `\"`}, {`"\\x41"`, `\x41`}, {`"\x0a"`, "\n"},
		{`"\x00"`, "\x00"}, {`"\x1f"`, "\x1f"}, {`"\x7f"`, "\x7f"}, {`"\x80"`, "\x80"}, {`"\xff"`, "\xff"}, {`"\xc3\xa9"`, "\u00e9"}, {`"\xe4x"`, "\xe4x"},
		{`"\x0a0a"`, "\n0a"}, {`"x41"`, "x41"}, {`"'"`, "'"}, {`"~ !"`, "~ !"},
	} {
		checkUnquote(t, c.q, c.want, api.OK)
	}
	for _, q := range []string{
		"", `"`, `a`, `a"`, `"a`, `'a'`, `""""`, `"""`, `"a"b"`, `"a""`, `""a"`, `"a"b`, `"a" `, ` "a"`, `"a"` + "\n", `"\"`, `"\\\"`, `\"a\"`, `""a`, `"""a"`,
		`"\n"`, `"\t"`, `"\a"`, `"\0"`, `"\'"`, `"\ "`, `"\u00e9"`, `"\X0a"`, `"\x0A"`, `"\xFF"`, `"\xfF"`, `"\xFf"`, `"\xag"`, `"\xga"`, `"\x0-"`, `"\x/0"`, `"\x:0"`, "\"\\x`0\"", `"\x0/"`, `"\x0:"`, "\"\\x0`\"",
		`"\x20"`, `"\x21"`, `"\x22"`, `"\x41"`, `"\x5b"`, `"\x5c"`, `"\x5d"`, `"\x61"`, `"\x7e"`,
		`"\`, `"\x`, `"\x0`, `"\x0a`, `"\x"`, `"\x0"`, `"\x"a`, `"\x0"a`, `"\x"a"`, `"\x0"a"`, `\`, `\x0a`, `"a\`,
		"\"\n\"", "\"\x00\"", "\"\x1f\"", "\"\x7f\"", "\"\x80\"", "\"\xff\"", "\"\u00e9\"", "\"\ufffd\"", "\u00e9", "\xff", "\"\\\u00e9\"", "\"\\x\u00e9\"", "\"\\x0\u00e9\"", "\"\\x\xff0\"",
		"\u00e9\"a\"", "\"a\u00e9", "\"a\"\u00e9", "\u201ca\u201d", "\uff02a\uff02",
	} {
		checkUnquote(t, q, "", api.ErrForm)
	}
}

// P4.2: every escape, with small and with capital digits.
func TestUnquoteOfEachEscape(t *testing.T) {
	for n := range 256 {
		b := byteText(n)
		small, capital := fmt.Sprintf(`"a\x%02xb"`, n), fmt.Sprintf(`"a\x%02Xb"`, n)
		if n < 32 || n > 126 {
			checkUnquote(t, small, "a"+b+"b", api.OK)
			checkUnquote(t, `"a`+b+`b"`, "", api.ErrForm)
		} else {
			checkUnquote(t, small, "", api.ErrForm)
		}
		if capital != small {
			checkUnquote(t, capital, "", api.ErrForm)
		}
		if b == `"` || b == `\` {
			checkUnquote(t, `"a\`+b+`b"`, "a"+b+"b", api.OK)
		} else {
			checkUnquote(t, `"a\`+b+`b"`, "", api.ErrForm)
		}
	}
}

// P4.2: all strings of up to five elements, in quotes and without.
func TestUnquoteOfAllKindsOfTexts(t *testing.T) {
	l := append(combinations(4), texts()...)
	for _, inner := range combinations(4) {
		l = append(l, `"`+inner+`"`, `"a\`+inner+`"`, `"\x0`+inner)
	}
	for _, s := range l {
		text, e := names.Unquote(s)
		switch {
		case e == api.OK && (!wholeQuoted.MatchString(s) || quoted(text) != s || len(text) > 60):
			t.Errorf("Unquote(%q): got %q", s, text)
		case e == api.ErrForm && (wholeQuoted.MatchString(s) || text != ""):
			t.Errorf("Unquote(%q): got %q, ErrForm", s, text)
		case e != api.OK && e != api.ErrForm:
			t.Errorf("Unquote(%q): got %q, %d", s, text, e)
		}
	}
}

// P4.2: the limit counts the bytes of the string, and ErrForm comes first.
func TestUnquoteOfLongTexts(t *testing.T) {
	for _, form := range []string{"a", " ", `\"`, `\\`, `\x00`, `\xff`} {
		one := quoted("")
		for n := range 64 {
			s := strings.Repeat(form, n)
			text, e := names.Unquote(`"` + s + `"`)
			if n <= 60 && (len(text) != n || e != api.OK) || n > 60 && (text != "" || e != api.ErrLimit) {
				t.Errorf("Unquote of %d times %s: got %q, %d", n, form, text, e)
			}
			checkUnquote(t, `"`+s, "", api.ErrForm)
			checkUnquote(t, s+`"`, "", api.ErrForm)
			checkUnquote(t, `"`+s+`"a`, "", api.ErrForm)
			checkUnquote(t, `"`+s+`\x41"`, "", api.ErrForm)
			checkUnquote(t, `"\n`+s+`"`, "", api.ErrForm)
			checkUnquote(t, `"`+s+"\u00e9"+`"`, "", api.ErrForm)
			checkUnquote(t, `"`+s+one, "", api.ErrForm)
		}
	}
	long := strings.Repeat("a", 1<<20)
	checkUnquote(t, `"`+long+`"`, "", api.ErrLimit)
	checkUnquote(t, `"`+long, "", api.ErrForm)
	checkUnquote(t, strings.Repeat(`"`, 1<<20), "", api.ErrForm)
	checkUnquote(t, strings.Repeat(`\`, 1<<20), "", api.ErrForm)
}

// P4.3
func TestFieldsExamples(t *testing.T) {
	checkFields(t, "")
	checkFields(t, "a", "a")
	checkFields(t, "a b", "a", "b")
	checkFields(t, `set "a b" 1`, "set", `"a b"`, "1")
	checkFields(t, `"a  b" " " ""`, `"a  b"`, `" "`, `""`)
	checkFields(t, `""`, `""`)
	checkFields(t, `"" ""`, `""`, `""`)
	checkFields(t, `"\"" "\\" "\x0a" x`, `"\""`, `"\\"`, `"\x0a"`, "x")
	checkFields(t, `"a \" b" c`, `"a \" b"`, "c")
	checkFields(t, `a"b c"d`, `a"b`, `c"d`)
	checkFields(t, `a" b`, `a"`, "b")
	checkFields(t, `a"" \" \"b`, `a""`, `\"`, `\"b`)
	checkFields(t, `a\x41 \ \\ \n '" '`, `a\x41`, `\`, `\\`, `\n`, `'"`, `'`)
	checkFields(t, "\x7f \x80 \xff \u00e9 a\x7fb \ufffd \xe4\xb8", "\x7f", "\x80", "\xff", "\u00e9", "a\x7fb", "\ufffd", "\xe4\xb8")
	checkFields(t, "a\u00a0b \u2003", "a\u00a0b", "\u2003")
	for _, s := range []string{
		" ", "  ", " a", "a ", "a  b", "a   b", "a b ", " a b", ` ""`, `"" `, `""  ""`, `"a"  b`, `a  "b"`, `"a b" `,
		`"a"b`, `"a""b"`, `"a"" b"`, `"a"\`, `"a"` + "\n", `"a"` + "\xff", `"a"` + "\u00e9", `""a`, `"""`, `""""`, `b "a"b`,
		`"`, `"a`, `"a b`, `a "`, `a "b`, `" `, `" a`, `"\"`, `"\" a`, `"\n"`, `"\x41"`, `"\x0A"`, `"\x0"`, `a "\x20" b`, `"\`, `"\x`, `"\x0`,
		"\n", "a\n", "\na", "a\tb", "a\x00", "\x00", "a \x1f", "a\x1f b", "a b\n", "\"a\nb\"", "\"a\x7fb\"", "\"\u00e9\"", "\"\xff\"", "a \"\xff\"", "a\n b", "a \n", "\xff\n", "\u00e9\x1f", "\u00e9 ", " \u00e9",
	} {
		checkNoFields(t, s)
	}
}

// P4.3: each byte value alone, at each place of a part, and around a quoted form.
func TestFieldsOfEachByte(t *testing.T) {
	for n := range 256 {
		b := byteText(n)
		if n < 32 {
			for _, s := range []string{b, b + "a", "a" + b, "a" + b + "c", "a " + b, "a " + b + " c", "a c" + b, `"` + b + `"`, `""` + b, `"a"` + b + `"c"`} {
				checkNoFields(t, s)
			}
			continue
		}
		if b == " " {
			checkFields(t, "a"+b+"c", "a", "c")
			checkFields(t, `"a"`+b+`"c"`, `"a"`, `"c"`)
			continue
		}
		checkFields(t, "a"+b, "a"+b)
		checkFields(t, "a"+b+"c", "a"+b+"c")
		checkFields(t, "a c"+b+" d", "a", "c"+b, "d")
		checkNoFields(t, `""`+b)
		checkNoFields(t, `"a"`+b+`"c"`)
		if b != `"` {
			checkFields(t, b, b)
			checkFields(t, b+"a", b+"a")
			checkFields(t, "a "+b+" c", "a", b, "c")
		}
	}
}

// P4.3: all strings of up to five elements, and longer ones.
func TestFieldsOfAllKindsOfTexts(t *testing.T) {
	l := append(combinations(5), texts()...)
	for _, inner := range combinations(3) {
		l = append(l, `"a`+inner+`" b`, `a "\x0`+inner+`c"`, `"a"`+inner+`"c"`, "\xff"+inner+"\xff")
	}
	for _, s := range l {
		if wholeLine.MatchString(s) {
			checkFields(t, s, parts(s)...)
		} else {
			checkNoFields(t, s)
		}
	}
}

// P4.3: quoted forms of any length, many parts and long ones.
func TestFieldsOfLongLines(t *testing.T) {
	for _, n := range []int{59, 60, 61, 62, 500, 1 << 18} {
		for _, s := range []string{strings.Repeat("a", n), strings.Repeat(" ", n), strings.Repeat(`"`, n), strings.Repeat("\xff", n)} {
			q := names.Quote(s)
			checkFields(t, "a "+q+" b", "a", q, "b")
			checkNoFields(t, "a "+q+"b")
			checkNoFields(t, "a "+q[:len(q)-1])
		}
		many := slices.Repeat([]string{"a", `" "`, "\u00e9"}, n)
		checkFields(t, strings.Join(many, " "), many...)
		checkNoFields(t, strings.Join(many, " ")+" ")
	}
	checkNoFields(t, strings.Repeat(" ", 1<<20))
	checkNoFields(t, strings.Repeat(`"`, 1<<20))
}

// P4.4: quoted forms that are joined by single blanks.
func TestFieldsOfQuotedForms(t *testing.T) {
	for at, all := 0, texts(); at+5 <= len(all); at++ {
		for n := range 6 {
			var l []string
			for _, s := range all[at : at+n] {
				l = append(l, names.Quote(s))
			}
			checkFields(t, strings.Join(l, " "), l...)
		}
	}
}
