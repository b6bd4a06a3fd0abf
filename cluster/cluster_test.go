package cluster_test

import (
	"math"
	"math/rand/v2"
	"reflect"
	"regexp"
	"slices"
	"strconv"
	"strings"
	"testing"

	"homehub/api"
	"homehub/cluster"
	"homehub/value"
)

const lastNumber = 1099511627776

var wholeName = regexp.MustCompile(`\A[a-z][a-z0-9_\-]{0,23}\z`)

// The model. Definitions of attributes and the values that fit them are those of
// package value, whose own tests cover them.

// faults are the errors of a cluster, in the order of the chapter. Where the chapter
// ends with the first error, the later ones are of no importance.
type faults []api.Errno

func (l *faults) add(err api.Errno, is bool) {
	if is && err != api.OK {
		*l = append(*l, err)
	}
}

func (l faults) first() api.Errno {
	return append(l, api.OK)[0]
}

// checked returns what Check returns.
func checked(c api.Cluster) api.Errno {
	var found faults
	found.add(api.ErrName, !wholeName.MatchString(c.Name))
	for _, length := range lengths(c) {
		found.add(api.ErrLimit, length > 12)
	}
	attrs := map[string]api.Attr{}
	for _, attr := range c.Attrs {
		found.add(value.Def(attr), true)
		_, isKnown := attrs[attr.Name]
		found.add(api.ErrDup, isKnown)
		attrs[attr.Name] = attr
	}
	commands := map[string]bool{}
	for _, command := range c.Commands {
		found.add(api.ErrName, !wholeName.MatchString(command.Name))
		found.add(api.ErrDup, commands[command.Name])
		commands[command.Name] = true
		isNone := command.Param.Kind == 0
		found.add(value.Def(command.Param), !isNone)
		found.add(api.ErrForm, isNone && !isZeroAttr(command.Param))
		for _, effect := range command.Effects {
			found.addEffect(attrs, command.Param, effect)
		}
	}
	events := map[string]bool{}
	for _, event := range c.Events {
		found.add(api.ErrName, !wholeName.MatchString(event))
		found.add(api.ErrDup, events[event])
		events[event] = true
	}
	return found.first()
}

// lengths are those of all lists of a cluster that have a limit.
func lengths(c api.Cluster) []int {
	l := []int{len(c.Attrs), len(c.Commands), len(c.Events)}
	for _, command := range c.Commands {
		l = append(l, len(command.Effects))
	}
	return l
}

func isZeroAttr(a api.Attr) bool {
	if len(a.Enum) == 0 {
		a.Enum = nil
	}
	return reflect.DeepEqual(a, api.Attr{})
}

func (l *faults) addEffect(attrs map[string]api.Attr, param api.Attr, effect api.Effect) {
	attr, isKnown := attrs[effect.Attr]
	isSuited := map[int]bool{
		1: canBe(attr, effect.N),
		2: param.Kind == attr.Kind && (attr.Kind != 3 || strings.Join(param.Enum, " ") == strings.Join(attr.Enum, " ")),
		3: attr.Kind == 2,
		4: attr.Kind == 1,
	}
	_, isKind := isSuited[effect.Kind]
	l.add(api.ErrKind, !isKind)
	l.add(api.ErrNone, !isKnown)
	l.add(api.ErrAccess, !attr.Writable)
	l.add(api.ErrType, !isSuited[effect.Kind])
	l.add(api.ErrRange, effect.Kind == 3 && (effect.N < -lastNumber || effect.N > lastNumber))
	l.add(api.ErrForm, (effect.Kind == 2 || effect.Kind == 4) && effect.N != 0)
}

// canBe reports whether a number is that of a value of an attribute that is no text.
func canBe(a api.Attr, n int) bool {
	switch a.Kind {
	case 1:
		return n == 0 || n == 1
	case 2:
		return n >= a.Min && n <= a.Max
	case 3:
		return n >= 0 && n < len(a.Enum)
	}
	return false
}

// checkedAll returns what All returns.
func checkedAll(l []api.Cluster) api.Errno {
	var found faults
	found.add(api.ErrLimit, len(l) > 256)
	seen := map[string]bool{}
	for _, c := range l {
		found.add(checked(c), true)
		found.add(api.ErrDup, seen[c.Name])
		seen[c.Name] = true
	}
	return found.first()
}

// applied returns what Apply returns. It keeps the values in a map by the names of
// their attributes.
func applied(c api.Cluster, name string, param api.Value, vals []api.Value) ([]api.Value, api.Errno) {
	if err := checked(c); err != api.OK {
		return nil, err
	}
	for _, command := range c.Commands {
		if command.Name != name {
			continue
		}
		if err := applicable(c, command, param, vals); err != api.OK {
			return nil, err
		}
		state := map[string]api.Value{}
		for i, attr := range c.Attrs {
			state[attr.Name] = vals[i]
		}
		for _, effect := range command.Effects {
			n := state[effect.Attr].N
			state[effect.Attr] = []api.Value{
				{Kind: state[effect.Attr].Kind, N: effect.N},
				param,
				{Kind: 2, N: n + effect.N},
				{Kind: 1, N: n ^ 1},
			}[effect.Kind-1]
			for _, attr := range c.Attrs {
				if attr.Name == effect.Attr && attr.Kind == 2 {
					state[attr.Name] = integer(min(max(state[attr.Name].N, attr.Min), attr.Max))
				}
			}
		}
		var after []api.Value
		for _, attr := range c.Attrs {
			after = append(after, state[attr.Name])
		}
		return after, api.OK
	}
	return nil, api.ErrNone
}

// applicable returns the error of a parameter and of values for a command.
func applicable(c api.Cluster, command api.Command, param api.Value, vals []api.Value) api.Errno {
	var found faults
	isNone := command.Param.Kind == 0
	found.add(api.ErrType, isNone && param != api.Value{})
	found.add(value.Fits(command.Param, param), !isNone)
	found.add(api.ErrArg, len(vals) != len(c.Attrs))
	for i := range min(len(vals), len(c.Attrs)) {
		found.add(api.ErrArg, value.Fits(c.Attrs[i], vals[i]) != api.OK)
	}
	return found.first()
}

// copyOf is a cluster with lists of its own.
func copyOf(c api.Cluster) api.Cluster {
	c.Attrs, c.Commands, c.Events = slices.Clone(c.Attrs), slices.Clone(c.Commands), slices.Clone(c.Events)
	for i := range c.Attrs {
		c.Attrs[i].Enum = slices.Clone(c.Attrs[i].Enum)
	}
	for i := range c.Commands {
		c.Commands[i].Param.Enum = slices.Clone(c.Commands[i].Param.Enum)
		c.Commands[i].Effects = slices.Clone(c.Commands[i].Effects)
	}
	return c
}

// The first difference ends a test, as some of them compare very many clusters.

func checkCheck(t *testing.T, c api.Cluster, want api.Errno) {
	t.Helper()
	before := copyOf(c)
	if got := cluster.Check(c); got != want {
		t.Fatalf("Check(%#v): got %d, want %d", c, got, want)
	}
	if !reflect.DeepEqual(c, before) {
		t.Fatalf("Check changed %#v to %#v", before, c)
	}
}

func checkAll(t *testing.T, l []api.Cluster, want api.Errno) {
	t.Helper()
	if got := cluster.All(l); got != want {
		t.Fatalf("All of %d clusters: got %d, want %d", len(l), got, want)
	}
}

func checkAttr(t *testing.T, c api.Cluster, name string, want api.Attr, isKnown bool) {
	t.Helper()
	if got, ok := cluster.Attr(c, name); ok != isKnown || !reflect.DeepEqual(got, want) {
		t.Fatalf("Attr(%#v, %q): got %#v, %t, want %#v, %t", c, name, got, ok, want, isKnown)
	}
}

func checkCommand(t *testing.T, c api.Cluster, name string, want api.Command, isKnown bool) {
	t.Helper()
	if got, ok := cluster.Command(c, name); ok != isKnown || !reflect.DeepEqual(got, want) {
		t.Fatalf("Command(%#v, %q): got %#v, %t, want %#v, %t", c, name, got, ok, want, isKnown)
	}
}

func checkApply(t *testing.T, c api.Cluster, command string, param api.Value, vals, want []api.Value, wantErr api.Errno) {
	t.Helper()
	before, valsBefore := copyOf(c), slices.Clone(vals)
	got, err := cluster.Apply(c, command, param, vals)
	if !slices.Equal(got, want) || err != wantErr {
		t.Fatalf("Apply(%#v, %q, %v, %v): got %v, %d, want %v, %d", c, command, param, vals, got, err, want, wantErr)
	}
	if !reflect.DeepEqual(c, before) || !slices.Equal(vals, valsBefore) {
		t.Fatalf("Apply changed %#v or %v", before, valsBefore)
	}
	for i := range got {
		got[i] = api.Value{Kind: 9}
	}
	if !slices.Equal(vals, valsBefore) {
		t.Fatalf("Apply of %q shares its result with the values before it", command)
	}
}

// checkModel compares Check, and Apply of all commands, with the model, and then
// P21.4 and P21.5 by themselves.
func checkModel(t *testing.T, c api.Cluster, param api.Value, vals []api.Value) {
	t.Helper()
	checkCheck(t, c, checked(c))
	for _, command := range append(slices.Clone(c.Commands), api.Command{Name: "no-command"}, api.Command{}) {
		want, wantErr := applied(c, command.Name, param, vals)
		checkApply(t, c, command.Name, param, vals, want, wantErr)
		if wantErr == api.OK {
			checkClosed(t, c, command, param, vals)
			checkIdempotent(t, c, command, param, vals)
		}
	}
}

// checkClosed checks P21.4.
func checkClosed(t *testing.T, c api.Cluster, command api.Command, param api.Value, vals []api.Value) {
	t.Helper()
	after, _ := cluster.Apply(c, command.Name, param, vals)
	if len(after) != len(c.Attrs) {
		t.Fatalf("Apply of %#v: %d values of %d attributes", command, len(after), len(c.Attrs))
	}
	for i, attr := range c.Attrs {
		if err := value.Fits(attr, after[i]); err != api.OK {
			t.Fatalf("Apply of %#v: %v does not fit %#v: %d", command, after[i], attr, err)
		}
		isNamed := slices.ContainsFunc(command.Effects, func(effect api.Effect) bool { return effect.Attr == attr.Name })
		if !isNamed && after[i] != vals[i] {
			t.Fatalf("Apply of %#v: %s changed from %v to %v", command, attr.Name, vals[i], after[i])
		}
	}
}

// checkIdempotent checks P21.5.
func checkIdempotent(t *testing.T, c api.Cluster, command api.Command, param api.Value, vals []api.Value) {
	t.Helper()
	for _, effect := range command.Effects {
		if effect.Kind != api.EfSet && effect.Kind != api.EfParam {
			return
		}
	}
	once, _ := cluster.Apply(c, command.Name, param, vals)
	twice, err := cluster.Apply(c, command.Name, param, once)
	if !slices.Equal(once, twice) || err != api.OK {
		t.Fatalf("Apply of %#v: once %v, twice %v, %d", command, once, twice, err)
	}
}

func boolean(n int) api.Value {
	return api.Value{Kind: api.VkBool, N: n}
}

func integer(n int) api.Value {
	return api.Value{Kind: api.VkInt, N: n}
}

func member(n int) api.Value {
	return api.Value{Kind: api.VkEnum, N: n}
}

func textual(s string) api.Value {
	return api.Value{Kind: api.VkText, S: s}
}

// The attributes of the tests can be written, if they are not made readonly.

func flag(name string) api.Attr {
	return api.Attr{Name: name, Kind: api.VkBool, Writable: true}
}

func number(name string, least, most int) api.Attr {
	return api.Attr{Name: name, Kind: api.VkInt, Min: least, Max: most, Writable: true}
}

func state(name string, members ...string) api.Attr {
	return api.Attr{Name: name, Kind: api.VkEnum, Enum: members, Writable: true}
}

func label(name string) api.Attr {
	return api.Attr{Name: name, Kind: api.VkText, Writable: true}
}

func readonly(a api.Attr) api.Attr {
	a.Writable = false
	return a
}

func set(attr string, n int) api.Effect {
	return api.Effect{Kind: api.EfSet, Attr: attr, N: n}
}

func take(attr string) api.Effect {
	return api.Effect{Kind: api.EfParam, Attr: attr}
}

func add(attr string, n int) api.Effect {
	return api.Effect{Kind: api.EfAdd, Attr: attr, N: n}
}

func toggle(attr string) api.Effect {
	return api.Effect{Kind: api.EfToggle, Attr: attr}
}

// every is a cluster with an attribute of each kind, and one more number.
func every(commands ...api.Command) api.Cluster {
	return api.Cluster{
		Name: "every",
		Attrs: []api.Attr{
			flag("flag"), number("number", -10, 100), state("state", "low", "mid", "high"), label("label"), number("other", 0, 5),
			readonly(flag("fixed")), readonly(number("sensor", 0, 5)), readonly(state("way", "up")), readonly(label("serial")),
		},
		Commands: commands,
		Events:   []string{"begin", "end"},
	}
}

// everyValue are values of the attributes of every.
func everyValue() []api.Value {
	return []api.Value{boolean(1), integer(42), member(1), textual("a"), integer(3), boolean(0), integer(2), member(0), textual("b")}
}

// run is the cluster every with the command run.
func run(param api.Attr, effects ...api.Effect) api.Cluster {
	return every(api.Command{Name: "run", Param: param, Effects: effects})
}

// manyNames are so many different names.
func manyNames(count int) []string {
	var l []string
	for i := range count {
		l = append(l, "n"+strconv.Itoa(i))
	}
	return l
}

func manyAttrs(count int) []api.Attr {
	var l []api.Attr
	for _, name := range manyNames(count) {
		l = append(l, flag(name))
	}
	return l
}

func manyCommands(count int) []api.Command {
	var l []api.Command
	for _, name := range manyNames(count) {
		l = append(l, api.Command{Name: name})
	}
	return l
}

func manyClusters(count int) []api.Cluster {
	var l []api.Cluster
	for _, name := range manyNames(count) {
		l = append(l, api.Cluster{Name: name})
	}
	return l
}

// falseNames are strings that are no names.
func falseNames() []string {
	return []string{"", "On", "ON", "1a", "_a", "-a", " a", "a ", "a b", "a.b", "a\n", "a\x00", "\u00e9", "a\u00e9", "\xff", strings.Repeat("n", 25), strings.Repeat("n", 5000)}
}

// farNumbers are numbers at the ends of booleans, members, integers and int.
func farNumbers() []int {
	return []int{
		math.MinInt, math.MinInt + 1, -1 << 62, -lastNumber - 1, -lastNumber, -lastNumber + 1, -11, -10, -9, -2, -1, 0, 1, 2, 3, 4, 5, 6, 63, 64,
		99, 100, 101, 256, 257, 1 << 32, 1<<32 + 1, lastNumber - 1, lastNumber, lastNumber + 1, 1 << 62, math.MaxInt - 1, math.MaxInt,
	}
}

func farKinds() []int {
	return []int{math.MinInt, -lastNumber, -4, -3, -2, -1, 0, 1, 2, 3, 4, 5, 6, 8, 255, 256, 257, 1 << 32, 1<<32 + 2, math.MaxInt}
}

// someParams are parameters of all kinds, valid and not.
func someParams() []api.Attr {
	return []api.Attr{
		{}, {Enum: []string{}}, flag("to"), number("to", 0, 5), number("to", -lastNumber, lastNumber), number("to", 7, 7), state("to", "low", "mid", "high"), label("to"),
		state("to", "low", "mid"), state("to", "low", "high", "mid"), state("to", "low", "mid", "high", "max"), state("to", "up"), state("to", "low", "mid", "hig"),
		readonly(flag("to")), readonly(number("to", -10, 100)), readonly(state("to", "low", "mid", "high")), readonly(label("to")), {Name: "flag", Kind: api.VkBool, Safety: true},
		{Name: "to"}, {Min: 1}, {Max: 1}, {Min: -1, Max: 1}, {Enum: []string{""}}, {Enum: []string{"a"}}, {Writable: true}, {Safety: true}, {Writable: true, Safety: true},
		{Kind: api.VkBool}, {Name: "To", Kind: api.VkBool}, {Name: "to", Kind: -1}, {Name: "to", Kind: 5}, {Kind: 5}, {Name: "to", Kind: api.VkBool, Max: 1}, number("to", 2, 1), number("to", 0, lastNumber+1),
		state("to"), state("to", ""), state("to", "a", "a"), {Name: "to", Kind: api.VkBool, Enum: []string{"a"}}, {Name: "to", Kind: api.VkText, Enum: []string{"a"}},
	}
}

// someValues are values of all kinds, valid and not.
func someValues() []api.Value {
	l := []api.Value{{}, {N: 1}, {N: -1}, {S: "x"}, {Kind: -1}, {Kind: 5}, textual(""), textual("a"), textual(strings.Repeat("x", 60)), textual(strings.Repeat("x", 61)), {Kind: api.VkText, N: 1}, {Kind: api.VkInt, S: "x"}}
	for _, n := range farNumbers() {
		l = append(l, boolean(n), integer(n), member(n))
	}
	return l
}

func newSource() *rand.Rand {
	return rand.New(rand.NewPCG(21, 1))
}

// The chapter's examples: P21.1, P21.2, P21.3, P21.6.
func TestExamples(t *testing.T) {
	l := cluster.Standard()
	if len(l) != 8 {
		t.Fatalf("Standard: got %d clusters", len(l))
	}
	onoff, level, lock := l[0], l[1], l[2]
	checkApply(t, onoff, "toggle", api.Value{}, []api.Value{boolean(0)}, []api.Value{boolean(1)}, api.OK)
	checkApply(t, onoff, "toggle", api.Value{}, []api.Value{boolean(1)}, []api.Value{boolean(0)}, api.OK)
	checkApply(t, level, "move", integer(70), []api.Value{integer(5)}, []api.Value{integer(70)}, api.OK)
	checkApply(t, level, "move", integer(101), []api.Value{integer(5)}, nil, api.ErrRange)
	checkApply(t, level, "step", api.Value{}, []api.Value{integer(95)}, []api.Value{integer(100)}, api.OK)
	checkApply(t, lock, "jam", api.Value{}, []api.Value{boolean(0)}, nil, api.ErrNone)
	checkCheck(t, api.Cluster{Name: "On"}, api.ErrName)
	checkCheck(t, api.Cluster{Name: "on", Attrs: []api.Attr{flag("x"), label("x")}}, api.ErrDup)
}

// P21.1: the name, and the lengths of lists, which come before all that follows.
func TestCheckOfNamesAndLengths(t *testing.T) {
	longName := strings.Repeat("n", 24)
	long := api.Command{Name: "run", Effects: make([]api.Effect, 13)}
	full := api.Command{Name: "run", Effects: slices.Repeat([]api.Effect{toggle("flag")}, 12)}
	for _, row := range []struct {
		c    api.Cluster
		want api.Errno
	}{
		{api.Cluster{Name: "a"}, api.OK},
		{api.Cluster{Name: longName}, api.OK},
		{api.Cluster{Name: "on-off_2", Attrs: []api.Attr{}, Commands: []api.Command{}, Events: []string{}}, api.OK},
		{api.Cluster{Name: "a", Attrs: manyAttrs(12)}, api.OK},
		{api.Cluster{Name: "a", Commands: manyCommands(12)}, api.OK},
		{api.Cluster{Name: "a", Events: manyNames(12)}, api.OK},
		{api.Cluster{Name: "a", Attrs: manyAttrs(12), Commands: manyCommands(12), Events: manyNames(12)}, api.OK},
		{every(full), api.OK},
		{every(api.Command{Name: "stop"}, full), api.OK},
		{api.Cluster{}, api.ErrName},
		{api.Cluster{Attrs: make([]api.Attr, 13)}, api.ErrName},
		{api.Cluster{Name: "A", Commands: []api.Command{long}}, api.ErrName},
		{api.Cluster{Name: "a b", Events: []string{""}}, api.ErrName},
		{api.Cluster{Name: "a", Attrs: manyAttrs(13)}, api.ErrLimit},
		{api.Cluster{Name: "a", Commands: manyCommands(13)}, api.ErrLimit},
		{api.Cluster{Name: "a", Events: manyNames(13)}, api.ErrLimit},
		{api.Cluster{Name: "a", Attrs: make([]api.Attr, 13)}, api.ErrLimit},
		{api.Cluster{Name: "a", Commands: make([]api.Command, 13)}, api.ErrLimit},
		{api.Cluster{Name: "a", Events: make([]string, 13)}, api.ErrLimit},
		{api.Cluster{Name: "a", Events: make([]string, 1<<20)}, api.ErrLimit},
		{api.Cluster{Name: "a", Attrs: make([]api.Attr, 1), Events: make([]string, 13)}, api.ErrLimit},
		{api.Cluster{Name: "a", Attrs: make([]api.Attr, 2), Commands: make([]api.Command, 13)}, api.ErrLimit},
		{api.Cluster{Name: "a", Attrs: make([]api.Attr, 2), Commands: []api.Command{{}, long}}, api.ErrLimit},
		{api.Cluster{Name: "a", Commands: []api.Command{long}}, api.ErrLimit},
		{api.Cluster{Name: "a", Commands: []api.Command{{Effects: make([]api.Effect, 1<<20)}}}, api.ErrLimit},
		{every(api.Command{Name: "run", Effects: slices.Repeat([]api.Effect{toggle("flag")}, 13)}), api.ErrLimit},
		{every(full, long), api.ErrLimit},
	} {
		checkCheck(t, row.c, row.want)
		checkModel(t, row.c, api.Value{}, nil)
	}
	for _, name := range falseNames() {
		checkCheck(t, api.Cluster{Name: name}, api.ErrName)
		checkCheck(t, api.Cluster{Name: name, Attrs: []api.Attr{flag("x"), flag("x")}}, api.ErrName)
	}
	sizes := []int{0, 1, 11, 12, 13, 14}
	for _, attrs := range sizes {
		for _, commands := range sizes {
			for _, events := range sizes {
				for _, effects := range []int{0, 12, 13} {
					c := api.Cluster{Name: "a", Attrs: manyAttrs(attrs), Commands: manyCommands(commands), Events: manyNames(events)}
					for i := range c.Commands {
						c.Commands[i].Effects = slices.Repeat([]api.Effect{toggle("n0")}, effects)
						checkCheck(t, c, checked(c))
					}
					checkCheck(t, c, checked(c))
				}
			}
		}
	}
}

// P21.1: attributes, one by one, before commands and events.
func TestCheckOfAttributes(t *testing.T) {
	for _, row := range []struct {
		attrs []api.Attr
		want  api.Errno
	}{
		{nil, api.OK},
		{[]api.Attr{flag("a"), flag("b"), flag("ab")}, api.OK},
		{[]api.Attr{flag("attrs"), number("every", -lastNumber, lastNumber), state("run", "run", "a"), label("c")}, api.OK},
		{[]api.Attr{{}}, api.ErrName},
		{[]api.Attr{flag("A")}, api.ErrName},
		{[]api.Attr{flag("a"), {Name: "", Kind: 9}}, api.ErrName},
		{[]api.Attr{{Name: "a"}}, api.ErrKind},
		{[]api.Attr{{Name: "a", Kind: 5}}, api.ErrKind},
		{[]api.Attr{number("a", 2, 1)}, api.ErrRange},
		{[]api.Attr{{Name: "a", Kind: api.VkBool, Max: 1}}, api.ErrRange},
		{[]api.Attr{state("a")}, api.ErrLimit},
		{[]api.Attr{state("a", manyNames(64)...)}, api.OK},
		{[]api.Attr{state("a", manyNames(65)...)}, api.ErrLimit},
		{[]api.Attr{state("a", "A")}, api.ErrName},
		{[]api.Attr{state("a", "b", "b")}, api.ErrDup},
		{[]api.Attr{{Name: "a", Kind: api.VkBool, Enum: []string{"a"}}}, api.ErrForm},
		{[]api.Attr{flag("a"), flag("a")}, api.ErrDup},
		{[]api.Attr{flag("a"), number("b", 0, 1), label("a")}, api.ErrDup},
		{[]api.Attr{flag("a"), readonly(flag("b")), flag("b")}, api.ErrDup},
		// Of an attribute, its definition comes first; of a list, the first element.
		{[]api.Attr{flag("a"), {Name: "a"}}, api.ErrKind},
		{[]api.Attr{flag("a"), number("a", 2, 1)}, api.ErrRange},
		{[]api.Attr{{Name: "a"}, flag("a")}, api.ErrKind},
		{[]api.Attr{flag("a"), flag("a"), {}}, api.ErrDup},
		{[]api.Attr{flag("a"), {}, flag("a")}, api.ErrName},
		{[]api.Attr{{}, {}}, api.ErrName},
	} {
		c := api.Cluster{Name: "a", Attrs: row.attrs}
		checkCheck(t, c, row.want)
		checkModel(t, c, api.Value{}, nil)
		c.Commands, c.Events = []api.Command{{Name: "go", Effects: []api.Effect{{Kind: 9}}}}, []string{""}
		checkCheck(t, c, checked(c))
		if row.want != api.OK {
			checkCheck(t, c, row.want)
		}
	}
}

// P21.1: commands, one by one, after attributes and before events.
func TestCheckOfCommands(t *testing.T) {
	for _, row := range []struct {
		commands []api.Command
		want     api.Errno
	}{
		{[]api.Command{{Name: "run"}}, api.OK},
		{[]api.Command{{Name: "run"}, {Name: "flag"}, {Name: "every"}, {Name: "begin"}}, api.OK},
		{[]api.Command{{Name: "run", Param: flag("to"), Effects: []api.Effect{take("flag"), set("number", 5)}}}, api.OK},
		{[]api.Command{{}}, api.ErrName},
		{[]api.Command{{Name: "Run"}}, api.ErrName},
		{[]api.Command{{Name: "run"}, {Name: "run"}}, api.ErrDup},
		{[]api.Command{{Name: "run"}, {Name: "stop"}, {Name: "run", Param: flag("to")}}, api.ErrDup},
		// Of a command: the name, an earlier one, the parameter, and effect by effect.
		{[]api.Command{{Name: "Run", Param: api.Attr{Name: "to"}, Effects: []api.Effect{{Kind: 9}}}}, api.ErrName},
		{[]api.Command{{Name: "run"}, {Name: "run", Param: api.Attr{Name: "to"}}}, api.ErrDup},
		{[]api.Command{{Name: "run"}, {Name: "run", Effects: []api.Effect{{}}}}, api.ErrDup},
		{[]api.Command{{Name: "run", Param: api.Attr{Name: "to"}, Effects: []api.Effect{{}}}}, api.ErrForm},
		{[]api.Command{{Name: "run", Param: number("to", 2, 1), Effects: []api.Effect{{}}}}, api.ErrRange},
		{[]api.Command{{Name: "run", Effects: []api.Effect{toggle("flag"), {Kind: 1}, {}}}}, api.ErrNone},
		// The first command that has an error, and then the first effect.
		{[]api.Command{{Name: "run", Effects: []api.Effect{{Kind: 9}}}, {Name: "Run"}}, api.ErrKind},
		{[]api.Command{{Name: "run", Param: api.Attr{Name: "to"}}, {Name: "run"}}, api.ErrForm},
		{[]api.Command{{Name: "run"}, {Name: "stop", Effects: []api.Effect{toggle("no-such")}}, {Name: "run"}}, api.ErrNone},
		{[]api.Command{{Name: "run", Effects: []api.Effect{toggle("fixed"), {Kind: 9}}}}, api.ErrAccess},
		{[]api.Command{{Name: "run", Effects: []api.Effect{{Kind: api.EfToggle, Attr: "flag", N: 1}, {Kind: 9}}}}, api.ErrForm},
		{[]api.Command{{Name: "run", Effects: []api.Effect{add("number", lastNumber+1), toggle("x")}}}, api.ErrRange},
	} {
		c := every(row.commands...)
		checkCheck(t, c, row.want)
		checkModel(t, c, boolean(1), everyValue())
		c.Events = []string{"a", "a"}
		checkCheck(t, c, checked(c))
		if row.want != api.OK {
			checkCheck(t, c, row.want)
		}
	}
	for _, name := range falseNames() {
		checkCheck(t, every(api.Command{Name: "run"}, api.Command{Name: name}), api.ErrName)
	}
}

// P21.1: parameters.
func TestCheckOfParameters(t *testing.T) {
	for _, row := range []struct {
		param api.Attr
		want  api.Errno
	}{
		{api.Attr{}, api.OK},
		{api.Attr{Enum: []string{}}, api.OK},
		{readonly(flag("to")), api.OK},
		{api.Attr{Name: "flag", Kind: api.VkBool, Writable: true, Safety: true}, api.OK},
		{number("to", -lastNumber, lastNumber), api.OK},
		{state("to", "a", "b"), api.OK},
		{label("to"), api.OK},
		{api.Attr{Name: "to"}, api.ErrForm},
		{api.Attr{Name: "To"}, api.ErrForm},
		{api.Attr{Min: -1}, api.ErrForm},
		{api.Attr{Min: 1}, api.ErrForm},
		{api.Attr{Max: 1}, api.ErrForm},
		{api.Attr{Max: -1}, api.ErrForm},
		{api.Attr{Enum: []string{""}}, api.ErrForm},
		{api.Attr{Enum: []string{"a", "b"}}, api.ErrForm},
		{api.Attr{Writable: true}, api.ErrForm},
		{api.Attr{Safety: true}, api.ErrForm},
		{flag(""), api.ErrName},
		{flag("To"), api.ErrName},
		{api.Attr{Kind: -1}, api.ErrName},
		{api.Attr{Name: "to", Kind: -1}, api.ErrKind},
		{api.Attr{Name: "to", Kind: 5}, api.ErrKind},
		{number("to", 2, 1), api.ErrRange},
		{api.Attr{Name: "to", Kind: api.VkText, Max: 60}, api.ErrRange},
		{state("to"), api.ErrLimit},
		{state("to", "a", "B"), api.ErrName},
		{state("to", "a", "a"), api.ErrDup},
		{api.Attr{Name: "to", Kind: api.VkBool, Enum: []string{"a"}}, api.ErrForm},
	} {
		checkCheck(t, run(row.param), row.want)
		checkModel(t, run(row.param), api.Value{}, everyValue())
	}
	for _, kind := range farKinds() {
		for _, name := range []string{"", "to", "To"} {
			for _, bounds := range [][2]int{{0, 0}, {0, 1}, {-1, 0}, {1, 0}, {lastNumber, math.MaxInt}} {
				for _, members := range [][]string{nil, {}, {"a"}, {"a", "a"}, {""}} {
					for flags := range 4 {
						param := api.Attr{Name: name, Kind: kind, Min: bounds[0], Max: bounds[1], Enum: members, Writable: flags%2 == 1, Safety: flags > 1}
						checkCheck(t, run(param), checked(run(param)))
					}
				}
			}
		}
	}
}

// P21.1: effects.
func TestCheckOfEffects(t *testing.T) {
	for _, row := range []struct {
		param  api.Attr
		effect api.Effect
		want   api.Errno
	}{
		{api.Attr{}, set("flag", 0), api.OK},
		{api.Attr{}, set("flag", 1), api.OK},
		{label("to"), set("number", 100), api.OK},
		{api.Attr{}, set("number", -10), api.OK},
		{api.Attr{}, set("state", 0), api.OK},
		{api.Attr{}, set("state", 2), api.OK},
		{flag("to"), take("flag"), api.OK},
		{number("to", 500, 600), take("number"), api.OK},
		{readonly(state("to", "low", "mid", "high")), take("state"), api.OK},
		{label("to"), take("label"), api.OK},
		{api.Attr{}, add("number", 0), api.OK},
		{api.Attr{}, add("number", lastNumber), api.OK},
		{api.Attr{}, add("other", -lastNumber), api.OK},
		{api.Attr{}, toggle("flag"), api.OK},
		// The kind comes before all other errors.
		{api.Attr{}, api.Effect{}, api.ErrKind},
		{api.Attr{}, api.Effect{Attr: "flag"}, api.ErrKind},
		{api.Attr{}, api.Effect{Kind: 5, Attr: "flag"}, api.ErrKind},
		{api.Attr{}, api.Effect{Kind: -1, Attr: "sensor", N: 7}, api.ErrKind},
		{api.Attr{}, api.Effect{Kind: math.MinInt, Attr: "none"}, api.ErrKind},
		{api.Attr{}, api.Effect{Kind: math.MaxInt}, api.ErrKind},
		// Then whether there is such an attribute.
		{api.Attr{}, set("", 0), api.ErrNone},
		{api.Attr{}, set("Flag", 0), api.ErrNone},
		{api.Attr{}, set("flags", 9), api.ErrNone},
		{flag("to"), take("to"), api.ErrNone},
		{api.Attr{}, add("run", lastNumber+1), api.ErrNone},
		{api.Attr{}, toggle("begin"), api.ErrNone},
		{api.Attr{}, api.Effect{Kind: api.EfToggle, N: 1}, api.ErrNone},
		// Then whether it can be written.
		{api.Attr{}, set("fixed", 0), api.ErrAccess},
		{api.Attr{}, set("sensor", 7), api.ErrAccess},
		{label("to"), take("serial"), api.ErrAccess},
		{api.Attr{}, take("sensor"), api.ErrAccess},
		{api.Attr{}, add("sensor", math.MaxInt), api.ErrAccess},
		{api.Attr{}, add("way", 1), api.ErrAccess},
		{api.Attr{}, api.Effect{Kind: api.EfToggle, Attr: "fixed", N: 1}, api.ErrAccess},
		// Then whether the effect suits it.
		{api.Attr{}, set("flag", 2), api.ErrType},
		{api.Attr{}, set("flag", -1), api.ErrType},
		{api.Attr{}, set("number", -11), api.ErrType},
		{api.Attr{}, set("number", 101), api.ErrType},
		{api.Attr{}, set("number", math.MaxInt), api.ErrType},
		{api.Attr{}, set("number", math.MinInt), api.ErrType},
		{api.Attr{}, set("state", 3), api.ErrType},
		{api.Attr{}, set("state", -1), api.ErrType},
		{api.Attr{}, set("label", 0), api.ErrType},
		{label("to"), set("label", 1), api.ErrType},
		{api.Attr{}, take("flag"), api.ErrType},
		{api.Attr{}, take("label"), api.ErrType},
		{flag("to"), take("number"), api.ErrType},
		{number("to", 0, 1), take("flag"), api.ErrType},
		{number("to", 0, 1), take("state"), api.ErrType},
		{state("to", "low", "mid"), take("state"), api.ErrType},
		{state("to", "low", "mid", "high", "max"), take("state"), api.ErrType},
		{state("to", "high", "mid", "low"), take("state"), api.ErrType},
		{state("to", "low", "mid", "top"), take("state"), api.ErrType},
		{state("to", "low", "mid", "high"), take("number"), api.ErrType},
		{label("to"), api.Effect{Kind: api.EfParam, Attr: "flag", N: 1}, api.ErrType},
		{api.Attr{}, add("flag", 1), api.ErrType},
		{api.Attr{}, add("state", 1), api.ErrType},
		{api.Attr{}, add("label", lastNumber+1), api.ErrType},
		{api.Attr{}, toggle("number"), api.ErrType},
		{api.Attr{}, toggle("state"), api.ErrType},
		{api.Attr{}, api.Effect{Kind: api.EfToggle, Attr: "label", N: 1}, api.ErrType},
		// Then its number.
		{api.Attr{}, add("number", lastNumber+1), api.ErrRange},
		{api.Attr{}, add("number", -lastNumber-1), api.ErrRange},
		{api.Attr{}, add("other", math.MaxInt), api.ErrRange},
		{api.Attr{}, add("other", math.MinInt), api.ErrRange},
		{flag("to"), api.Effect{Kind: api.EfParam, Attr: "flag", N: 1}, api.ErrForm},
		{label("to"), api.Effect{Kind: api.EfParam, Attr: "label", N: -1}, api.ErrForm},
		{number("to", 0, 5), api.Effect{Kind: api.EfParam, Attr: "number", N: 5}, api.ErrForm},
		{api.Attr{}, api.Effect{Kind: api.EfToggle, Attr: "flag", N: 1}, api.ErrForm},
		{api.Attr{}, api.Effect{Kind: api.EfToggle, Attr: "flag", N: math.MinInt}, api.ErrForm},
	} {
		checkCheck(t, run(row.param, row.effect), row.want)
		checkCheck(t, run(row.param, toggle("flag"), row.effect), row.want)
	}
}

// P21.1, P21.3, P21.4, P21.5: every kind of effect on every kind of attribute with
// every kind of parameter, and numbers at and beyond the ends.
func TestAllKindsOfEffects(t *testing.T) {
	attrs, values := []string{"", "to", "run"}, everyValue()
	for _, attr := range every().Attrs {
		attrs = append(attrs, attr.Name)
	}
	for _, n := range []int{-lastNumber - 1, -lastNumber, -11, -10, 0, 2, 5, 6, 7, 100, 101, lastNumber} {
		values = append(values, integer(n))
	}
	values = append(values, api.Value{}, boolean(2), member(2), member(3), textual(strings.Repeat("x", 61)), api.Value{Kind: 9})
	for _, param := range someParams() {
		for _, kind := range []int{math.MinInt, -1, 0, 1, 2, 3, 4, 5, 6, math.MaxInt} {
			for _, attr := range attrs {
				for _, n := range farNumbers() {
					c := run(param, api.Effect{Kind: kind, Attr: attr, N: n})
					err := checked(c)
					checkCheck(t, c, err)
					if err != api.OK {
						continue
					}
					for _, v := range values {
						want, wantErr := applied(c, "run", v, everyValue())
						checkApply(t, c, "run", v, everyValue(), want, wantErr)
					}
				}
			}
		}
	}
}

// P21.1: events, one by one, after all others.
func TestCheckOfEvents(t *testing.T) {
	for _, row := range []struct {
		events []string
		want   api.Errno
	}{
		{[]string{"a"}, api.OK},
		{[]string{"a", "b", "ab", "every", "flag", "run"}, api.OK},
		{[]string{""}, api.ErrName},
		{[]string{"a", "A"}, api.ErrName},
		{[]string{"a", "a"}, api.ErrDup},
		{[]string{"a", "b", "a"}, api.ErrDup},
		{[]string{"a", "b", "b"}, api.ErrDup},
		{[]string{"", "a", "a"}, api.ErrName},
		{[]string{"a", "a", ""}, api.ErrDup},
		{[]string{"", ""}, api.ErrName},
	} {
		c := run(api.Attr{}, toggle("flag"))
		c.Events = row.events
		checkCheck(t, c, row.want)
		checkModel(t, c, api.Value{}, everyValue())
	}
	for _, name := range falseNames() {
		checkCheck(t, api.Cluster{Name: "a", Events: []string{"a", name}}, api.ErrName)
	}
}

// P21.1, P21.7
func TestAll(t *testing.T) {
	a, b, bad := api.Cluster{Name: "a"}, api.Cluster{Name: "b", Events: []string{"a"}}, api.Cluster{Name: "a", Events: []string{"x", "A"}}
	kindless := api.Cluster{Name: "b", Attrs: []api.Attr{{Name: "x"}}}
	for _, row := range []struct {
		l    []api.Cluster
		want api.Errno
	}{
		{nil, api.OK},
		{[]api.Cluster{}, api.OK},
		{[]api.Cluster{a}, api.OK},
		{[]api.Cluster{a, b}, api.OK},
		{[]api.Cluster{b, a, {Name: "ab"}}, api.OK},
		{manyClusters(256), api.OK},
		{manyClusters(257), api.ErrLimit},
		{make([]api.Cluster, 257), api.ErrLimit},
		{append(manyClusters(256), bad), api.ErrLimit},
		{[]api.Cluster{{}}, api.ErrName},
		{make([]api.Cluster, 256), api.ErrName},
		{[]api.Cluster{b, bad}, api.ErrName},
		{[]api.Cluster{kindless}, api.ErrKind},
		{[]api.Cluster{a, a}, api.ErrDup},
		{[]api.Cluster{a, b, {Name: "a", Events: []string{"x"}}}, api.ErrDup},
		{[]api.Cluster{a, b, {Name: "b"}}, api.ErrDup},
		{append(manyClusters(255), api.Cluster{Name: "n0"}), api.ErrDup},
		{append(manyClusters(255), api.Cluster{Name: "n254"}), api.ErrDup},
		// Of a cluster, its own errors come first; of the list, the first cluster.
		{[]api.Cluster{a, bad}, api.ErrName},
		{[]api.Cluster{b, kindless}, api.ErrKind},
		{[]api.Cluster{kindless, b}, api.ErrKind},
		{[]api.Cluster{a, a, bad}, api.ErrDup},
		{[]api.Cluster{a, bad, a}, api.ErrName},
		{[]api.Cluster{kindless, bad}, api.ErrKind},
		{[]api.Cluster{bad, kindless}, api.ErrName},
	} {
		checkAll(t, row.l, row.want)
		checkAll(t, row.l, checkedAll(row.l))
	}
}

// P21.1, P21.7: lists of up to five clusters of a few kinds, in every order.
func TestAllOfAllKindsOfClusters(t *testing.T) {
	kinds := []api.Cluster{
		{Name: "a"}, {Name: "b"}, {Name: "a", Events: []string{"x"}}, {Name: "b", Attrs: []api.Attr{flag("a")}}, {Name: "A"}, {Name: "a", Attrs: []api.Attr{{Name: "x"}}}, {Name: "c", Events: make([]string, 13)},
	}
	lists := [][]api.Cluster{nil}
	for from, round := 0, 0; round < 5; round++ {
		to := len(lists)
		for ; from < to; from++ {
			for _, c := range kinds {
				lists = append(lists, append(slices.Clone(lists[from]), c))
			}
		}
	}
	for _, l := range lists {
		checkAll(t, l, checkedAll(l))
		if cluster.All(l) != api.OK {
			continue
		}
		for i, c := range l {
			checkCheck(t, c, api.OK)
			for _, earlier := range l[:i] {
				if earlier.Name == c.Name {
					t.Fatalf("All accepts two clusters %q", c.Name)
				}
			}
		}
	}
}

// P21.2
func TestAttr(t *testing.T) {
	first, second := state("a", "x", "y"), label("a")
	c := api.Cluster{Name: "c", Attrs: []api.Attr{first, flag("b"), second}, Commands: []api.Command{{Name: "run", Param: label("to")}}, Events: []string{"end"}}
	checkAttr(t, c, "a", state("a", "x", "y"), true)
	checkAttr(t, c, "b", flag("b"), true)
	for _, name := range []string{"", "A", "c", "ab", "run", "to", "end", "x", "\xff", strings.Repeat("a", 5000)} {
		checkAttr(t, c, name, api.Attr{}, false)
		checkAttr(t, api.Cluster{}, name, api.Attr{}, false)
	}
	// Whatever the cluster and its attributes are.
	odd := api.Attr{Kind: -3, Min: math.MaxInt, Max: math.MinInt, Enum: []string{"", ""}, Writable: true, Safety: true}
	wrong := api.Attr{Name: "A b", Kind: 7}
	c = api.Cluster{Name: "C", Attrs: append(manyAttrs(300), odd, wrong, api.Attr{}), Events: []string{""}}
	checkAttr(t, c, "", odd, true)
	checkAttr(t, c, "A b", wrong, true)
	checkAttr(t, c, "n0", flag("n0"), true)
	checkAttr(t, c, "n299", flag("n299"), true)
	checkAttr(t, c, "n300", api.Attr{}, false)
}

// P21.2
func TestCommand(t *testing.T) {
	first := api.Command{Name: "a", Param: state("to", "x", "y"), Effects: []api.Effect{toggle("a"), set("b", 2)}}
	c := api.Cluster{Name: "c", Attrs: []api.Attr{flag("d")}, Commands: []api.Command{first, {Name: "b"}, {Name: "a"}}, Events: []string{"end"}}
	checkCommand(t, c, "a", first, true)
	checkCommand(t, c, "b", api.Command{Name: "b"}, true)
	for _, name := range []string{"", "A", "c", "d", "ab", "to", "end", "x", "\xff", strings.Repeat("a", 5000)} {
		checkCommand(t, c, name, api.Command{}, false)
		checkCommand(t, api.Cluster{}, name, api.Command{}, false)
	}
	// Whatever the cluster and its commands are.
	odd := api.Command{Param: api.Attr{Kind: 9, Min: 1, Enum: []string{""}}, Effects: make([]api.Effect, 40)}
	wrong := api.Command{Name: "A b", Effects: []api.Effect{{Kind: -1, N: math.MinInt}}}
	c = api.Cluster{Commands: append(manyCommands(300), odd, wrong, api.Command{})}
	checkCommand(t, c, "", odd, true)
	checkCommand(t, c, "A b", wrong, true)
	checkCommand(t, c, "n0", api.Command{Name: "n0"}, true)
	checkCommand(t, c, "n299", api.Command{Name: "n299"}, true)
	checkCommand(t, c, "n300", api.Command{}, false)
}

// P21.2: results share no memory with the cluster.
func TestAttrAndCommandAreCopies(t *testing.T) {
	c := api.Cluster{
		Attrs:    []api.Attr{state("a", "x", "y")},
		Commands: []api.Command{{Name: "b", Param: state("to", "x", "y"), Effects: []api.Effect{toggle("a"), set("b", 2)}}},
	}
	before := copyOf(c)
	attr, _ := cluster.Attr(c, "a")
	attr.Enum[0] = "z"
	_ = append(attr.Enum[:1], "z")
	command, _ := cluster.Command(c, "b")
	command.Param.Enum[1] = "z"
	_ = append(command.Param.Enum[:0], "z")
	command.Effects[0].N = 9
	_ = append(command.Effects[:1], toggle("z"))
	if !reflect.DeepEqual(c, before) {
		t.Errorf("the cluster became %#v", c)
	}
	// Not even with the unused end of a list.
	members, effects := []string{"x", "end"}, []api.Effect{toggle("a"), toggle("end")}
	c = api.Cluster{
		Attrs:    []api.Attr{{Name: "a", Enum: members[:1]}},
		Commands: []api.Command{{Name: "b", Param: api.Attr{Enum: members[:1]}, Effects: effects[:1]}},
	}
	attr, _ = cluster.Attr(c, "a")
	_ = append(attr.Enum, "z")
	command, _ = cluster.Command(c, "b")
	_ = append(command.Param.Enum, "z")
	_ = append(command.Effects, toggle("z"))
	if members[1] != "end" || effects[1] != toggle("end") {
		t.Errorf("the ends of the lists became %q and %v", members[1], effects[1])
	}
}

// P21.3: errors, in their order.
func TestErrorsOfApply(t *testing.T) {
	c := every(
		api.Command{Name: "run", Effects: []api.Effect{toggle("flag")}},
		api.Command{Name: "move", Param: number("to", 7, 9), Effects: []api.Effect{take("number")}},
		api.Command{Name: "choose", Param: state("to", "low", "mid", "high"), Effects: []api.Effect{take("state")}},
		api.Command{Name: "write", Param: label("to"), Effects: []api.Effect{take("label")}},
	)
	bad := run(api.Attr{Name: "to"}, toggle("flag"))
	short, long, wrong := everyValue()[:8], append(everyValue(), api.Value{}), everyValue()
	wrong[8] = boolean(0)
	x61 := textual(strings.Repeat("x", 61))
	for _, row := range []struct {
		c       api.Cluster
		command string
		param   api.Value
		vals    []api.Value
		want    api.Errno
	}{
		// The cluster comes first.
		{api.Cluster{}, "run", api.Value{}, nil, api.ErrName},
		{bad, "run", api.Value{}, everyValue(), api.ErrForm},
		{bad, "no-such", boolean(1), nil, api.ErrForm},
		{api.Cluster{Name: "a", Events: []string{"x", "x"}}, "run", boolean(1), short, api.ErrDup},
		// Then the command.
		{c, "", api.Value{}, everyValue(), api.ErrNone},
		{c, "Run", api.Value{}, everyValue(), api.ErrNone},
		{c, "ru", api.Value{}, everyValue(), api.ErrNone},
		{c, "begin", api.Value{}, everyValue(), api.ErrNone},
		{c, "flag", boolean(1), everyValue(), api.ErrNone},
		{c, "to", x61, nil, api.ErrNone},
		{api.Cluster{Name: "a"}, "run", boolean(1), short, api.ErrNone},
		// Then the parameter.
		{c, "run", boolean(0), everyValue(), api.ErrType},
		{c, "run", integer(0), everyValue(), api.ErrType},
		{c, "run", textual(""), everyValue(), api.ErrType},
		{c, "run", api.Value{N: 1}, everyValue(), api.ErrType},
		{c, "run", api.Value{S: "x"}, everyValue(), api.ErrType},
		{c, "run", api.Value{Kind: 9}, everyValue(), api.ErrType},
		{c, "run", api.Value{Kind: -1, N: math.MaxInt}, short, api.ErrType},
		{c, "run", x61, wrong, api.ErrType},
		{c, "move", api.Value{}, everyValue(), api.ErrType},
		{c, "move", boolean(1), everyValue(), api.ErrType},
		{c, "move", member(7), wrong, api.ErrType},
		{c, "move", integer(6), everyValue(), api.ErrRange},
		{c, "move", integer(10), short, api.ErrRange},
		{c, "move", boolean(2), everyValue(), api.ErrRange},
		{c, "move", api.Value{N: 1}, everyValue(), api.ErrRange},
		{c, "move", integer(math.MaxInt), nil, api.ErrRange},
		{c, "move", api.Value{Kind: 5}, long, api.ErrKind},
		{c, "move", api.Value{Kind: api.VkInt, N: 8, S: "x"}, everyValue(), api.ErrForm},
		{c, "choose", member(3), everyValue(), api.ErrRange},
		{c, "choose", member(64), everyValue(), api.ErrRange},
		{c, "choose", textual("low"), everyValue(), api.ErrType},
		{c, "write", x61, everyValue(), api.ErrLimit},
		{c, "write", api.Value{}, everyValue(), api.ErrType},
		// Then the values.
		{c, "run", api.Value{}, nil, api.ErrArg},
		{c, "run", api.Value{}, short, api.ErrArg},
		{c, "run", api.Value{}, long, api.ErrArg},
		{c, "run", api.Value{}, wrong, api.ErrArg},
		{c, "move", integer(8), short, api.ErrArg},
		{c, "move", integer(8), make([]api.Value, 9), api.ErrArg},
		{c, "move", integer(8), make([]api.Value, 1<<20), api.ErrArg},
		{api.Cluster{Name: "a", Commands: manyCommands(2)}, "n1", api.Value{}, make([]api.Value, 1), api.ErrArg},
	} {
		checkApply(t, row.c, row.command, row.param, row.vals, nil, row.want)
	}
	for i := range c.Attrs {
		for _, v := range append(someValues(), everyValue()...) {
			vals := everyValue()
			vals[i] = v
			checkModel(t, c, api.Value{}, vals)
			checkModel(t, c, integer(8), vals)
		}
	}
}

// P21.3, P21.4: effects are executed one after the other, each one limited.
func TestApply(t *testing.T) {
	for _, row := range []struct {
		param   api.Attr
		v       api.Value
		effects []api.Effect
		want    []api.Value // of flag, number, state, label and other
	}{
		{api.Attr{}, api.Value{}, nil, []api.Value{boolean(1), integer(42), member(1), textual("a"), integer(3)}},
		{flag("to"), boolean(0), nil, []api.Value{boolean(1), integer(42), member(1), textual("a"), integer(3)}},
		{api.Attr{}, api.Value{}, []api.Effect{set("flag", 0)}, []api.Value{boolean(0), integer(42), member(1), textual("a"), integer(3)}},
		{api.Attr{}, api.Value{}, []api.Effect{set("flag", 1)}, []api.Value{boolean(1), integer(42), member(1), textual("a"), integer(3)}},
		{api.Attr{}, api.Value{}, []api.Effect{set("number", -10), set("state", 2)}, []api.Value{boolean(1), integer(-10), member(2), textual("a"), integer(3)}},
		{api.Attr{}, api.Value{}, []api.Effect{set("number", 5), set("number", 6)}, []api.Value{boolean(1), integer(6), member(1), textual("a"), integer(3)}},
		{api.Attr{}, api.Value{}, []api.Effect{toggle("flag")}, []api.Value{boolean(0), integer(42), member(1), textual("a"), integer(3)}},
		{api.Attr{}, api.Value{}, []api.Effect{toggle("flag"), toggle("flag")}, []api.Value{boolean(1), integer(42), member(1), textual("a"), integer(3)}},
		{api.Attr{}, api.Value{}, []api.Effect{set("flag", 0), toggle("flag")}, []api.Value{boolean(1), integer(42), member(1), textual("a"), integer(3)}},
		{api.Attr{}, api.Value{}, []api.Effect{add("number", 8)}, []api.Value{boolean(1), integer(50), member(1), textual("a"), integer(3)}},
		{api.Attr{}, api.Value{}, []api.Effect{add("number", -8), add("number", -4)}, []api.Value{boolean(1), integer(30), member(1), textual("a"), integer(3)}},
		// Each of them is limited, not only the last one.
		{api.Attr{}, api.Value{}, []api.Effect{add("number", 100)}, []api.Value{boolean(1), integer(100), member(1), textual("a"), integer(3)}},
		{api.Attr{}, api.Value{}, []api.Effect{add("number", 100), add("number", -100)}, []api.Value{boolean(1), integer(0), member(1), textual("a"), integer(3)}},
		{api.Attr{}, api.Value{}, []api.Effect{add("number", -100), add("number", 100)}, []api.Value{boolean(1), integer(90), member(1), textual("a"), integer(3)}},
		{api.Attr{}, api.Value{}, []api.Effect{add("number", -lastNumber), add("other", lastNumber)}, []api.Value{boolean(1), integer(-10), member(1), textual("a"), integer(5)}},
		{api.Attr{}, api.Value{}, []api.Effect{add("other", 9), add("other", -1), add("number", 1)}, []api.Value{boolean(1), integer(43), member(1), textual("a"), integer(4)}},
		{number("to", -lastNumber, lastNumber), integer(lastNumber), []api.Effect{take("number"), add("number", -1)}, []api.Value{boolean(1), integer(99), member(1), textual("a"), integer(3)}},
		{number("to", -lastNumber, lastNumber), integer(-lastNumber), []api.Effect{take("number"), add("number", 1), take("other")}, []api.Value{boolean(1), integer(-9), member(1), textual("a"), integer(0)}},
		{number("to", 7, 9), integer(8), []api.Effect{take("number"), take("other")}, []api.Value{boolean(1), integer(8), member(1), textual("a"), integer(5)}},
		{number("to", 7, 9), integer(8), []api.Effect{set("number", 1), set("flag", 0)}, []api.Value{boolean(0), integer(1), member(1), textual("a"), integer(3)}},
		{flag("to"), boolean(0), []api.Effect{take("flag")}, []api.Value{boolean(0), integer(42), member(1), textual("a"), integer(3)}},
		{flag("to"), boolean(0), []api.Effect{take("flag"), toggle("flag")}, []api.Value{boolean(1), integer(42), member(1), textual("a"), integer(3)}},
		{flag("to"), boolean(0), []api.Effect{toggle("flag"), take("flag")}, []api.Value{boolean(0), integer(42), member(1), textual("a"), integer(3)}},
		{state("to", "low", "mid", "high"), member(2), []api.Effect{take("state")}, []api.Value{boolean(1), integer(42), member(2), textual("a"), integer(3)}},
		{state("to", "low", "mid", "high"), member(2), []api.Effect{take("state"), set("state", 0)}, []api.Value{boolean(1), integer(42), member(0), textual("a"), integer(3)}},
		{label("to"), textual(""), []api.Effect{take("label")}, []api.Value{boolean(1), integer(42), member(1), textual(""), integer(3)}},
		{label("to"), textual("\x00\xff"), []api.Effect{set("other", 0), take("label")}, []api.Value{boolean(1), integer(42), member(1), textual("\x00\xff"), integer(0)}},
	} {
		c := run(row.param, row.effects...)
		want := append(slices.Clone(row.want), everyValue()[5:]...)
		checkApply(t, c, "run", row.v, everyValue(), want, api.OK)
		checkModel(t, c, row.v, everyValue())
	}
	checkApply(t, api.Cluster{Name: "a", Commands: manyCommands(2)}, "n1", api.Value{}, nil, nil, api.OK)
	checkApply(t, api.Cluster{Name: "a", Commands: manyCommands(2)}, "n0", api.Value{}, []api.Value{}, nil, api.OK)
}

// P21.3, P21.4: of attributes with bounds at the ends of integers, too.
func TestApplyOfFarBounds(t *testing.T) {
	ends := []int{-lastNumber, -lastNumber + 1, -1, 0, 1, lastNumber - 1, lastNumber}
	for _, least := range ends {
		for _, most := range ends {
			if least > most {
				continue
			}
			for _, n := range ends {
				for _, m := range ends {
					c := api.Cluster{Name: "a", Attrs: []api.Attr{number("a", least, most)}, Commands: []api.Command{
						{Name: "once", Effects: []api.Effect{add("a", n)}},
						{Name: "twice", Effects: []api.Effect{add("a", n), add("a", m)}},
						{Name: "take", Param: number("to", -lastNumber, lastNumber), Effects: []api.Effect{take("a"), add("a", n)}},
					}}
					checkModel(t, c, api.Value{}, []api.Value{integer(least)})
					checkModel(t, c, api.Value{}, []api.Value{integer(most)})
					checkModel(t, c, integer(m), []api.Value{integer(most)})
				}
			}
		}
	}
}

// randomAttr returns some valid attribute, half of them writable.
func randomAttr(source *rand.Rand, name string) api.Attr {
	a := []api.Attr{flag(name), number(name, -source.IntN(20), source.IntN(20)), state(name, manyNames(1+source.IntN(3))...), label(name)}[source.IntN(4)]
	a.Writable, a.Safety = source.IntN(2) == 0, source.IntN(2) == 0
	return a
}

// randomValue returns some value that fits an attribute, often one at its ends.
func randomValue(source *rand.Rand, a api.Attr) api.Value {
	switch a.Kind {
	case api.VkBool:
		return boolean(source.IntN(2))
	case api.VkInt:
		return integer(min(max(source.IntN(60)-30, a.Min), a.Max))
	case api.VkEnum:
		return member(source.IntN(len(a.Enum)))
	case api.VkText:
		return textual(strings.Repeat("x", source.IntN(61)))
	}
	return api.Value{}
}

// randomEffect returns some effect, most often one that is valid for the attributes.
func randomEffect(source *rand.Rand, attrs []api.Attr) api.Effect {
	if len(attrs) == 0 || source.IntN(40) == 0 {
		return api.Effect{Kind: source.IntN(6), Attr: "n" + strconv.Itoa(source.IntN(13)), N: source.IntN(5) - 2}
	}
	a := attrs[source.IntN(len(attrs))]
	kinds := map[int][]int{1: {1, 2, 4}, 2: {1, 2, 3}, 3: {1, 2}, 4: {2}}[a.Kind]
	effect := api.Effect{Kind: kinds[source.IntN(len(kinds))], Attr: a.Name}
	switch effect.Kind {
	case api.EfSet:
		effect.N = randomValue(source, a).N
	case api.EfAdd:
		effect.N = source.IntN(60) - 30
	}
	return effect
}

// randomCommand returns some command, most often a valid one.
func randomCommand(source *rand.Rand, name string, attrs []api.Attr) api.Command {
	command := api.Command{Name: name}
	for range source.IntN(13) {
		command.Effects = append(command.Effects, randomEffect(source, attrs))
	}
	for _, effect := range command.Effects {
		for _, a := range attrs {
			if effect.Kind == api.EfParam && effect.Attr == a.Name {
				command.Param = a
			}
		}
	}
	if command.Param.Kind == api.VkInt {
		command.Param.Min, command.Param.Max = -source.IntN(40), source.IntN(40)
	}
	if source.IntN(20) == 0 {
		command.Param = someParams()[source.IntN(len(someParams()))]
	}
	return command
}

// randomCluster returns some cluster, most often a valid one.
func randomCluster(source *rand.Rand) api.Cluster {
	c := api.Cluster{Name: "c" + strconv.Itoa(source.IntN(30))}
	var writable []api.Attr
	for _, name := range manyNames(source.IntN(13)) {
		a := randomAttr(source, name)
		c.Attrs = append(c.Attrs, a)
		if a.Writable || source.IntN(100) == 0 {
			writable = append(writable, a)
		}
	}
	for _, name := range manyNames(source.IntN(13)) {
		c.Commands = append(c.Commands, randomCommand(source, name, writable))
	}
	// The parameter of a command is made for one of its effects, so others may not suit.
	// Most of these are removed.
	for i, command := range c.Commands {
		c.Commands[i].Effects = slices.DeleteFunc(slices.Clone(command.Effects), func(effect api.Effect) bool {
			single := c
			single.Commands, single.Events = []api.Command{{Name: "a", Param: command.Param, Effects: []api.Effect{effect}}}, nil
			return checked(single) != api.OK && source.IntN(200) > 0
		})
	}
	c.Events = manyNames(source.IntN(13))
	return c
}

// spoil changes a field of a cluster.
func spoil(source *rand.Rand, c *api.Cluster) {
	name := append(falseNames(), "n0", "n1", "n11", "other")[source.IntN(21)]
	n := farNumbers()[source.IntN(len(farNumbers()))]
	switch at := source.IntN(12); source.IntN(6) {
	case 0:
		c.Name = name
	case 1:
		if at < len(c.Attrs) {
			spoilAttr(source, &c.Attrs[at], name, n)
		}
	case 2:
		if at < len(c.Events) {
			c.Events[at] = name
		}
	case 3:
		if at < len(c.Commands) {
			c.Commands[at].Name = name
		}
	case 4:
		if at < len(c.Commands) {
			spoilAttr(source, &c.Commands[at].Param, name, n)
		}
	case 5:
		if at < len(c.Commands) && len(c.Commands[at].Effects) > 0 {
			effect := &c.Commands[at].Effects[source.IntN(len(c.Commands[at].Effects))]
			*effect = []api.Effect{{Kind: n, Attr: effect.Attr, N: effect.N}, {Kind: 1 + source.IntN(4), Attr: effect.Attr, N: effect.N}, {Kind: effect.Kind, Attr: name, N: effect.N}, {Kind: effect.Kind, Attr: effect.Attr, N: n}}[source.IntN(4)]
		}
	}
}

// spoilAttr changes a field of an attribute.
func spoilAttr(source *rand.Rand, a *api.Attr, name string, n int) {
	switch source.IntN(7) {
	case 0:
		a.Name = name
	case 1:
		a.Kind = source.IntN(7) - 1
	case 2:
		a.Min = n
	case 3:
		a.Max = n
	case 4:
		a.Enum = append(slices.Clone(a.Enum), name)
	case 5:
		a.Writable = !a.Writable
	case 6:
		a.Safety = !a.Safety
	}
}

// P21.1, P21.2, P21.3, P21.4, P21.5: random clusters, and random changes of them.
func TestRandomClusters(t *testing.T) {
	source := newSource()
	errs, applies := map[api.Errno]int{}, map[api.Errno]int{}
	for range 2000 {
		c := randomCluster(source)
		for range 4 {
			errs[cluster.Check(c)]++
			var vals []api.Value
			for _, a := range c.Attrs {
				vals = append(vals, randomValue(source, usableAttr(source, a)))
			}
			param := api.Value{}
			if len(c.Commands) > 0 {
				command := c.Commands[source.IntN(len(c.Commands))]
				if value.Def(command.Param) == api.OK {
					param = randomValue(source, command.Param)
				}
				_, err := cluster.Apply(c, command.Name, param, vals)
				applies[err]++
			}
			checkModel(t, c, param, vals)
			checkFound(t, c)
			c = copyOf(c)
			spoil(source, &c)
		}
	}
	for _, err := range []api.Errno{api.OK, api.ErrRange, api.ErrLimit, api.ErrForm, api.ErrKind, api.ErrNone, api.ErrDup, api.ErrName, api.ErrType, api.ErrAccess} {
		if errs[err] < 20 {
			t.Errorf("Check returned %d only %d times", err, errs[err])
		}
	}
	for _, err := range []api.Errno{api.OK, api.ErrArg} {
		if applies[err] < 50 {
			t.Errorf("Apply returned %d only %d times", err, applies[err])
		}
	}
}

// usableAttr returns an attribute for which there are values: a itself if it is valid,
// but rarely another one.
func usableAttr(source *rand.Rand, a api.Attr) api.Attr {
	if value.Def(a) != api.OK || source.IntN(100) == 0 {
		return randomAttr(source, "other")
	}
	return a
}

// checkFound checks that Attr and Command return the first element with each name.
func checkFound(t *testing.T, c api.Cluster) {
	t.Helper()
	attrs := map[string]bool{}
	for _, a := range c.Attrs {
		if !attrs[a.Name] {
			checkAttr(t, c, a.Name, a, true)
		}
		attrs[a.Name] = true
	}
	commands := map[string]bool{}
	for _, command := range c.Commands {
		if !commands[command.Name] {
			checkCommand(t, c, command.Name, command, true)
		}
		commands[command.Name] = true
	}
	for _, name := range []string{"no-such", "N0"} {
		checkAttr(t, c, name, api.Attr{}, false)
		checkCommand(t, c, name, api.Command{}, false)
	}
}

// standard are the clusters of the chapter's table.
func standard() []api.Cluster {
	open := api.Attr{Name: "open", Kind: 1, Writable: true, Safety: true}
	return []api.Cluster{
		{Name: "onoff", Attrs: []api.Attr{{Name: "on", Kind: 1, Writable: true}}, Commands: []api.Command{
			{Name: "on", Effects: []api.Effect{{Kind: 1, Attr: "on", N: 1}}},
			{Name: "off", Effects: []api.Effect{{Kind: 1, Attr: "on", N: 0}}},
			{Name: "toggle", Effects: []api.Effect{{Kind: 4, Attr: "on"}}},
		}},
		{Name: "level", Attrs: []api.Attr{{Name: "level", Kind: 2, Min: 0, Max: 100, Writable: true}}, Commands: []api.Command{
			{Name: "move", Param: api.Attr{Name: "to", Kind: 2, Min: 0, Max: 100}, Effects: []api.Effect{{Kind: 2, Attr: "level"}}},
			{Name: "step", Effects: []api.Effect{{Kind: 3, Attr: "level", N: 10}}},
		}},
		{Name: "lock", Attrs: []api.Attr{{Name: "locked", Kind: 1, Writable: true, Safety: true}}, Commands: []api.Command{
			{Name: "lock", Effects: []api.Effect{{Kind: 1, Attr: "locked", N: 1}}},
			{Name: "unlock", Effects: []api.Effect{{Kind: 1, Attr: "locked", N: 0}}},
		}, Events: []string{"jam"}},
		{Name: "thermostat", Attrs: []api.Attr{{Name: "target", Kind: 2, Min: 50, Max: 300, Writable: true}, {Name: "temp", Kind: 2, Min: -500, Max: 1000}}},
		{Name: "smoke", Attrs: []api.Attr{{Name: "alarm", Kind: 1, Safety: true}}, Events: []string{"test"}},
		{Name: "leak", Attrs: []api.Attr{{Name: "wet", Kind: 1, Safety: true}}},
		{Name: "valve", Attrs: []api.Attr{open}, Commands: []api.Command{
			{Name: "open", Effects: []api.Effect{{Kind: 1, Attr: "open", N: 1}}},
			{Name: "close", Effects: []api.Effect{{Kind: 1, Attr: "open", N: 0}}},
		}},
		{Name: "meter", Attrs: []api.Attr{{Name: "power", Kind: 2, Min: 0, Max: 100000}}},
	}
}

// emptied is a list of clusters in which all empty lists are nil.
func emptied(l []api.Cluster) []api.Cluster {
	var after []api.Cluster
	for _, c := range l {
		after = append(after, api.Cluster{Name: c.Name, Attrs: append([]api.Attr(nil), c.Attrs...), Commands: append([]api.Command(nil), c.Commands...), Events: append([]string(nil), c.Events...)})
	}
	return after
}

// P21.6
func TestStandard(t *testing.T) {
	if got := emptied(cluster.Standard()); !reflect.DeepEqual(got, standard()) {
		t.Fatalf("Standard: got %#v, want %#v", got, standard())
	}
	checkAll(t, cluster.Standard(), api.OK)
	for _, c := range cluster.Standard() {
		checkCheck(t, c, api.OK)
		for _, v := range someValues() {
			for _, param := range someValues() {
				checkModel(t, c, param, []api.Value{v})
			}
		}
	}
}

// P21.6: what a caller does with one result changes no other one.
func TestStandardIsNew(t *testing.T) {
	l := cluster.Standard()
	for i := range l {
		c := &l[i]
		for k := range c.Attrs {
			c.Attrs[k] = api.Attr{}
		}
		for k := range c.Commands {
			for m := range c.Commands[k].Effects {
				c.Commands[k].Effects[m] = api.Effect{}
			}
			_ = append(c.Commands[k].Effects, api.Effect{Kind: 9})
			c.Commands[k] = api.Command{}
		}
		for k := range c.Events {
			c.Events[k] = ""
		}
		_ = append(c.Attrs, api.Attr{Name: "x"})
		_ = append(c.Commands, api.Command{Name: "x"})
		_ = append(c.Events, "x")
		for k := range l {
			if k > i && !reflect.DeepEqual(emptied(l[k:k+1]), standard()[k:k+1]) {
				t.Fatalf("with the cluster %d, the cluster %d became %#v", i, k, l[k])
			}
		}
		l[i] = api.Cluster{}
	}
	if got := emptied(cluster.Standard()); !reflect.DeepEqual(got, standard()) {
		t.Fatalf("Standard: got %#v then", got)
	}
}

// P21.6: the effects of the standard commands.
func TestStandardCommands(t *testing.T) {
	l := cluster.Standard()
	for _, row := range []struct {
		index         int
		command       string
		param         api.Value
		before, after api.Value
	}{
		{0, "on", api.Value{}, boolean(0), boolean(1)},
		{0, "on", api.Value{}, boolean(1), boolean(1)},
		{0, "off", api.Value{}, boolean(0), boolean(0)},
		{0, "off", api.Value{}, boolean(1), boolean(0)},
		{1, "move", integer(0), integer(5), integer(0)},
		{1, "move", integer(100), integer(5), integer(100)},
		{1, "step", api.Value{}, integer(0), integer(10)},
		{1, "step", api.Value{}, integer(90), integer(100)},
		{1, "step", api.Value{}, integer(100), integer(100)},
		{2, "lock", api.Value{}, boolean(0), boolean(1)},
		{2, "unlock", api.Value{}, boolean(1), boolean(0)},
		{6, "open", api.Value{}, boolean(0), boolean(1)},
		{6, "close", api.Value{}, boolean(1), boolean(0)},
	} {
		checkApply(t, l[row.index], row.command, row.param, []api.Value{row.before}, []api.Value{row.after}, api.OK)
	}
	for _, row := range []struct {
		index   int
		command string
		want    api.Errno
	}{
		{0, "move", api.ErrNone}, {1, "on", api.ErrNone}, {2, "jam", api.ErrNone}, {3, "target", api.ErrNone}, {4, "test", api.ErrNone}, {5, "wet", api.ErrNone}, {7, "power", api.ErrNone}, {1, "move", api.ErrType},
	} {
		checkApply(t, l[row.index], row.command, api.Value{}, []api.Value{boolean(0)}, nil, row.want)
	}
}
