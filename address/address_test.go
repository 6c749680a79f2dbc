package address_test

import (
	"cmp"
	"math"
	"math/big"
	"math/rand/v2"
	"reflect"
	"regexp"
	"runtime/debug"
	"slices"
	"strconv"
	"strings"
	"testing"
	"unicode/utf8"
	"unsafe"

	"provision/address"
	"provision/api"
)

const (
	longestName   = 64
	longestString = 4096
	mostSteps     = 16
	greatest      = 1 << 53
)

// reservedWords returns the words that are no Type.
func reservedWords() []string {
	return []string{"module", "data", "var", "local", "output", "each", "count", "remote", "path", "self", "change"}
}

func num(n int) api.Key    { return api.Key{Kind: api.KeyNumber, Num: n} }
func str(s string) api.Key { return api.Key{Kind: api.KeyString, Str: s} }

func step(name string, k api.Key) api.ModuleStep { return api.ModuleStep{Name: name, Key: k} }

// steps returns n different module steps.
func steps(n int) []api.ModuleStep {
	var list []api.ModuleStep
	for i := range n {
		list = append(list, step("m"+strconv.Itoa(i), []api.Key{{}, num(i), str("k")}[i%3]))
	}
	return list
}

func managed(module []api.ModuleStep, kind, name string, k api.Key) api.Address {
	return api.Address{Module: module, Type: kind, Name: name, Key: k}
}

func looked(module []api.ModuleStep, kind, name string, k api.Key) api.Address {
	return api.Address{Module: module, Data: true, Type: kind, Name: name, Key: k}
}

// copied returns an address that shares no list with a.
func copied(a api.Address) api.Address {
	a.Module = slices.Clone(a.Module)
	return a
}

// same reports whether two addresses are equal; an empty list and nil are the same.
func same(a, b api.Address) bool {
	modules := slices.Equal(a.Module, b.Module)
	a.Module, b.Module = nil, nil
	return modules && reflect.DeepEqual(a, b)
}

// The forms of texts as the chapter says them, in regular expressions. A string
// key has only those escapes that its literal has.
const (
	identifier = `[A-Za-z_][0-9A-Za-z_]*`
	numberKey  = `\[(0|[1-9][0-9]*)\]`
	stringKey  = `\["((?:[^"\\\x00-\x1f\x7f]|\\[nrt"\\]|\\u\{(?:[0-8bcef]|1[0-9a-f]|7f)\})*)"\]`
	someKey    = `(?:` + numberKey + `|` + stringKey + `)`
)

var (
	identifierForm = regexp.MustCompile(`\A` + identifier + `\z`)
	stepForm       = regexp.MustCompile(`\Amodule\.(` + identifier + `)` + someKey + `?(?:\.|\z)`)
	resourceForm   = regexp.MustCompile(`\A(data\.)?(` + identifier + `)\.(` + identifier + `)` + someKey + `?\z`)
	escapeForm     = regexp.MustCompile(`\\u\{([0-9a-f]+)\}|\\(.)`)
)

// isName reports whether s is an identifier.
func isName(s string) bool {
	return identifierForm.MatchString(s) && len(s) <= longestName
}

// denoted returns the string for which the items of a literal stand.
func denoted(items string) string {
	return escapeForm.ReplaceAllStringFunc(items, func(escape string) string {
		switch escape[1] {
		case 'u':
			n, _ := strconv.ParseUint(escape[3:len(escape)-1], 16, 8)
			return string(rune(n))
		case 'n':
			return "\n"
		case 'r':
			return "\r"
		case 't':
			return "\t"
		}
		return escape[1:]
	})
}

// keyOf returns the key that has the digits or the items, and whether it is valid.
func keyOf(text, digits, items string) (api.Key, bool) {
	switch {
	case digits != "":
		n, _ := new(big.Int).SetString(digits, 10)
		return num(int(n.Int64())), n.Cmp(big.NewInt(greatest)) <= 0
	case strings.HasSuffix(text, `"]`) || strings.HasSuffix(text, `"].`):
		s := denoted(items)
		return str(s), len(s) <= longestString
	}
	return api.Key{}, true
}

// place is what a text means to the model: the steps and, unless it is a module
// path, a resource. It has any number of steps.
type place struct {
	api.Address
	path bool
}

// placeOf returns the place with the text s, and whether there is one.
func placeOf(s string) (place, bool) {
	var p place
	if !utf8.ValidString(s) {
		return p, false
	}
	for strings.HasPrefix(s, "module.") {
		m := stepForm.FindStringSubmatch(s)
		if m == nil {
			return p, false
		}
		k, ok := keyOf(m[0], m[2], m[3])
		if !ok || !isName(m[1]) {
			return p, false
		}
		p.Module = append(p.Module, step(m[1], k))
		s = s[len(m[0]):]
		if s == "" {
			p.path = !strings.HasSuffix(m[0], ".")
			return p, p.path
		}
	}
	m := resourceForm.FindStringSubmatch(s)
	if m == nil {
		return p, false
	}
	k, ok := keyOf(m[0], m[4], m[5])
	p.Data, p.Type, p.Name, p.Key = m[1] != "", m[2], m[3], k
	return p, ok && isName(p.Type) && isName(p.Name) && !slices.Contains(reservedWords(), p.Type)
}

// parsed is what Parse returns for s.
func parsed(s string) (api.Address, api.Errno) {
	p, ok := placeOf(s)
	switch {
	case !ok || p.path:
		return api.Address{}, api.ErrSyntax
	case len(p.Module) > mostSteps:
		return api.Address{}, api.ErrTooDeep
	}
	return p.Address, api.OK
}

// segment is a module step or the resource of a place, as text.
type segment struct {
	name, key string
}

func segmentOf(name string, k api.Key) segment {
	switch k.Kind {
	case api.KeyNumber:
		return segment{name, strconv.Itoa(k.Num)}
	case api.KeyString:
		return segment{name, `"` + k.Str}
	}
	return segment{name, ""}
}

// segments returns the module steps of p and then its resource, if it has one.
func segments(p place) []segment {
	var list []segment
	for _, s := range p.Module {
		list = append(list, segmentOf("module."+s.Name, s.Key))
	}
	switch {
	case p.path:
		return list
	case p.Data:
		return append(list, segmentOf("data."+p.Type+"."+p.Name, p.Key))
	}
	return append(list, segmentOf(p.Type+"."+p.Name, p.Key))
}

// within is what Within returns: the segments of the prefix are the first ones of s, up to missing keys.
func within(s, prefix string) bool {
	a, ok := placeOf(s)
	p, okPrefix := placeOf(prefix)
	if !ok || !okPrefix || a.path || len(a.Module) > mostSteps || len(p.Module) > mostSteps {
		return false
	}
	all, first := segments(a), segments(p)
	if len(first) > len(all) {
		return false
	}
	for i, x := range first {
		if all[i].name != x.name || x.key != "" && all[i].key != x.key {
			return false
		}
	}
	return true
}

// field is one of the things that Compare compares.
type field struct {
	n int
	s string
}

func keyFields(k api.Key) []field {
	return []field{{n: int(k.Kind)}, {n: k.Num}, {s: k.Str}}
}

// fields returns what Compare compares of a, in order. A number before each step,
// and another one behind the last, makes the address with fewer steps come first.
func fields(a api.Address) []field {
	var list []field
	for _, s := range a.Module {
		list = append(list, field{n: 1}, field{s: s.Name})
		list = append(list, keyFields(s.Key)...)
	}
	list = append(list, field{n: 0}, field{n: map[bool]int{true: 1}[a.Data]}, field{s: a.Type}, field{s: a.Name})
	return append(list, keyFields(a.Key)...)
}

// compared is what Compare returns for two addresses with the fields.
func compared(a, b []field) int {
	return slices.CompareFunc(a, b, func(x, y field) int {
		if x.n != y.n {
			return cmp.Compare(x.n, y.n)
		}
		return slices.Compare([]byte(x.s), []byte(y.s))
	})
}

// longName returns an identifier of n bytes.
func longName(n int) string {
	return strings.Repeat("aZ_9", n/4+1)[:n]
}

// sampleKeys returns valid keys of every kind.
func sampleKeys() []api.Key {
	list := []api.Key{{}, num(0), num(1), num(9), num(10), num(101), num(greatest - 1), num(greatest)}
	for _, s := range []string{
		"", "x", "a b", "0", "[0]", "]", "[", `"`, `""`, `"]`, `["`, `"].x`, ".", "a.b", "..", `\`, `\\`, `\n`, `\"`, "\n", "\r", "\t", "\r\n", "\x00", "\x01", "\x0f", "\x1f", "\x7f",
		"${x}", "$${x}", "%{if}", "$", "${", "}", "é", "€", "😀", "\u0080", "\ufffd", "\ufeff", "module.a", "*", "-1", " ", strings.Repeat("x", longestString), strings.Repeat("\x01", longestString),
		strings.Repeat("é", longestString/2), strings.Repeat(`"`, longestString), strings.Repeat("]", 100),
	} {
		list = append(list, str(s))
	}
	return list
}

// sampleNames returns identifiers, all of which may be names, some of them no Types.
func sampleNames() []string {
	list := []string{
		"a", "b", "Z", "_", "__", "_1", "a_1", "A9", "a0", "x_", longName(longestName), strings.Repeat("_", longestName),
		"modules", "module_", "modul", "_module", "Module", "module1", "datas", "data_", "dat", "DATA", "data1", "variable", "vars", "locals", "selfish", "each_", "changed",
	}
	return append(list, reservedWords()...)
}

// sampleTypes returns Types.
func sampleTypes() []string {
	return slices.DeleteFunc(sampleNames(), func(s string) bool { return slices.Contains(reservedWords(), s) })
}

// samples returns valid addresses: with each key and name at each place, and others that follow no simple rule.
func samples() []api.Address {
	var list []api.Address
	for _, k := range sampleKeys() {
		list = append(list, managed(nil, "a", "b", k), looked(nil, "a", "b", k), managed([]api.ModuleStep{step("m", k)}, "a", "b", api.Key{}),
			looked([]api.ModuleStep{step("m", num(1)), step("n", k)}, "a", "b", k))
	}
	for _, name := range sampleNames() {
		list = append(list, managed(nil, "a", name, api.Key{}), looked(nil, "a", name, num(1)), managed([]api.ModuleStep{step(name, str("x"))}, "a", "b", api.Key{}),
			looked([]api.ModuleStep{step(name, api.Key{}), step(name, api.Key{})}, "a", name, api.Key{}))
	}
	for _, kind := range sampleTypes() {
		list = append(list, managed(nil, kind, "b", api.Key{}), looked(nil, kind, kind, str("x")), managed(steps(1), kind, kind, num(0)), looked(steps(2), kind, "b", num(1)))
	}
	for n := range mostSteps + 1 {
		list = append(list, managed(steps(n), "a", "b", api.Key{}), looked(steps(n), "a", "b", str("k")))
	}
	return append(list, mixed(400)...)
}

// mixed returns n valid addresses whose parts are chosen without a simple rule, but always the same.
func mixed(n int) []api.Address {
	next := rand.New(rand.NewPCG(6, 12)).IntN
	keys, names, kinds := sampleKeys(), sampleNames(), sampleTypes()
	keys = slices.DeleteFunc(keys, func(k api.Key) bool { return len(k.Str) > 100 })
	var list []api.Address
	for range n {
		a := api.Address{Data: next(2) == 1, Type: kinds[next(len(kinds))], Name: names[next(len(names))], Key: keys[next(len(keys))]}
		for range next(6) * next(4) {
			a.Module = append(a.Module, step(names[next(len(names))], keys[next(len(keys))]))
		}
		list = append(list, a)
	}
	return list
}

// invalidKeys returns keys that are not valid.
func invalidKeys() []api.Key {
	list := []api.Key{
		{Num: 1}, {Num: -1}, {Str: "x"}, {Str: "\xff"}, {Num: 1, Str: "x"},
		num(-1), num(-greatest), num(greatest + 1), num(math.MaxInt), num(math.MinInt), {Kind: api.KeyNumber, Str: "x"}, {Kind: api.KeyNumber, Num: 1, Str: "x"}, {Kind: api.KeyNumber, Num: -1, Str: "\xff"},
		str("\xff"), str("a\xc3"), str("\xed\xa0\x80"), str("\xc0\x80"), str("\xf4\x90\x80\x80"), str(strings.Repeat("x", longestString+1)), str(strings.Repeat("é", longestString/2) + "x"), str(strings.Repeat("x", 1<<20)),
		{Kind: api.KeyString, Num: 1}, {Kind: api.KeyString, Num: 1, Str: "x"}, {Kind: api.KeyString, Num: -1, Str: "x"},
	}
	for _, kind := range []api.KeyKind{-1, 3, 4, math.MaxInt, math.MinInt} {
		list = append(list, api.Key{Kind: kind}, api.Key{Kind: kind, Num: 1}, api.Key{Kind: kind, Str: "x"})
	}
	return list
}

// invalidNames returns strings that are no identifiers.
func invalidNames() []string {
	return []string{
		"", "1", "1a", "0_", "-", "a-b", "a b", " a", "a ", "a.b", ".", "a[", "a]", "a\n", "\x00", "a\x00", "é", "aé", "\xff", "a\xff", "а", "a$", "a*", `"a"`, "a@", "[", "`", "{", "a/b", "a:",
		longName(longestName + 1), "9" + longName(longestName-1), longName(longestName-1) + "é", longName(longestName-1) + "-", longName(1 << 20),
	}
}

func checkIdentifier(t *testing.T, s string, want bool) {
	t.Helper()
	if got := address.Identifier(s); got != want {
		t.Errorf("Identifier(%.80q), %d bytes = %t; want %t", s, len(s), got, want)
	}
}

func checkCheck(t *testing.T, a api.Address, want api.Errno) {
	t.Helper()
	if got := address.Check(a); got != want {
		t.Errorf("Check(%.300q) = %d; want %d", []any{a}, got, want)
	}
}

// checkParse compares Parse with the model, which it also tells of the error that is expected.
func checkParse(t *testing.T, s string, want api.Errno) {
	t.Helper()
	if _, e := parsed(s); e != want {
		t.Errorf("the model says %d for %.200q; want %d", e, s, want)
	}
	checkModel(t, s)
}

// checkModel compares Parse and Static with the model.
func checkModel(t *testing.T, s string) {
	t.Helper()
	a, e := address.Parse(s)
	want, wantError := parsed(s)
	if e != wantError || !same(a, want) {
		t.Errorf("Parse(%.200q) = %.200q, %d; want %.200q, %d", s, []any{a}, e, []any{want}, wantError)
	}
	text, e := address.Static(s)
	if wantText := static(want, wantError); e != wantError || text != wantText {
		t.Errorf("Static(%.200q) = %q, %d; want %q, %d", s, text, e, wantText, wantError)
	}
}

// static is the first result of Static for a text that has the address a or an error.
func static(a api.Address, e api.Errno) string {
	if e != api.OK {
		return ""
	}
	var list []string
	for _, s := range segments(place{Address: a}) {
		list = append(list, s.name)
	}
	return strings.Join(list, ".")
}

func checkCompare(t *testing.T, a, b api.Address, want int) {
	t.Helper()
	if got := address.Compare(a, b); got != want {
		t.Errorf("Compare(%.200q, %.200q) = %d; want %d", []any{a}, []any{b}, got, want)
	}
}

// checkWithin compares Within with the model, which it also tells of the result that is expected.
func checkWithin(t *testing.T, s, prefix string, want bool) {
	t.Helper()
	if within(s, prefix) != want {
		t.Errorf("the model does not say %t for %.200q and %.200q", want, s, prefix)
	}
	if got := address.Within(s, prefix); got != want {
		t.Errorf("Within(%.200q, %.200q) = %t; want %t", s, prefix, got, want)
	}
}

// P6.1
func TestIdentifier(t *testing.T) {
	for _, s := range sampleNames() {
		checkIdentifier(t, s, true)
	}
	for _, s := range invalidNames() {
		checkIdentifier(t, s, false)
	}
}

// P6.1
func TestIdentifierLengths(t *testing.T) {
	for n := 1; n <= 200; n++ {
		for _, c := range []string{"a", "Z", "_"} {
			checkIdentifier(t, strings.Repeat(c, n), n <= longestName)
			checkIdentifier(t, c+strings.Repeat("9", n-1), n <= longestName)
		}
		checkIdentifier(t, strings.Repeat("9", n), false)
	}
}

// P6.1: every byte at every place of identifiers of every length.
func TestIdentifierBytes(t *testing.T) {
	for c := range 256 {
		text := string([]byte{byte(c)})
		letter := c == '_' || c >= 'a' && c <= 'z' || c >= 'A' && c <= 'Z'
		digit := c >= '0' && c <= '9'
		checkIdentifier(t, text, letter)
		for n := range longestName + 2 {
			checkIdentifier(t, text+longName(n), letter && n < longestName)
			for at := 1; at <= n; at++ {
				checkIdentifier(t, longName(n)[:at]+text+longName(n)[at:], (letter || digit) && n < longestName)
			}
		}
	}
	for a := range 256 {
		for b := range 256 {
			s := string([]byte{byte(a), byte(b)})
			checkIdentifier(t, s, identifierForm.MatchString(s))
		}
	}
}

// P6.2
func TestCheck(t *testing.T) {
	for _, a := range samples() {
		checkCheck(t, a, api.OK)
	}
	checkCheck(t, managed([]api.ModuleStep{}, "a", "b", api.Key{}), api.OK)
}

// P6.2
func TestCheckNames(t *testing.T) {
	checkCheck(t, api.Address{}, api.ErrName)
	for _, name := range invalidNames() {
		for _, data := range []bool{false, true} {
			for _, module := range [][]api.ModuleStep{nil, steps(1), steps(mostSteps)} {
				checkCheck(t, api.Address{Module: module, Data: data, Type: name, Name: "b"}, api.ErrName)
				checkCheck(t, api.Address{Module: module, Data: data, Type: "a", Name: name, Key: num(1)}, api.ErrName)
			}
			for at := range mostSteps {
				module := steps(mostSteps)
				module[at].Name = name
				checkCheck(t, api.Address{Module: module, Data: data, Type: "a", Name: "b"}, api.ErrName)
			}
		}
	}
}

// P6.2: the reserved words are no Types, but names.
func TestCheckReservedWords(t *testing.T) {
	for _, word := range reservedWords() {
		for _, module := range [][]api.ModuleStep{nil, steps(1), {step(word, api.Key{})}} {
			checkCheck(t, managed(module, word, "b", api.Key{}), api.ErrName)
			checkCheck(t, looked(module, word, "b", num(1)), api.ErrName)
			checkCheck(t, managed(module, "a", word, str(word)), api.OK)
			checkCheck(t, looked(module, "a", word, api.Key{}), api.OK)
			for _, kind := range []string{word + "s", word + "_", "_" + word, word + "1", strings.ToUpper(word), strings.ToUpper(word[:1]) + word[1:], word[1:], word[:len(word)-1], word + word} {
				checkCheck(t, managed(module, kind, word, api.Key{}), api.OK)
			}
		}
	}
}

// P6.2
func TestCheckKeys(t *testing.T) {
	for _, k := range invalidKeys() {
		checkCheck(t, managed(nil, "a", "b", k), api.ErrInvalid)
		checkCheck(t, looked(steps(2), "a", "b", k), api.ErrInvalid)
		for at := range mostSteps {
			module := steps(mostSteps)
			module[at].Key = k
			checkCheck(t, managed(module, "a", "b", num(1)), api.ErrInvalid)
		}
	}
}

// fault is something that makes an address invalid.
type fault struct {
	make func(a *api.Address)
	want api.Errno
}

// faults returns faults in the order in which Check finds them, of which some concern the same part.
func faults() []fault {
	list := []fault{{func(a *api.Address) { a.Module = append(a.Module, steps(mostSteps)...) }, api.ErrTooDeep}}
	for at := range 3 {
		list = append(list,
			fault{func(a *api.Address) { a.Module[at].Name = "" }, api.ErrName},
			fault{func(a *api.Address) { a.Module[at].Key = num(-1) }, api.ErrInvalid})
	}
	return append(list,
		fault{func(a *api.Address) { a.Type = "module" }, api.ErrName},
		fault{func(a *api.Address) { a.Name = "1a" }, api.ErrName},
		fault{func(a *api.Address) { a.Key = str("\xff") }, api.ErrInvalid})
}

// P6.2: of two faults, or three, the first one counts.
func TestCheckOrder(t *testing.T) {
	list := faults()
	for i, first := range list {
		for j := i; j < len(list); j++ {
			for k := j; k < len(list); k++ {
				a := managed(steps(3), "a", "b", api.Key{})
				list[k].make(&a)
				list[j].make(&a)
				first.make(&a)
				checkCheck(t, a, first.want)
				if text := address.Format(a); text != "" {
					t.Errorf("Format(%q) = %q", []any{a}, text)
				}
			}
		}
	}
}

// P6.2
func TestCheckDepth(t *testing.T) {
	for n := range 40 {
		want := api.OK
		if n > mostSteps {
			want = api.ErrTooDeep
		}
		checkCheck(t, managed(steps(n), "a", "b", num(1)), want)
		checkCheck(t, looked(steps(n), "a", "b", api.Key{}), want)
	}
	for at := range mostSteps + 1 {
		module := steps(mostSteps + 1)
		module[at] = step("", num(-1))
		checkCheck(t, managed(module, "module", "", num(-1)), api.ErrTooDeep)
	}
	checkCheck(t, api.Address{Module: make([]api.ModuleStep, mostSteps+1)}, api.ErrTooDeep)
	checkCheck(t, api.Address{Module: make([]api.ModuleStep, mostSteps)}, api.ErrName)
}

// P6.3
func TestFormat(t *testing.T) {
	for want, a := range map[string]api.Address{
		"a.b":                                managed(nil, "a", "b", api.Key{}),
		"data.a.b":                           looked(nil, "a", "b", api.Key{}),
		"a.b[0]":                             managed(nil, "a", "b", num(0)),
		`a.b["0"]`:                           managed(nil, "a", "b", str("0")),
		`a.b[""]`:                            managed(nil, "a", "b", str("")),
		"a.b[9007199254740992]":              managed(nil, "a", "b", num(greatest)),
		`module.a["x"].server.web[0]`:        managed([]api.ModuleStep{step("a", str("x"))}, "server", "web", num(0)),
		`module.m["a b"].data.zone.z`:        looked([]api.ModuleStep{step("m", str("a b"))}, "zone", "z", api.Key{}),
		"module.a[7].module.b.t.n":           managed([]api.ModuleStep{step("a", num(7)), step("b", api.Key{})}, "t", "n", api.Key{}),
		`a.b["\"]\n\r\t\\\u{0}\u{7f}é${x}"]`: managed(nil, "a", "b", str("\"]\n\r\t\\\x00\x7fé${x}")),
		"module.module.data.t.module":        looked([]api.ModuleStep{step("module", api.Key{})}, "t", "module", api.Key{}),
		"module.data.t.data":                 managed([]api.ModuleStep{step("data", api.Key{})}, "t", "data", api.Key{}),
		"data.database.module":               looked(nil, "database", "module", api.Key{}),
		"modules.data":                       managed(nil, "modules", "data", api.Key{}),
	} {
		if got := address.Format(a); got != want {
			t.Errorf("Format(%q) = %q; want %q", []any{a}, got, want)
		}
	}
}

// P6.3
func TestFormatInvalid(t *testing.T) {
	var list []api.Address
	for _, f := range faults() {
		a := managed(steps(3), "a", "b", num(2))
		f.make(&a)
		list = append(list, a)
	}
	for _, k := range invalidKeys() {
		list = append(list, managed(nil, "a", "b", k), looked([]api.ModuleStep{step("m", k)}, "a", "b", api.Key{}))
	}
	for _, name := range append(invalidNames(), reservedWords()...) {
		list = append(list, managed(nil, name, "b", api.Key{}), looked(nil, name, "b", api.Key{}))
	}
	for _, name := range invalidNames() {
		list = append(list, managed(nil, "a", name, api.Key{}), managed([]api.ModuleStep{step(name, api.Key{})}, "a", "b", api.Key{}))
	}
	for _, a := range append(list, api.Address{}, managed(steps(mostSteps+1), "a", "b", api.Key{})) {
		if got := address.Format(a); got != "" {
			t.Errorf("Format(%.300q) = %q", []any{a}, got)
		}
	}
}

// P6.4
func TestParse(t *testing.T) {
	for s, want := range map[string]api.Address{
		"a.b":                                   managed(nil, "a", "b", api.Key{}),
		"a.b[0]":                                managed(nil, "a", "b", num(0)),
		"a.b[120]":                              managed(nil, "a", "b", num(120)),
		"a.b[9007199254740992]":                 managed(nil, "a", "b", num(greatest)),
		`a.b["x"]`:                              managed(nil, "a", "b", str("x")),
		`a.b[""]`:                               managed(nil, "a", "b", str("")),
		`a.b["\"]\n\r\t\\\u{0}\u{7f}é${x}"]`:    managed(nil, "a", "b", str("\"]\n\r\t\\\x00\x7fé${x}")),
		"data.a.b":                              looked(nil, "a", "b", api.Key{}),
		"data.a.b[1]":                           looked(nil, "a", "b", num(1)),
		`module.m["a b"].data.zone.z`:           looked([]api.ModuleStep{step("m", str("a b"))}, "zone", "z", api.Key{}),
		`module.a["x"].server.web[0]`:           managed([]api.ModuleStep{step("a", str("x"))}, "server", "web", num(0)),
		`module.a["]."].module.b[1].t.n["[0]"]`: managed([]api.ModuleStep{step("a", str("].")), step("b", num(1))}, "t", "n", str("[0]")),
		"module.module.module.data.t.n":         managed([]api.ModuleStep{step("module", api.Key{}), step("data", api.Key{})}, "t", "n", api.Key{}),
		"module.data.data.t.n":                  looked([]api.ModuleStep{step("data", api.Key{})}, "t", "n", api.Key{}),
		"module.data.t.data":                    managed([]api.ModuleStep{step("data", api.Key{})}, "t", "data", api.Key{}),
		"module.module.t.module":                managed([]api.ModuleStep{step("module", api.Key{})}, "t", "module", api.Key{}),
		"data.t.data":                           looked(nil, "t", "data", api.Key{}),
		"data.t.module":                         looked(nil, "t", "module", api.Key{}),
		"modules.a":                             managed(nil, "modules", "a", api.Key{}),
		"module_.a":                             managed(nil, "module_", "a", api.Key{}),
		"database.a":                            managed(nil, "database", "a", api.Key{}),
		"data_.a":                               managed(nil, "data_", "a", api.Key{}),
		"data.modules.a":                        looked(nil, "modules", "a", api.Key{}),
		"data.data_.a":                          looked(nil, "data_", "a", api.Key{}),
		"module.m.modules.data":                 managed([]api.ModuleStep{step("m", api.Key{})}, "modules", "data", api.Key{}),
		"_._":                                   managed(nil, "_", "_", api.Key{}),
	} {
		got, e := address.Parse(s)
		if e != api.OK || !same(got, want) {
			t.Errorf("Parse(%q) = %q, %d; want %q", s, []any{got}, e, []any{want})
		}
		checkParse(t, s, api.OK)
	}
}

// P6.4
func TestParseSyntax(t *testing.T) {
	for _, s := range []string{
		"", ".", "..", "a", "a.", ".b", "a..b", ".a.b", "a.b.", "a.b.c", "a.b.c.d", " a.b", "a.b ", "a .b", "a. b", "a.b\n", "a.b\x00", "A b", "a/b", "a,b",
		// The keys.
		"a.b[", "a.b]", "a.b[]", "a.b[0", "a.b0]", "a.b[0]]", "a.b[[0]]", "a.b[0][1]", `a.b[0]["x"]`, "a.b[0]x", "a.b[0].", "a.b[0].c", "a.b[0] ", "a.b [0]", "a.b[ 0]", "a.b[0 ]", "a.b.[0]",
		"a.b[01]", "a.b[00]", "a.b[-1]", "a.b[-0]", "a.b[+1]", "a.b[1.0]", "a.b[1e3]", "a.b[0x1]", "a.b[1_0]", "a.b[x]", "a.b['x']", "a.b[*]", "a.b[x\"]", "a.b[0\"]", "a.b[\"0]",
		"a.b[9007199254740993]", "a.b[9223372036854775808]", "a.b[18446744073709551616]", "a.b[-9007199254740992]", "a.b[10000000000000000]", "a.b[" + strings.Repeat("9", 1000) + "]", "a.b[0" + strings.Repeat("9", 15) + "]",
		`a.b["x]`, `a.b["x"`, `a.b["x`, `a.b["`, `a.b["]`, `a.b["x"x]`, `a.b["x" ]`, `a.b[ "x"]`, `a.b["x""]`, `a.b["x"]]`, `a.b["x"]["y"]`, `a.b["x"].`, `a.b["x"].c`, `a.b["x"]c`, `a.b"x"`, `a.b"x"]`, `a.b["x"0]`,
		`a.b["\u{61}"]`, `a.b["\u{a}"]`, `a.b["\u{d}"]`, `a.b["\u{9}"]`, `a.b["\u{22}"]`, `a.b["\u{5c}"]`, `a.b["\u{e9}"]`, `a.b["\u{01}"]`, `a.b["\u{1F}"]`, `a.b["\u{}"]`, `a.b["\u{d800}"]`, `a.b["\u{110000}"]`, `a.b["\x"]`, `a.b["\"]`,
		`a.b["\0"]`, `a.b["\u1"]`, `a.b["x\u{61}"]`, "a.b[\"\n\"]", "a.b[\"\x00\"]", "a.b[\"\x7f\"]", "a.b[\"\x1f\"]", "a.b[\"\xff\"]", "a.b[\"\xc3\"]", "a.b[\"\xed\xa0\x80\"]",
		`a.b["` + strings.Repeat("x", longestString+1) + `"]`, `a.b["` + strings.Repeat(`\n`, longestString+1) + `"]`, `a.b["` + strings.Repeat("é", longestString/2) + `x"]`,
		// A key at a wrong place.
		"a[0].b", `a["x"].b`, "a[0]", "[0]", "[0].a.b", "[0]a.b", "data[0].a.b", "data.a[0].b", "data.[0].a", "module[0].a.b", "module[0].m.a.b", "module.m.a[0].b", "module.[0].a.b", "module.m.[0].a.b",
		"module.m[01].a.b", "module.m[-1].a.b", "module.m[].a.b", "module.m[0]a.b", "module.m[0]..a.b", `module.m["x].a.b`, `module.m[x"].a.b`, `module.m["\u{61}"].a.b`, "module.m[0][1].a.b", "module.m[9007199254740993].a.b",
		// The reserved words.
		"data.a", "data.data", "data.data.a", "data.data.a.b", "data.module.a", "data.module.a.b.c", "data.var.a", "data.a.b.c", "data.", "data", "data..b", "data.a.", "Data.a.b",
		"module", "module.", "module.a", "module.a.", "module.a.b", "module.a.b.", "module..a.b", "module.module", "module.module.a", "module.a.module", "module.a.module.b", "module.a.module.b.c", "module.a.data", "module.a.data.b",
		"module.a.data.module.b.c", "data.module.m.a.b", "module.a[0].module.b", "module.a.t.n.m", "module.1.a.b", "module.a-b.a.b", "Module.m.a.b", "modules.m.a.b", "module.m a.b",
		// The names.
		"1.b", "a.1", "1a.b", "a.1b", "é.b", "a.é", "aé.b", "a-b.c", "a.b-c", "a b.c", "a.b c", "\xff.b", "a.\xff", "a.b\xff", "*.b", "a.*", "a.b*",
		longName(longestName+1) + ".b", "a." + longName(longestName+1), "module." + longName(longestName+1) + ".a.b", "data." + longName(longestName+1) + ".b", "data.a." + longName(longestName+1),
	} {
		checkParse(t, s, api.ErrSyntax)
	}
	for _, word := range reservedWords() {
		for _, s := range []string{word + ".x", word + ".x[0]", "data." + word + ".x", "module.m." + word + ".x", "module.m.data." + word + `.x["k"]`} {
			checkParse(t, s, api.ErrSyntax)
		}
		for _, s := range []string{"a." + word, "data.a." + word, "module." + word + ".a.b", "module." + word + "[0].data.a." + word, word + "_." + word, "data." + word + "1." + word} {
			checkParse(t, s, api.OK)
		}
	}
}

// P6.4: too many module steps are an error only if nothing else is.
func TestParseDepth(t *testing.T) {
	for n := range 4*mostSteps + 4 {
		want := api.OK
		if n > mostSteps {
			want = api.ErrTooDeep
		}
		for _, path := range []string{strings.Repeat("module.m.", n), strings.Repeat("module.m[0].", n), strings.Repeat(`module.module["x.y"].`, n)} {
			for _, s := range []string{"a.b", "a.b[0]", `data.a.b["x"]`, "modules.data"} {
				checkParse(t, path+s, want)
			}
			for _, s := range []string{"", "a", "a.", "a.b.", "a.b.c", "a.b[01]", "a.b[0", `a.b["x]`, "1.b", "a.1", "var.b", "data.module.b", "module", "module.m", "module.m.", "module.m.data", ".a.b", "m.a.b", "data.", " a.b", "a.b "} {
				checkParse(t, path+s, api.ErrSyntax)
			}
			if path != "" {
				checkParse(t, path[:len(path)-1], api.ErrSyntax)
			}
		}
	}
}

// P6.4: an error in any of the steps.
func TestParseDepthWithErrors(t *testing.T) {
	for _, n := range []int{mostSteps, mostSteps + 1, mostSteps + 2, 2 * mostSteps, 2*mostSteps + 1, 3*mostSteps + 1} {
		for at := range n {
			for _, wrong := range []string{"module..", "module.1.", "module.m-.", "module.m[01].", "module.m[-1].", "module.m[0", "module.m", "m.", ".", "data.m.", " ", "module.m[0]..", `module.m["x].`, `module.m["\u{61}"].`, "modules.m.", "module.m[9007199254740993].", "module." + longName(longestName+1) + "."} {
				checkParse(t, strings.Repeat("module.m.", at)+wrong+strings.Repeat("module.m.", n-at-1)+"a.b", api.ErrSyntax)
			}
			checkParse(t, strings.Repeat("module.m.", at)+"data."+strings.Repeat("module.m.", n-at)+"a.b", api.ErrSyntax)
		}
	}
}

// P6.4: every byte at the places of an address.
func TestParseBytes(t *testing.T) {
	for c := range 256 {
		text := string([]byte{byte(c)})
		for _, s := range []string{
			"?.b", "a.?", "a?b.c", "a.b?c", "a?.b", "a.b?", "?a.b", "a?b", "a.b[?]", "a.b[1?]", "a.b[?1]", "a.b[0?", "a.b?0]", `a.b["?"]`, `a.b["x?y"]`, `a.b["\?"]`, `a.b["x"?`, `a.b[?x"]`,
			"module.?.a.b", "module?m.a.b", "module.m?a.b", "module.m[?].a.b", `module.m["?"].a.b`, "module.m[0]?a.b", "data?a.b", "data.?.b", `a.b["\u{?}"]`, `a.b["\u{1?}"]`, `a.b["\u{7?}"]`,
		} {
			checkModel(t, strings.Replace(s, "?", text, 1))
		}
	}
}

// P6.4: texts that differ from the text of an address in one place.
func TestParseChangedTexts(t *testing.T) {
	for _, s := range []string{
		"a.b", "data.a.b[10]", `module.a["x"].server.web[0]`, `module.module[1].module.data.data.t.module["\u{1f}\\\""]`, `a.b["\n].c["]`, "module.m.data.data_.n[9007199254740992]",
		strings.Repeat("module.m.", mostSteps) + "a.b", strings.Repeat("module.m.", mostSteps+1) + "a.b[0]",
	} {
		for at := range len(s) + 1 {
			checkModel(t, s[:at])
			checkModel(t, s[at:])
			for _, x := range []string{".", "[", "]", `"`, "0", "9", "a", "_", "-", " ", `\`, "é", "\xff", "\n", "data.", "module.", "[0]", `["x"]`, ".a", "m", "$"} {
				checkModel(t, s[:at]+x+s[at:])
				if at < len(s) {
					checkModel(t, s[:at]+x+s[at+1:])
					checkModel(t, s[:at]+s[at+1:])
				}
			}
		}
	}
}

// eachText calls do with every sequence of up to length of the parts.
func eachText(parts []string, length int, do func(s string)) {
	texts := []string{""}
	for n := 0; ; n++ {
		var longer []string
		for _, s := range texts {
			do(s)
			for _, part := range parts {
				longer = append(longer, s+part)
			}
		}
		if n == length {
			return
		}
		texts = longer
	}
}

// P6.4: all short sequences of parts of addresses.
func TestParseSequencesOfParts(t *testing.T) {
	eachText([]string{"module", "data", "a", "."}, 8, func(s string) { checkModel(t, s) })
	eachText([]string{"module.", "data.", "m", ".", "[0]", `["a"]`, "var"}, 5, func(s string) { checkModel(t, s) })
	eachText([]string{"[", "]", `"`, "0", "1", "-", " ", `\`, "n", "."}, 4, func(s string) {
		checkModel(t, "a.b"+s)
		checkModel(t, "module.m"+s+".a.b")
	})
	eachText([]string{`\`, "u", "{", "}", "1", "f", "7", "0"}, 5, func(s string) { checkModel(t, `a.b["`+s+`"]`) })
}

// R1: texts of any length, in which the number of steps does not matter either.
func TestLongTexts(t *testing.T) {
	defer debug.SetMaxStack(debug.SetMaxStack(1 << 20))
	const n = 1 << 18
	path := strings.Repeat("module.m.", n)
	for s, want := range map[string]api.Errno{
		path + "a.b": api.ErrTooDeep,
		strings.Repeat("module.m[0].", n) + "a.b": api.ErrTooDeep,
		path:                                    api.ErrSyntax,
		path + "a":                              api.ErrSyntax,
		path + "a.b.":                           api.ErrSyntax,
		path[:len(path)-1]:                      api.ErrSyntax,
		path[1:] + "a.b":                        api.ErrSyntax,
		strings.Repeat("a", n):                  api.ErrSyntax,
		strings.Repeat(".", n):                  api.ErrSyntax,
		strings.Repeat("a.", n):                 api.ErrSyntax,
		strings.Repeat("data.", n) + "a.b":      api.ErrSyntax,
		strings.Repeat("module.", n):            api.ErrSyntax,
		"a." + strings.Repeat("b", n):           api.ErrSyntax,
		"a.b" + strings.Repeat("[", n):          api.ErrSyntax,
		"a.b" + strings.Repeat("[0]", n):        api.ErrSyntax,
		"a.b[" + strings.Repeat("1", n) + "]":   api.ErrSyntax,
		`a.b["` + strings.Repeat("x", n) + `"]`: api.ErrSyntax,
		`a.b["` + strings.Repeat(`\"`, n):       api.ErrSyntax,
	} {
		if a, e := address.Parse(s); e != want || !same(a, api.Address{}) {
			t.Errorf("Parse(%.40q), %d bytes = %q, %d; want %d", s, len(s), []any{a}, e, want)
		}
		if text, e := address.Static(s); e != want || text != "" {
			t.Errorf("Static(%.40q), %d bytes = %q, %d; want %d", s, len(s), text, e, want)
		}
		if address.Within(s, s) || address.Within("a.b", s) || address.Within("module.m.a.b", s) || address.Within(s, "module.m") {
			t.Errorf("Within with %.40q, %d bytes", s, len(s))
		}
	}
	long := managed(steps(n), "a", "b", api.Key{})
	checkCheck(t, long, api.ErrTooDeep)
	checkCompare(t, long, long, 0)
	checkCompare(t, long, managed(steps(n+1), "a", "b", api.Key{}), -1)
}

// P6.5
func TestFormatKey(t *testing.T) {
	for want, k := range map[string]api.Key{
		"":                                 {},
		"[0]":                              num(0),
		"[7]":                              num(7),
		"[120]":                            num(120),
		"[9007199254740992]":               num(greatest),
		`["x"]`:                            str("x"),
		`[""]`:                             str(""),
		`["0"]`:                            str("0"),
		`["a b"]`:                          str("a b"),
		`["\"]\n\r\t\\\u{0}\u{1f}\u{7f}"]`: str("\"]\n\r\t\\\x00\x1f\x7f"),
		`["é€😀"]`:                          str("é€😀"),
		`["${x}"]`:                         str("${x}"),
		`["[0].]["]`:                       str("[0].]["),
		`["` + strings.Repeat("x", longestString) + `"]`:     str(strings.Repeat("x", longestString)),
		`["` + strings.Repeat(`\u{1}`, longestString) + `"]`: str(strings.Repeat("\x01", longestString)),
		`["` + strings.Repeat("é", longestString/2) + `"]`:   str(strings.Repeat("é", longestString/2)),
		`["` + strings.Repeat(`\"`, longestString-1) + `]"]`: str(strings.Repeat(`"`, longestString-1) + "]"),
	} {
		if got := address.FormatKey(k); got != want {
			t.Errorf("FormatKey(%.80q) = %.80q; want %.80q", []any{k}, got, want)
		}
	}
	for _, k := range invalidKeys() {
		if got := address.FormatKey(k); got != "" {
			t.Errorf("FormatKey(%.80q) = %.80q", []any{k}, got)
		}
	}
}

// P6.5: the text of a key is what Parse reads behind a name.
func TestFormatKeyIsReadBack(t *testing.T) {
	for _, k := range sampleKeys() {
		text := address.FormatKey(k)
		if a, e := address.Parse("a.b" + text); e != api.OK || a.Key != k {
			t.Errorf("Parse(a.b%.80s) = %.80q, %d; want the key %.80q", text, []any{a}, e, []any{k})
		}
		if a, e := address.Parse("module.m" + text + ".a.b"); e != api.OK || len(a.Module) != 1 || a.Module[0].Key != k {
			t.Errorf("Parse(module.m%.80s.a.b) = %.80q, %d; want the key %.80q", text, []any{a}, e, []any{k})
		}
	}
}

// P6.6
func TestStatic(t *testing.T) {
	for s, want := range map[string]string{
		`module.a[1].t.n["k"]`:                "module.a.t.n",
		"a.b":                                 "a.b",
		"a.b[0]":                              "a.b",
		`a.b[""]`:                             "a.b",
		`data.a.b["x"]`:                       "data.a.b",
		`module.m["a b"].data.zone.z`:         "module.m.data.zone.z",
		`module.a["]."].module.b[0].t.n["."]`: "module.a.module.b.t.n",
		"module.data[0].data.data_.data[1]":   "module.data.data.data_.data",
		strings.Repeat("module.m[0].", mostSteps) + "a.b[0]": strings.Repeat("module.m.", mostSteps) + "a.b",
	} {
		if got, e := address.Static(s); e != api.OK || got != want {
			t.Errorf("Static(%q) = %q, %d; want %q", s, got, e, want)
		}
	}
	for s, want := range map[string]api.Errno{
		"": api.ErrSyntax, "a": api.ErrSyntax, "module.a": api.ErrSyntax, "a.b[01]": api.ErrSyntax, `a.b["x]`: api.ErrSyntax, "var.a": api.ErrSyntax, `a.b["\u{61}"]`: api.ErrSyntax,
		strings.Repeat("module.m.", mostSteps+1) + "a.b":     api.ErrTooDeep,
		strings.Repeat("module.m.", mostSteps+1) + "a.b[01]": api.ErrSyntax,
	} {
		if got, e := address.Static(s); e != want || got != "" {
			t.Errorf("Static(%q) = %q, %d; want %d", s, got, e, want)
		}
	}
}

// P6.7
func TestCompare(t *testing.T) {
	list := []api.Address{
		managed(nil, "", "", api.Key{}),
		managed(nil, "A", "z", num(5)),
		managed(nil, "_", "z", num(5)),
		managed(nil, "a", "a_", num(5)),
		managed(nil, "a", "b", api.Key{Kind: -1, Num: 5, Str: "z"}),
		managed(nil, "a", "b", api.Key{Num: -1, Str: "x"}),
		managed(nil, "a", "b", api.Key{}),
		managed(nil, "a", "b", api.Key{Str: "x"}),
		managed(nil, "a", "b", api.Key{Num: 1}),
		managed(nil, "a", "b", num(math.MinInt)),
		managed(nil, "a", "b", num(-1)),
		managed(nil, "a", "b", num(0)),
		managed(nil, "a", "b", api.Key{Kind: api.KeyNumber, Str: "x"}),
		managed(nil, "a", "b", num(1)),
		managed(nil, "a", "b", num(2)),
		managed(nil, "a", "b", num(10)),
		managed(nil, "a", "b", num(math.MaxInt)),
		managed(nil, "a", "b", str("")),
		managed(nil, "a", "b", str("0")),
		managed(nil, "a", "b", str("10")),
		managed(nil, "a", "b", str("2")),
		managed(nil, "a", "b", str("Z")),
		managed(nil, "a", "b", str("a")),
		managed(nil, "a", "b", str("a\x00")),
		managed(nil, "a", "b", str("aa")),
		managed(nil, "a", "b", str("é")),
		managed(nil, "a", "b", str("\xff")),
		managed(nil, "a", "b", api.Key{Kind: api.KeyString, Num: 1}),
		managed(nil, "a", "b", api.Key{Kind: 3}),
		managed(nil, "a", "ba", api.Key{}),
		managed(nil, "a", "c", api.Key{}),
		managed(nil, "aa", "b", api.Key{}),
		managed(nil, "b", "a", api.Key{}),
		looked(nil, "a", "b", api.Key{}),
		looked(nil, "a", "b", num(0)),
		looked(nil, "b", "", api.Key{}),
		managed([]api.ModuleStep{step("", num(9))}, "z", "z", api.Key{}),
		managed([]api.ModuleStep{step("m", api.Key{})}, "a", "b", api.Key{}),
		managed([]api.ModuleStep{step("m", api.Key{})}, "a", "b", num(0)),
		looked([]api.ModuleStep{step("m", api.Key{})}, "a", "a", api.Key{}),
		managed([]api.ModuleStep{step("m", api.Key{}), step("a", api.Key{})}, "a", "a", api.Key{}),
		managed([]api.ModuleStep{step("m", num(0))}, "a", "b", api.Key{}),
		managed([]api.ModuleStep{step("m", num(0)), step("a", num(0))}, "a", "a", api.Key{}),
		looked([]api.ModuleStep{step("m", num(0)), step("a", num(1))}, "a", "a", api.Key{}),
		managed([]api.ModuleStep{step("m", num(1))}, "a", "a", api.Key{}),
		managed([]api.ModuleStep{step("m", str("0"))}, "a", "a", api.Key{}),
		managed([]api.ModuleStep{step("ma", api.Key{})}, "a", "a", api.Key{}),
		managed([]api.ModuleStep{step("n", api.Key{})}, "a", "a", api.Key{}),
	}
	for i, a := range list {
		for k, b := range list {
			checkCompare(t, a, b, cmp.Compare(i, k))
		}
	}
	checkCompare(t, managed(nil, "a", "b", api.Key{}), managed([]api.ModuleStep{}, "a", "b", api.Key{}), 0)
}

// manyAddresses returns addresses, valid or not, that differ in few parts.
func manyAddresses() []api.Address {
	keys := []api.Key{{}, {Num: 1}, {Str: "a"}, num(-1), num(0), {Kind: api.KeyNumber, Str: "a"}, num(2), str(""), str("a"), str("\xff"), {Kind: api.KeyString, Num: 1, Str: "a"}, {Kind: -1}, {Kind: 3, Num: -2}}
	var list []api.Address
	for _, k := range keys {
		for _, other := range keys {
			list = append(list, managed([]api.ModuleStep{step("a", k)}, "a", "a", other), managed([]api.ModuleStep{step("a", k), step("a", other)}, "a", "a", api.Key{}))
		}
		for _, name := range []string{"", "a", "aa", "b", "\xff"} {
			list = append(list, managed(nil, name, "a", k), looked(nil, "a", name, k), managed([]api.ModuleStep{step(name, k)}, "a", "b", api.Key{}),
				looked([]api.ModuleStep{step("a", num(0)), step(name, k)}, "a", "b", api.Key{}))
		}
	}
	for n := range mostSteps + 3 {
		list = append(list, managed(steps(n), "a", "a", api.Key{}), looked(steps(n), "a", "a", api.Key{}))
	}
	return list
}

// P6.7, P6.11: the order of all pairs, of which the equal ones are in both places.
func TestCompareIsATotalOrder(t *testing.T) {
	list := append(manyAddresses(), mixed(150)...)
	var orders [][]field
	for _, a := range list {
		orders = append(orders, fields(a))
	}
	for i, a := range list {
		for k, b := range list {
			want := compared(orders[i], orders[k])
			checkCompare(t, a, b, want)
			if (want == 0) != same(a, b) {
				t.Errorf("%q and %q are equal or not, and compared as %d", []any{a}, []any{b}, want)
			}
		}
	}
}

// P6.7: two addresses that differ in one part are ordered by it, whatever the later parts are.
func TestCompareByEachPart(t *testing.T) {
	raise := []func(a *api.Address){
		func(a *api.Address) { a.Module[0].Name = "n" },
		func(a *api.Address) { a.Module[0].Key.Kind++ },
		func(a *api.Address) { a.Module[0].Key.Num++ },
		func(a *api.Address) { a.Module[0].Key.Str += "x" },
		func(a *api.Address) { a.Module[1].Name = "n" },
		func(a *api.Address) { a.Module[1].Key.Kind++ },
		func(a *api.Address) { a.Module[1].Key.Num++ },
		func(a *api.Address) { a.Module[1].Key.Str += "x" },
		func(a *api.Address) { a.Module = append(a.Module, step("", api.Key{})) },
		func(a *api.Address) { a.Data = true },
		func(a *api.Address) { a.Type = "n" },
		func(a *api.Address) { a.Name = "n" },
		func(a *api.Address) { a.Key.Kind++ },
		func(a *api.Address) { a.Key.Num++ },
		func(a *api.Address) { a.Key.Str += "x" },
	}
	base := managed([]api.ModuleStep{step("m", num(1)), step("m", num(1))}, "m", "m", num(1))
	for i, first := range raise {
		a, b := copied(base), copied(base)
		first(&a)
		for _, later := range raise[i+1:] {
			checkCompare(t, a, b, 1)
			checkCompare(t, b, a, -1)
			later(&b)
		}
		checkCompare(t, a, b, 1)
		checkCompare(t, b, a, -1)
	}
}

// P6.8
func TestWithin(t *testing.T) {
	const s = "module.a[0].t.n[1]"
	for prefix, want := range map[string]bool{
		s: true, "module.a": true, "module.a[0]": true, "module.a[0].t.n": true, "module.a.t.n[1]": true, "module.a.t.n": true,
		"module.a[1]": false, `module.a["0"]`: false, "module.b": false, "module.b[0]": false, "module.a[0].t.n[2]": false, `module.a[0].t.n["1"]`: false, "module.a[1].t.n[1]": false, "module.a[1].t.n": false,
		"module.a[0].t.m": false, "module.a[0].u.n": false, "module.a[0].data.t.n": false, "module.b[0].t.n": false, "module.a[0].t": false, "t.n": false, "t.n[1]": false, "a.t.n": false, "n": false,
		"module.a[0].module.a": false, "module.a.module.t": false, "module.a.module.a.t.n": false, "module.t": false, "module.n": false, "": false, "module": false, "module.": false, "module.a.": false, "module.a[0].": false,
		"module.a[0]t.n": false, "module.a[00]": false, "module.a[-0]": false, "Module.a": false, "module.a ": false, " module.a": false, "module.A": false, "module.a[0].t.n.": false, "module.a[0].t.n[1].": false, ".": false,
	} {
		checkWithin(t, s, prefix, want)
	}
	const deep = `module.a["x"].module.b.module.a["x"].data.t.n`
	for prefix, want := range map[string]bool{
		deep: true, "module.a": true, `module.a["x"]`: true, "module.a.module.b": true, `module.a["x"].module.b`: true, "module.a.module.b.module.a": true, `module.a.module.b.module.a["x"]`: true, "module.a.module.b.module.a.data.t.n": true,
		"module.b": false, "module.a[0]": false, `module.a["y"]`: false, `module.a[""]`: false, "module.a.module.a": false, "module.a.module.b[0]": false, `module.a.module.b["x"]`: false, "module.a.module.b.module.a.t.n": false,
		"module.a.module.b.module.a.data.t.n[0]": false, "module.a.module.b.data.t.n": false, "module.a.module.b.module.a.module.t": false, "data.t.n": false, "module.a.module.b.module.a.module.a": false, "module.a.module.b.module.a.data": false,
		"module.a.module.b.module.a.data.t": false, "module.a.module.b.module.a.module.a.data.t.n": false,
	} {
		checkWithin(t, deep, prefix, want)
	}
}

// P6.8: a key of the instance that the prefix does not have, and the other way round.
func TestWithinKeys(t *testing.T) {
	keys := []string{"", "[0]", "[1]", "[10]", `["0"]`, `["1"]`, `[""]`, `["x"]`, `["\n"]`}
	for _, k := range keys {
		for _, other := range keys {
			want := other == "" || k == other
			checkWithin(t, "a.b"+k, "a.b"+other, want)
			checkWithin(t, "data.a.b"+k, "data.a.b"+other, want)
			checkWithin(t, "module.m"+k+".a.b", "module.m"+other, want)
			checkWithin(t, "module.m"+k+".a.b[0]", "module.m"+other+".a.b", want)
			checkWithin(t, "module.m.module.n"+k+".a.b", "module.m.module.n"+other, want)
		}
	}
}

// P6.8: what is no address is not within anything, and nothing is within what is no place.
func TestWithinOfOtherTexts(t *testing.T) {
	long := strings.Repeat("module.m.", mostSteps)
	places := []string{"a.b", "a.b[0]", "data.a.b", "module.m", "module.m.a.b", long + "a.b", long[:len(long)-1], "module.module", "module.data.data.a.b"}
	others := []string{
		"", "a", "a.", "a.b.", "a.b.c", "a.b[", "a.b[01]", `a.b["x]`, `a.b["\u{61}"]`, "var.b", "module", "module.", "module.m.", "module..m", "module.m.a", "module.m.data", "module.1", "module.m[01]", "module.m[-1]", "module.m[0]x", `module.m["x]`,
		"module.m[0][0]", "module.m.n", ".module.m", "m", "data", "data.", "data.a", "modules", "*", "**", "\xff", "module.\xff", long, long + "module.m", long + "module.m.a.b", long + "module.m.", long + "module", "module." + longName(longestName+1),
		"module.m[9007199254740993]", `module.m["\u{a}"]`, "module.m ", " module.m", "module .m",
	}
	for _, other := range others {
		for _, p := range append(places, others...) {
			checkWithin(t, other, p, false)
			checkWithin(t, p, other, false)
		}
	}
	for _, path := range []string{"module.m", "module.module", "module.m[0].module.n", long[:len(long)-1]} {
		for _, p := range places {
			checkWithin(t, path, p, false)
		}
	}
}

// P6.8: module paths of every number of steps up to the greatest, and one more.
func TestWithinDepth(t *testing.T) {
	path := func(n int) string { return strings.TrimSuffix(strings.Repeat("module.m[0].", n), ".") }
	for n := range mostSteps + 3 {
		for k := 1; k <= mostSteps+3; k++ {
			s := strings.Repeat("module.m[0].", n) + "a.b"
			checkWithin(t, s, path(k), n <= mostSteps && k <= n)
			checkWithin(t, s, path(k)+".a.b", n <= mostSteps && k == n)
			checkWithin(t, s, path(k)+".data.a.b", false)
		}
	}
}

// P6.8: all pairs of short places.
func TestWithinOfAllPairs(t *testing.T) {
	var list []string
	eachText([]string{"module.", "m", "a.b", ".", "[0]", "data."}, 5, func(s string) {
		if _, ok := placeOf(s); ok {
			list = append(list, s)
		}
	})
	list = append(list, "a.c", "a.b[1]", `a.b["0"]`, "module.m[1].a.b", "module.m[0].a.b[1]", "module.m[0].module.m[0].a.b[0]", "module.m.module.m.a.b", "module.m[1].module.m", "module.n.a.b", "module.m.data.a.b[0]", "module.m[0].data.a.b")
	for _, s := range list {
		for _, prefix := range list {
			if got, want := address.Within(s, prefix), within(s, prefix); got != want {
				t.Errorf("Within(%q, %q) = %t; want %t", s, prefix, got, want)
			}
		}
	}
	if len(list) < 150 {
		t.Errorf("only %d places", len(list))
	}
}

// P6.9
func TestRoundTrip(t *testing.T) {
	for _, a := range samples() {
		text := address.Format(a)
		got, e := address.Parse(text)
		if e != api.OK || !same(got, a) {
			t.Errorf("Parse(%.200q) = %.200q, %d; want %.200q", text, []any{got}, e, []any{a})
		}
		checkModel(t, text)
	}
}

// P6.9: a text that Parse accepts is that of the address.
func TestRoundTripOfTexts(t *testing.T) {
	accepted := 0
	check := func(s string) {
		a, e := address.Parse(s)
		if e != api.OK {
			return
		}
		accepted++
		if got := address.Format(a); got != s || address.Check(a) != api.OK {
			t.Errorf("Format of the address %q = %q; Check says %d", s, got, address.Check(a))
		}
	}
	eachText([]string{"module.", "data", "m", ".", "[0]", "[00]", `["a"]`, `["\u{61}"]`}, 5, check)
	eachText([]string{"\\", "u", "{", "}", "1", "a", "n", "\""}, 6, func(s string) { check(`a.b["` + s + `"]`) })
	eachText([]string{"0", "1", "9", "-", " ", "]["}, 5, func(s string) { check("a.b[" + s + "]") })
	if accepted < 1000 {
		t.Errorf("only %d texts were accepted", accepted)
	}
}

// P6.9: different addresses have different texts.
func TestDifferentTexts(t *testing.T) {
	of := map[string]api.Address{}
	for _, a := range append(samples(), manyAddresses()...) {
		text := address.Format(a)
		if text == "" {
			continue
		}
		if b, found := of[text]; found && !same(a, b) {
			t.Errorf("%.200q and %.200q have the text %.200q", []any{a}, []any{b}, text)
		}
		of[text] = a
	}
	if len(of) < 500 {
		t.Errorf("only %d texts", len(of))
	}
}

// P6.10
func TestStaticOfInstances(t *testing.T) {
	keys := sampleKeys()
	for i, a := range samples() {
		resource := copied(a)
		resource.Key = api.Key{}
		for k := range resource.Module {
			resource.Module[k].Key = api.Key{}
		}
		want := address.Format(resource)
		for n := range 5 {
			instance := copied(a)
			instance.Key = keys[(i+7*n)%len(keys)]
			for k := range instance.Module {
				instance.Module[k].Key = keys[(i+11*n+k)%len(keys)]
			}
			for _, s := range []string{address.Format(instance), address.Format(a), want} {
				if got, e := address.Static(s); e != api.OK || got != want {
					t.Errorf("Static(%.200q) = %.200q, %d; want %.200q", s, got, e, want)
				}
			}
		}
	}
}

// paths returns the text of the module of a, and that of each module around it, with keys and without.
func paths(a api.Address) []string {
	var list []string
	withKeys, without := "", ""
	for _, s := range a.Module {
		withKeys += ".module." + s.Name + address.FormatKey(s.Key)
		without += ".module." + s.Name
		list = append(list, withKeys[1:], without[1:])
	}
	return list
}

// P6.12
func TestWithinItself(t *testing.T) {
	for _, a := range samples() {
		s := address.Format(a)
		resource, _ := address.Static(s)
		for _, prefix := range append(paths(a), s, resource) {
			if !address.Within(s, prefix) {
				t.Errorf("Within(%.200q, %.200q) is false", s, prefix)
			}
		}
		if a.Key != (api.Key{}) && address.Within(resource, s) {
			t.Errorf("Within(%.200q, %.200q) is true", resource, s)
		}
	}
}

// shares reports whether two strings have bytes in common in memory.
func shares(a, b string) bool {
	x, y := uintptr(unsafe.Pointer(unsafe.StringData(a))), uintptr(unsafe.Pointer(unsafe.StringData(b)))
	return len(a) > 0 && len(b) > 0 && x < y+uintptr(len(b)) && y < x+uintptr(len(a))
}

// R4
func TestResultsShareNoMemory(t *testing.T) {
	for _, text := range []string{`module.first["key"].module.second[1].data.kind.name["other"]`, "module.m.a.b", "kind.name"} {
		s := strings.Clone(text)
		a, _ := address.Parse(s)
		b, _ := address.Parse(s)
		parts := []string{a.Type, a.Name, a.Key.Str}
		for i, x := range a.Module {
			parts = append(parts, x.Name, x.Key.Str)
			a.Module[i] = step("changed", num(9))
		}
		for _, part := range parts {
			if shares(part, s) {
				t.Errorf("%q shares memory with %q", part, s)
			}
		}
		_ = append(a.Module, step("changed", num(9)))
		if address.Format(b) != text {
			t.Errorf("Format(%q) = %q", []any{b}, address.Format(b))
		}
		if static, _ := address.Static(s); shares(static, s) {
			t.Errorf("Static(%q) shares memory with it", s)
		}
	}
	for _, name := range []string{"name", longName(longestName)} {
		name = strings.Clone(name)
		if k := str(name); shares(address.FormatKey(k), name) || shares(address.Format(managed(nil, name, name, k)), name) {
			t.Errorf("a text shares memory with %q", name)
		}
	}
}

// R4
func TestArgumentsAreNotModified(t *testing.T) {
	for _, a := range append(samples(), manyAddresses()...) {
		before := copied(a)
		address.Check(a)
		address.Format(a)
		address.Compare(a, before)
		address.Compare(before, a)
		if !same(a, before) {
			t.Errorf("%.200q became %.200q", []any{before}, []any{a})
		}
	}
}
