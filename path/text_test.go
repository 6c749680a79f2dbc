package path_test

import (
	"math"
	"math/big"
	"math/rand/v2"
	"regexp"
	"slices"
	"strings"
	"testing"

	"provision/api"
	"provision/path"
	"provision/strlit"
)

// errorOf is what Check returns for p.
func errorOf(p []api.PathStep) api.Errno {
	if len(p) > mostSteps {
		return api.ErrTooDeep
	}
	for _, step := range p {
		if step.Index {
			if len(step.Name) > 0 {
				return api.ErrInvalid
			}
			if step.Num < 0 || step.Num > greatest {
				return api.ErrRange
			}
		} else if step.Num != 0 || len(step.Name) > mostString || strings.ToValidUTF8(step.Name, "") != step.Name {
			return api.ErrInvalid
		}
	}
	return api.OK
}

func checkCheck(t *testing.T, p []api.PathStep, want api.Errno) {
	t.Helper()
	if e := path.Check(p); e != want {
		t.Errorf("Check of %d steps, %.200s = %d; want %d", len(p), shown(p), e, want)
	}
	if e := errorOf(p); e != want {
		t.Errorf("the model says %d for %.200s; want %d", e, shown(p), want)
	}
}

// stepsByError returns steps, and the error of each.
func stepsByError() map[api.PathStep]api.Errno {
	return map[api.PathStep]api.Errno{
		{Name: "a"}: api.OK, {}: api.OK, {Name: "b c"}: api.OK, {Name: "\x00"}: api.OK, {Name: "é€😀"}: api.OK, {Name: "\ufffd"}: api.OK, {Name: "1"}: api.OK, {Name: ".["}: api.OK,
		{Name: long(64)}: api.OK, {Name: long(65)}: api.OK, {Name: long(4095)}: api.OK, {Name: long(4096)}: api.OK, {Name: strings.Repeat("é", 2048)}: api.OK,
		{Name: long(4097)}: api.ErrInvalid, {Name: long(100000)}: api.ErrInvalid, {Name: strings.Repeat("é", 2049)}: api.ErrInvalid, {Name: long(4095) + "é"}: api.ErrInvalid,
		{Name: "\xff"}: api.ErrInvalid, {Name: "a\xc3"}: api.ErrInvalid, {Name: "\xc0\x80"}: api.ErrInvalid, {Name: "\xed\xa0\x80"}: api.ErrInvalid, {Name: long(4096) + "\xff"}: api.ErrInvalid,
		{Num: 1}: api.ErrInvalid, {Num: -1}: api.ErrInvalid, {Num: greatest}: api.ErrInvalid, {Num: greatest + 1}: api.ErrInvalid, {Num: math.MaxInt}: api.ErrInvalid, {Num: math.MinInt}: api.ErrInvalid,
		{Num: 1, Name: "a"}: api.ErrInvalid, {Num: -1, Name: "a"}: api.ErrInvalid, {Num: greatest + 1, Name: "\xff"}: api.ErrInvalid,
		{Index: true}: api.OK, {Index: true, Num: 1}: api.OK, {Index: true, Num: greatest - 1}: api.OK, {Index: true, Num: greatest}: api.OK,
		{Index: true, Num: -1}: api.ErrRange, {Index: true, Num: greatest + 1}: api.ErrRange, {Index: true, Num: -greatest}: api.ErrRange, {Index: true, Num: math.MaxInt}: api.ErrRange, {Index: true, Num: math.MinInt}: api.ErrRange,
		{Index: true, Name: "a"}: api.ErrInvalid, {Index: true, Num: 1, Name: "a"}: api.ErrInvalid, {Index: true, Name: "\xff"}: api.ErrInvalid, {Index: true, Name: long(4097)}: api.ErrInvalid, {Index: true, Name: "\x00"}: api.ErrInvalid,
		// The field that is not used comes before the number.
		{Index: true, Num: -1, Name: "a"}: api.ErrInvalid, {Index: true, Num: greatest + 1, Name: "a"}: api.ErrInvalid, {Index: true, Num: -1, Name: "\xff"}: api.ErrInvalid,
	}
}

// P8.1: each step by itself, and beside another one.
func TestCheckSteps(t *testing.T) {
	for step, e := range stepsByError() {
		checkCheck(t, []api.PathStep{step}, e)
		checkCheck(t, []api.PathStep{named("a"), step, index(0)}, e)
		checkCheck(t, append(repeated(31, index(7)), step), e)
		for other, second := range stepsByError() {
			want := e
			if e == api.OK {
				want = second
			}
			checkCheck(t, []api.PathStep{step, other}, want)
			checkCheck(t, []api.PathStep{named(""), step, index(3), other, index(-1)}, firstOf(want, api.ErrRange))
		}
	}
}

func firstOf(a, b api.Errno) api.Errno {
	if a != api.OK {
		return a
	}
	return b
}

// P8.1: the number of steps comes before the errors of the steps.
func TestCheckNumberOfSteps(t *testing.T) {
	for n, want := range map[int]api.Errno{0: api.OK, 1: api.OK, 31: api.OK, 32: api.OK, 33: api.ErrTooDeep, 34: api.ErrTooDeep, 1000: api.ErrTooDeep, 1 << 16: api.ErrTooDeep} {
		checkCheck(t, repeated(n, named("a")), want)
		checkCheck(t, repeated(n, index(0)), want)
		checkCheck(t, make([]api.PathStep, n), want)
	}
	checkCheck(t, nil, api.OK)
	checkCheck(t, []api.PathStep{}, api.OK)
	for step, e := range stepsByError() {
		for _, place := range []int{0, 15, 31, 32} {
			p := repeated(33, named("a"))
			p[place] = step
			checkCheck(t, p, api.ErrTooDeep)
			if place < 32 {
				checkCheck(t, p[:32], e)
			}
		}
	}
}

// textsOfPaths returns paths with their texts.
func textsOfPaths() map[string][]api.PathStep {
	return map[string][]api.PathStep{
		"": nil, `a[0]["b c"]`: steps("a", 0, "b c"), "[3]": steps(3), "[0]": steps(0), "a": steps("a"), "a.b[2]": steps("a", "b", 2), "a.b.c": steps("a", "b", "c"),
		"[0].a": steps(0, "a"), "[0][1]": steps(0, 1), "[12][345].x9": steps(12, 345, "x9"), "[9007199254740992]": steps(greatest), "a[9007199254740991]": steps("a", greatest-1),
		`["b c"]`: steps("b c"), `["b c"].a`: steps("b c", "a"), `["b c"][0]`: steps("b c", 0), `["b c"]["d e"]`: steps("b c", "d e"), `[0]["b c"]`: steps(0, "b c"), `a["b c"].d`: steps("a", "b c", "d"),
		`[""]`: steps(""), `a[""]`: steps("a", ""), `[""].a`: steps("", "a"), `["1"]`: steps("1"), `["1a"]`: steps("1a"), `a["1a"]`: steps("a", "1a"), `["0"][0]`: steps("0", 0),
		"_": steps("_"), "_1._": steps("_1", "_"), "A.Z.z": steps("A", "Z", "z"), "a1_B": steps("a1_B"), "true.null": steps("true", "null"), "module.data": steps("module", "data"),
		`["é"]`: steps("é"), `a["é"]`: steps("a", "é"), `["aé"]`: steps("aé"), `["ａ"]`: steps("ａ"), "[\"\u212a\"]": steps("\u212a"), `["a-b"]`: steps("a-b"), `["a.b"]`: steps("a.b"), `["a[0]"]`: steps("a[0]"),
		`["."]`: steps("."), `["["]`: steps("["), `["]"]`: steps("]"), `["\""]`: steps("\""), `["\\"]`: steps("\\"), `["\n\r\t\u{0}\u{7f}"]`: steps("\n\r\t\x00\x7f"), `[" "]`: steps(" "), `[" a"]["a "]`: steps(" a", "a "),
		`["\"]"]`: steps("\"]"), `["].a[\""].b`: steps("].a[\"", "b"), `["$"]["${a}"]`: steps("$", "${a}"), "[\"\ufffd\U0010ffff\"]": steps("\ufffd\U0010ffff"),
		long(64): steps(long(64)), `["` + long(65) + `"]`: steps(long(65)), "a." + long(64): steps("a", long(64)), `a["` + long(65) + `"]`: steps("a", long(65)), `["` + long(4096) + `"]`: steps(long(4096)),
		"a1" + long(62): steps("a1" + long(62)), `["a1` + long(63) + `"]`: steps("a1" + long(63)), `["1` + long(63) + `"]`: steps("1" + long(63)),
		"a" + strings.Repeat(".b", 31): append(steps("a"), repeated(31, named("b"))...), strings.Repeat("[0]", 32): repeated(32, index(0)), strings.Repeat(`[""]`, 32): repeated(32, named("")),
	}
}

// P8.2 and P8.3: texts and their paths.
func TestTextsOfPaths(t *testing.T) {
	for s, p := range textsOfPaths() {
		if got := path.Format(p); got != s {
			t.Errorf("Format(%.200s) = %.200q; want %.200q", shown(p), got, s)
		}
		if got, e := path.Parse(s); e != api.OK || !slices.Equal(got, p) {
			t.Errorf("Parse(%.200q) = %.200s, %d", s, shown(got), e)
		}
		if got := textOf(p); got != s {
			t.Errorf("the model writes %.200q; want %.200q", got, s)
		}
	}
}

// P8.2: each byte and each pair of bytes as a name, and each byte at the places of a longer one.
func TestNamesInTexts(t *testing.T) {
	isNameByte := func(c byte, first bool) bool {
		return 'a' <= c && c <= 'z' || 'A' <= c && c <= 'Z' || c == '_' || !first && '0' <= c && c <= '9'
	}
	check := func(name string, plain bool) {
		want := [3]string{name, "a." + name, "[5]." + name}
		if !plain {
			in := "[" + strlit.Quote(name) + "]"
			want = [3]string{in, "a" + in, "[5]" + in}
		}
		got := [3]string{path.Format(steps(name)), path.Format(steps("a", name)), path.Format(steps(5, name))}
		if got != want {
			t.Errorf("the texts for the name %q are %q; want %q", name, got, want)
		}
	}
	for i := range 128 {
		check(string(rune(i)), isNameByte(byte(i), true))
		check("a"+string(rune(i))+"b", isNameByte(byte(i), false))
		for k := range 128 {
			check(string([]byte{byte(i), byte(k)}), isNameByte(byte(i), true) && isNameByte(byte(k), false))
		}
	}
	for r := rune(128); r < 0x3000; r++ {
		check(string(r), false)
		check("a"+string(r), false)
	}
	for size := 1; size < 200; size++ {
		check(long(size), size <= 64)
		check("_"+long(size-1), size <= 64)
		check(strings.Repeat("é", size), false)
	}
}

// P8.8: for all short paths of these steps, and for random ones.
func TestPathsAreReadBack(t *testing.T) {
	check := func(p []api.PathStep) {
		s := path.Format(p)
		if want := textOf(p); s != want {
			t.Fatalf("Format(%.200s) = %.200q; want %.200q", shown(p), s, want)
		}
		got, e := path.Parse(s)
		switch {
		case len(s) <= mostText && (e != api.OK || !slices.Equal(got, p)):
			t.Fatalf("Parse(%.200q) = %.200s, %d; want %.200s", s, shown(got), e, shown(p))
		case len(s) > mostText && (e != api.ErrTooLong || len(got) != 0):
			t.Fatalf("Parse of %d bytes = %.200s, %d", len(s), shown(got), e)
		}
	}
	names := []string{"", "a", "b c", "0", "\"", "]", "[0]", ".a", "é", "\\u{61}", "\x01", long(64), long(65)}
	choices := []api.PathStep{index(0), index(10), index(greatest)}
	for _, name := range names {
		choices = append(choices, named(name))
	}
	for _, p := range paths(4, choices...) {
		check(p)
	}
	r := rand.New(rand.NewPCG(8, 8))
	for range 6000 {
		var p []api.PathStep
		for range r.IntN(33) {
			switch r.IntN(12) {
			case 0:
				p = append(p, named(strings.Repeat(choose(r, "a", " ", "\x01", "é"), r.IntN(2049))))
			case 1, 2, 3:
				p = append(p, index(int(r.Uint64N(greatest+1)>>r.IntN(54))))
			default:
				p = append(p, choose(r, choices...))
			}
		}
		check(p)
	}
}

// pathOfSize returns a valid path whose text has so many bytes, of which there are many.
func pathOfSize(size int) []api.PathStep {
	var p []api.PathStep
	for size > 4100 {
		n := min(4096, size-4-70)
		p = append(p, named(long(n)))
		size -= n + 4
	}
	return append(p, named(long(size-4)))
}

// P8.3 and P8.8: texts at MaxText.
func TestLongTexts(t *testing.T) {
	for size, want := range map[int]api.Errno{65530: api.OK, 65535: api.OK, 65536: api.OK, 65537: api.ErrTooLong, 65600: api.ErrTooLong, 100000: api.ErrTooLong} {
		p := pathOfSize(size)
		s := path.Format(p)
		if len(s) != size || path.Check(p) != api.OK || s != textOf(p) {
			t.Fatalf("the text of the path has %d bytes; want %d", len(s), size)
		}
		got, e := path.Parse(s)
		if e != want || want == api.OK && !slices.Equal(got, p) || want != api.OK && len(got) != 0 {
			t.Errorf("Parse of %d bytes = %d steps, %d", size, len(got), e)
		}
	}
	for _, s := range []string{
		strings.Repeat(".", 65537), strings.Repeat("[", 65537), strings.Repeat("[0]", 65537), strings.Repeat("\xff", 65537), long(65537), "a" + strings.Repeat(" ", 65536),
		"[" + strings.Repeat("9", 65536), `["` + long(65535), strings.Repeat("a.", 32769), `["a"]` + long(65532), strings.Repeat("a", 1<<22),
	} {
		checkError(t, s, api.ErrTooLong)
	}
	checkError(t, strings.Repeat(".", 65536), api.ErrSyntax)
	checkError(t, "["+strings.Repeat("9", 65535), api.ErrRange)
	checkError(t, `["`+long(65534), api.ErrTruncated)
	checkError(t, `["`+long(65533)+`"`, api.ErrTooLong)
	checkError(t, strings.Repeat("[0]", 21845), api.ErrTooDeep)
	checkError(t, long(65536), api.ErrSyntax)
}

func checkError(t *testing.T, s string, want api.Errno) {
	t.Helper()
	if p, e := path.Parse(s); e != want || len(p) != 0 {
		t.Errorf("Parse(%.100q) = %.200s, %d; want %d", s, shown(p), e, want)
	}
	if _, e := parsed(s); e != want {
		t.Errorf("the model says %d for %.100q; want %d", e, s, want)
	}
}

// P8.3: texts with one error.
func TestParseErrors(t *testing.T) {
	for s, want := range map[string]api.Errno{
		// Dots.
		".": api.ErrSyntax, ".a": api.ErrSyntax, "a.": api.ErrSyntax, "a..b": api.ErrSyntax, "..": api.ErrSyntax, "a.b.": api.ErrSyntax, "a.b..c": api.ErrSyntax, "[0].": api.ErrSyntax, "[0]..a": api.ErrSyntax, "[0]a": api.ErrSyntax,
		`["b c"]a`: api.ErrSyntax, `["b c"].`: api.ErrSyntax, "a.[0]": api.ErrSyntax, ".[0]": api.ErrSyntax, "[0].[1]": api.ErrSyntax, `a.["b c"]`: api.ErrSyntax, "a.b.[0]": api.ErrSyntax, "[0]a.b": api.ErrSyntax,
		// Names.
		"1": api.ErrSyntax, "1a": api.ErrSyntax, "a.1": api.ErrSyntax, "a.1a": api.ErrSyntax, "[0].1": api.ErrSyntax, "a b": api.ErrSyntax, " a": api.ErrSyntax, "a ": api.ErrSyntax, "a.b ": api.ErrSyntax, "a. b": api.ErrSyntax, "a\n": api.ErrSyntax,
		"a-b": api.ErrSyntax, "é": api.ErrSyntax, "a.é": api.ErrSyntax, "aé": api.ErrSyntax, "\xff": api.ErrSyntax, "a\xff": api.ErrSyntax, "\x00": api.ErrSyntax, "a\x00": api.ErrSyntax, "*": api.ErrSyntax, "a.*": api.ErrSyntax, "$": api.ErrSyntax,
		"\"a\"": api.ErrSyntax, "a.\"b\"": api.ErrSyntax, "a\"": api.ErrSyntax, "-1": api.ErrSyntax, "a,b": api.ErrSyntax, "a/b": api.ErrSyntax, "ａ": api.ErrSyntax, "\u212a": api.ErrSyntax,
		long(65): api.ErrSyntax, "a." + long(65): api.ErrSyntax, "[0]." + long(65): api.ErrSyntax, long(65) + "[0]": api.ErrSyntax, "_" + long(64): api.ErrSyntax, long(4096): api.ErrSyntax,
		// Brackets.
		"[": api.ErrSyntax, "]": api.ErrSyntax, "[]": api.ErrSyntax, "[[": api.ErrSyntax, "[[0]": api.ErrSyntax, "[[0]]": api.ErrSyntax, "[0]]": api.ErrSyntax, "[0": api.ErrSyntax, "a[": api.ErrSyntax, "a]": api.ErrSyntax, "a[]": api.ErrSyntax, "a[0": api.ErrSyntax, "a[0[": api.ErrSyntax, "a[0]]": api.ErrSyntax, "0]": api.ErrSyntax,
		"[a]": api.ErrSyntax, "[a": api.ErrSyntax, "a[b]": api.ErrSyntax, "[0a]": api.ErrSyntax, "[0 ]": api.ErrSyntax, "[ 0]": api.ErrSyntax, "[ ]": api.ErrSyntax, "[ \"a b\"]": api.ErrSyntax, "[\"a b\" ]": api.ErrSyntax, "[0.0]": api.ErrSyntax, "[0,1]": api.ErrSyntax, "[0][": api.ErrSyntax, "[0][]": api.ErrSyntax, "[1e3]": api.ErrSyntax, "[0x1]": api.ErrSyntax, "[1_0]": api.ErrSyntax, "['a b']": api.ErrSyntax, "[`a b`]": api.ErrSyntax, "[a\"b\"]": api.ErrSyntax,
		// Numbers.
		"[00]": api.ErrSyntax, "[01]": api.ErrSyntax, "[03]": api.ErrSyntax, "a[007]": api.ErrSyntax, "[-1]": api.ErrSyntax, "[-0]": api.ErrSyntax, "[+1]": api.ErrSyntax, "[+0]": api.ErrSyntax, "[-]": api.ErrSyntax, "[-9007199254740993]": api.ErrSyntax, "[\u0661]": api.ErrSyntax, "[1\u0662]": api.ErrSyntax,
		"[9007199254740993]": api.ErrRange, "a[9007199254740993]": api.ErrRange, "[90071992547409920]": api.ErrRange, "[18446744073709551616]": api.ErrRange, "[18446744073709551617]": api.ErrRange, "[99999999999999999999999999]": api.ErrRange, "[" + strings.Repeat("9", 10000) + "]": api.ErrRange,
		"[0" + strings.Repeat("9", 10000) + "]": api.ErrSyntax, "[09007199254740993]": api.ErrSyntax,
		// Literals.
		`["a"]`: api.ErrSyntax, `["_"]`: api.ErrSyntax, `a["b"]`: api.ErrSyntax, `[0]["a1"]`: api.ErrSyntax, `["b c"]["a"]`: api.ErrSyntax, `["a"]["b c"]`: api.ErrSyntax, `["` + long(64) + `"]`: api.ErrSyntax, `["a"].b[0]`: api.ErrSyntax,
		`["\u{61}"]`: api.ErrSyntax, `["\u{61} b"]`: api.ErrSyntax, `["\u{20}"]`: api.ErrSyntax, `["\u{a}"]`: api.ErrSyntax, `["\u{9}"]`: api.ErrSyntax, `["\u{22}"]`: api.ErrSyntax, `["\u{5c}"]`: api.ErrSyntax, `["\u{e9}"]`: api.ErrSyntax, `a["b\u{20}c"][0]`: api.ErrSyntax, `["\u{1f600}"]`: api.ErrSyntax,
		`["`: api.ErrTruncated, `["a`: api.ErrTruncated, `["b c`: api.ErrTruncated, `["\`: api.ErrTruncated, `["\"`: api.ErrTruncated, `["\"]`: api.ErrTruncated, `["\u`: api.ErrTruncated, `["\u{`: api.ErrTruncated, `["\u{4`: api.ErrTruncated, `["\u{000041`: api.ErrTruncated, `a["`: api.ErrTruncated, `a["b]`: api.ErrTruncated, `["b c]`: api.ErrTruncated, `["]`: api.ErrTruncated,
		`["\x"]`: api.ErrSyntax, `["\x`: api.ErrSyntax, `["\u{041}"]`: api.ErrSyntax, `["\u{d800}"]`: api.ErrSyntax, `["\u{110000}"]`: api.ErrSyntax, `["\u{}"]`: api.ErrSyntax, "[\"\n\"]": api.ErrSyntax, "[\"\x7f\"]": api.ErrSyntax, "[\"\xff\"]": api.ErrSyntax, "[\"\xc3\"]": api.ErrSyntax, "[\"\xc3": api.ErrSyntax,
		`["b c"`: api.ErrSyntax, `["b c"x]`: api.ErrSyntax, `["b c""]`: api.ErrSyntax, `["b c"0]`: api.ErrSyntax, `["b c"[0]]`: api.ErrSyntax, `["b c".a`: api.ErrSyntax, `["a"`: api.ErrSyntax, `[""`: api.ErrSyntax, `["""]`: api.ErrSyntax, `["b c" "d e"]`: api.ErrSyntax, `["b c"]]`: api.ErrSyntax, `["b c"]"`: api.ErrSyntax,
		`["` + long(4097) + `"]`: api.ErrTooLong, `["` + strings.Repeat("é", 2049) + `"]`: api.ErrTooLong, `a["` + strings.Repeat(`\n`, 4097) + `"]`: api.ErrTooLong, `["` + long(4097) + `"`: api.ErrTooLong, `["` + long(4097): api.ErrTruncated, `["` + strings.Repeat(`\u{e9}`, 2049) + `"]`: api.ErrTooLong,
	} {
		checkError(t, s, want)
	}
}

// P8.3: of two errors, the first one from the left is returned, and that of another spelling at last.
func TestParseTwoErrors(t *testing.T) {
	tooLong := `["` + long(4097) + `"]`
	deep := strings.Repeat("[0]", 32)
	for s, want := range map[string]api.Errno{
		"[9007199254740993": api.ErrRange, "[9007199254740993x": api.ErrRange, "[9007199254740993x]": api.ErrRange, "[9007199254740993\"": api.ErrRange, "[9007199254740993-1]": api.ErrRange, "[9007199254740993]a": api.ErrRange, "[9007199254740993][": api.ErrRange,
		"[03": api.ErrSyntax, "[03x]": api.ErrSyntax, "[03][9007199254740993]": api.ErrSyntax, "[x9007199254740993]": api.ErrSyntax, "[9007199254740993][03]": api.ErrRange, "[9007199254740993][\"": api.ErrRange, "[0x][9007199254740993]": api.ErrSyntax,
		`["x`: api.ErrTruncated, `["x"][9007199254740993]`: api.ErrRange, `["x"]["`: api.ErrTruncated, `["x"].`: api.ErrSyntax, `["x"]` + tooLong: api.ErrTooLong, `["\u{61}"][9007199254740993]`: api.ErrRange, `["\u{20}"]["\`: api.ErrTruncated,
		`[9007199254740993]["x"]`: api.ErrRange, `["b c"x["`: api.ErrSyntax, `["x"x["`: api.ErrSyntax, `["\x"]["`: api.ErrSyntax, `["` + long(4097) + `"x`: api.ErrTooLong, tooLong + "[9007199254740993]": api.ErrTooLong, "[9007199254740993]" + tooLong: api.ErrRange, "a." + tooLong: api.ErrSyntax, ".a" + tooLong: api.ErrSyntax,
		"a..b[9007199254740993]": api.ErrSyntax, "a[9007199254740993]..b": api.ErrRange, "1a[9007199254740993]": api.ErrSyntax, "[0]a[9007199254740993]": api.ErrSyntax, ".[9007199254740993]": api.ErrSyntax, "a.[\"": api.ErrSyntax, "a.[9007199254740993]": api.ErrSyntax, "é[\"": api.ErrSyntax, "[\"[9007199254740993]": api.ErrTruncated, "[[9007199254740993]": api.ErrSyntax, "[9007199254740993[": api.ErrRange,
		// The number of the steps before a step comes before what is wrong in it.
		deep + "[0]": api.ErrTooDeep, deep + ".a": api.ErrTooDeep, deep + "a": api.ErrTooDeep, deep + ".": api.ErrTooDeep, deep + "[": api.ErrTooDeep, deep + "]": api.ErrTooDeep, deep + "[9007199254740993]": api.ErrTooDeep, deep + `["`: api.ErrTooDeep, deep + tooLong: api.ErrTooDeep, deep + " ": api.ErrTooDeep, deep + "\xff": api.ErrTooDeep, deep + "[0][9007199254740993]": api.ErrTooDeep,
		"[9007199254740993]" + deep: api.ErrRange, `["` + deep: api.ErrTruncated, "." + deep: api.ErrSyntax, tooLong + deep: api.ErrTooLong, deep[:93] + "[9007199254740993]": api.ErrRange, deep[:93] + "[9007199254740993][0]": api.ErrRange, deep[:93] + `["`: api.ErrTruncated, deep[:93] + ".[0]": api.ErrSyntax, deep[:93] + "a": api.ErrSyntax, deep[:93] + ".a.b": api.ErrTooDeep,
		`["x"]` + deep: api.ErrTooDeep, `["x"]` + deep[:93]: api.ErrSyntax, deep[:93] + `["x"]`: api.ErrSyntax, deep[:93] + `["x"].y`: api.ErrTooDeep, "a" + strings.Repeat(".a", 32): api.ErrTooDeep, "a" + strings.Repeat(".a", 31) + ".": api.ErrTooDeep, "a" + strings.Repeat(".a", 30) + ".": api.ErrSyntax, "a" + strings.Repeat(".a", 31) + " ": api.ErrSyntax,
	} {
		checkError(t, s, want)
	}
}

var (
	shownNumber = regexp.MustCompile(`^(0|[1-9][0-9]*)$`)
	nextDigits  = regexp.MustCompile(`^\[([0-9]*)`)
	nextName    = regexp.MustCompile(`(?s)^(\.?)([^.\[]*)`)
)

// parsed is what Parse returns for s.
func parsed(s string) ([]api.PathStep, api.Errno) {
	if len(s) > mostText {
		return nil, api.ErrTooLong
	}
	var p []api.PathStep
	for rest := s; rest != ""; {
		if len(p) == mostSteps {
			return nil, api.ErrTooDeep
		}
		var step api.PathStep
		if strings.HasPrefix(rest, `["`) {
			name, size, e := strlit.Unquote(rest[1:])
			if e != api.OK {
				return nil, e
			}
			step.Name, rest = name, rest[size+1:]
		} else if found := nextDigits.FindStringSubmatch(rest); found != nil {
			if !shownNumber.MatchString(found[1]) {
				return nil, api.ErrSyntax
			}
			n, _ := new(big.Int).SetString(found[1], 10)
			if n.Cmp(big.NewInt(greatest)) > 0 {
				return nil, api.ErrRange
			}
			step, rest = index(int(n.Int64())), rest[len(found[0]):]
		} else {
			found := nextName.FindStringSubmatch(rest)
			if (found[1] == ".") != (len(p) > 0) || !identifier.MatchString(found[2]) {
				return nil, api.ErrSyntax
			}
			p, rest = append(p, named(found[2])), rest[len(found[0]):]
			continue
		}
		if rest == "" || rest[0] != ']' {
			return nil, api.ErrSyntax
		}
		p, rest = append(p, step), rest[1:]
	}
	if textOf(p) != s {
		return nil, api.ErrSyntax
	}
	return p, api.OK
}

func checkParse(t *testing.T, s string) {
	t.Helper()
	want, wantErr := parsed(s)
	got, e := path.Parse(s)
	if e != wantErr || !slices.Equal(got, want) {
		t.Fatalf("Parse(%.200q) = %.200s, %d; want %.200s, %d", s, shown(got), e, shown(want), wantErr)
	}
	if e == api.OK && (path.Check(got) != api.OK || path.Format(got) != s) {
		t.Fatalf("Parse(%.200q) = %.200s, whose text is %.200q", s, shown(got), path.Format(got))
	}
}

// checkSequences checks all sequences of up to count parts.
func checkSequences(t *testing.T, beginning string, parts []string, count int) {
	t.Helper()
	checkParse(t, beginning)
	if count == 0 {
		return
	}
	for _, part := range parts {
		checkSequences(t, beginning+part, parts, count-1)
	}
}

// P8.3: all short texts, and sequences of parts of a text.
func TestParseLikeTheModel(t *testing.T) {
	checkSequences(t, "", []string{"a", "0", ".", "[", "]", "\"", " "}, 6)
	checkSequences(t, "", []string{"a", "1", "0", ".", "[", "]", "\"", "\\", "-", "_", "u{", "}", "\xff", "é"}, 4)
	tooLong := `"` + long(4097) + `"`
	parts := []string{"a", "b1", ".", "[", "]", "0", "03", "9007199254740993", `"a"`, `"b c"`, `"\u{61}"`, `"`, `"\x"`, tooLong, "[7]", ".x", `["d e"]`}
	checkSequences(t, "", parts, 4)
	for _, beginning := range []string{"a", "[0]", `["x"]`, `["x y"]`, strings.Repeat("[0]", 29), strings.Repeat("[0]", 31), "a" + strings.Repeat(".b", 30)} {
		checkSequences(t, beginning, parts, 3)
	}
}

// P8.3: texts of paths, in which one byte is changed, removed or inserted.
func TestParseDamagedTexts(t *testing.T) {
	for s := range textsOfPaths() {
		for at := range min(len(s), 200) {
			checkParse(t, s[:at])
			checkParse(t, s[at:])
			checkParse(t, s[:at]+s[at+1:])
			for _, c := range "a0.[]\"\\ -_}\x00é" {
				checkParse(t, s[:at]+string(c)+s[at+1:])
				checkParse(t, s[:at]+string(c)+s[at:])
			}
		}
		for c := range 256 {
			checkParse(t, s+string([]byte{byte(c)}))
			checkParse(t, string([]byte{byte(c)})+s)
		}
	}
	for c := range 256 {
		b := string([]byte{byte(c)})
		for _, s := range []string{b, "a" + b, "a." + b, "a" + b + "a", "[" + b, "[" + b + "]", "[0" + b + "]", "[0]" + b, "[\"" + b + "\"]", "[\"" + b + " \"]", "[\" \"" + b, "[\" \"]" + b, "[1" + b + "2]"} {
			checkParse(t, s)
		}
	}
}
