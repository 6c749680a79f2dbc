package glob_test

import (
	"regexp"
	"slices"
	"strings"
	"testing"

	"provision/api"
	"provision/glob"
)

const (
	longestPattern = 1024
	mostGroups     = 16
)

// partsOf returns the groups and the other bytes of a pattern, in order.
func partsOf(pattern string) []string {
	var parts []string
	for pattern != "" {
		size := max(1, len(pattern)-len(strings.TrimLeft(pattern, "*")))
		parts = append(parts, pattern[:size])
		pattern = pattern[size:]
	}
	return parts
}

// divides reports whether s can be divided as the definition says: every length of every part is tried.
func divides(parts []string, s string) bool {
	if len(parts) == 0 {
		return s == ""
	}
	for n := range len(s) + 1 {
		if partMatches(parts[0], s[:n]) && divides(parts[1:], s[n:]) {
			return true
		}
	}
	return false
}

// partMatches reports whether a part of a pattern matches a part of a text.
func partMatches(part, s string) bool {
	switch part {
	case "*":
		return !strings.Contains(s, ".")
	case "**":
		return true
	}
	return part == s
}

// isValid reports whether a pattern is valid, which it says in another way than the program.
func isValid(pattern string) bool {
	groups := regexp.MustCompile(`\*+`).FindAllString(pattern, -1)
	return pattern != "" && len(pattern) <= longestPattern && len(groups) <= mostGroups &&
		!slices.ContainsFunc(groups, func(group string) bool { return len(group) > 2 })
}

// runes returns a text with one code point for each byte of s, since regular expressions match code points.
func runes(s string) string {
	text := make([]rune, len(s))
	for i := range len(s) {
		text[i] = rune(s[i])
	}
	return string(text)
}

// expression returns a regular expression for the texts (of runes) that a pattern matches.
func expression(pattern string) *regexp.Regexp {
	text := `(?s)\A`
	for _, part := range partsOf(pattern) {
		switch part {
		case "*":
			text += `[^.]*`
		case "**":
			text += `.*`
		default:
			text += regexp.QuoteMeta(runes(part))
		}
	}
	return regexp.MustCompile(text + `\z`)
}

// eachText calls do with every text of up to length of the bytes.
func eachText(bytes string, length int, do func(s string)) {
	texts := []string{""}
	for n := 0; ; n++ {
		var longer []string
		for _, s := range texts {
			do(s)
			for i := range len(bytes) {
				longer = append(longer, s+bytes[i:i+1])
			}
		}
		if n == length {
			return
		}
		texts = longer
	}
}

// allTexts returns what eachText visits.
func allTexts(bytes string, length int) []string {
	var list []string
	eachText(bytes, length, func(s string) { list = append(list, s) })
	return list
}

// numbers returns a function that returns numbers below its argument which follow no simple rule.
func numbers(seed uint32) func(below int) int {
	x := seed
	return func(below int) int {
		x ^= x << 13
		x ^= x >> 17
		x ^= x << 5
		return int(x>>3) % below
	}
}

func checkCheck(t *testing.T, pattern string, want api.Errno) {
	t.Helper()
	if got := glob.Check(pattern); got != want {
		t.Errorf("Check(%.40q), %d bytes = %d; want %d", pattern, len(pattern), got, want)
	}
}

func checkMatch(t *testing.T, pattern, s string, want bool) {
	t.Helper()
	if got := glob.Match(pattern, s); got != want {
		t.Errorf("Match(%.60q, %.60q), %d and %d bytes = %t; want %t", pattern, s, len(pattern), len(s), got, want)
	}
}

// P5.1
func TestCheck(t *testing.T) {
	for _, pattern := range []string{
		"a", "net.a", "*", "**", ".", "..", "*.*", "**.*", "*.**", "a**b", "**a**", "a*b", "*a", "a*", "\x00", "\xff", "*\xff**\x00", "\n", "é*",
		`module.a["x"].net.b[0]`, "module.*.net.**", `["*"]`, "?", "[a-", `\*`, "{a,b}",
		strings.Repeat("a", longestPattern), strings.Repeat(".", longestPattern), strings.Repeat("\xff", longestPattern),
		strings.Repeat("a", longestPattern-1) + "*", "**" + strings.Repeat("a", longestPattern-2), "*" + strings.Repeat("a", longestPattern-2) + "*",
		strings.Repeat("*a", mostGroups), strings.Repeat("a*", mostGroups), strings.Repeat("**.", mostGroups), strings.Repeat(".**", mostGroups),
		strings.Repeat("*a**.", mostGroups/2), strings.Repeat(".", longestPattern-2*mostGroups) + strings.Repeat("a*", mostGroups),
	} {
		checkCheck(t, pattern, api.OK)
	}
}

// P5.1
func TestCheckTooLong(t *testing.T) {
	for _, pattern := range []string{
		strings.Repeat("a", longestPattern+1), strings.Repeat("a", 1<<20), strings.Repeat("é", longestPattern/2) + "a",
		strings.Repeat("a", longestPattern) + "*", "**" + strings.Repeat("a", longestPattern-1),
		// Other errors come later: too many groups, groups of too many asterisks, and both.
		strings.Repeat("a*", longestPattern), strings.Repeat("*", longestPattern+1), strings.Repeat("a", longestPattern) + "***",
		strings.Repeat("***a", longestPattern),
	} {
		checkCheck(t, pattern, api.ErrTooLong)
	}
}

// P5.1
func TestCheckTooManyGroups(t *testing.T) {
	for _, pattern := range []string{
		strings.Repeat("*a", mostGroups+1), strings.Repeat("a*", mostGroups+1), strings.Repeat("**.", mostGroups+1), strings.Repeat("a**", mostGroups+1),
		strings.Repeat("*a**.", mostGroups/2) + "*", strings.Repeat("a*", longestPattern/2), strings.Repeat("*a", mostGroups) + "**",
		strings.Repeat("*.", mostGroups+1) + strings.Repeat("a", longestPattern-2*mostGroups-2),
		// A group of too many asterisks, which is one group, is a later error.
		strings.Repeat("***a", mostGroups+1), "***" + strings.Repeat("a*", mostGroups), strings.Repeat("*a", mostGroups) + "****",
		strings.Repeat("*a", mostGroups/2) + "***a" + strings.Repeat("*a", mostGroups/2),
	} {
		checkCheck(t, pattern, api.ErrLimit)
	}
}

// P5.1
func TestCheckSyntax(t *testing.T) {
	checkCheck(t, "", api.ErrSyntax)
	checkCheck(t, strings.Repeat("*", longestPattern), api.ErrSyntax)
	checkCheck(t, strings.Repeat("***.", mostGroups), api.ErrSyntax)
	checkCheck(t, strings.Repeat("*a", mostGroups-1)+"***", api.ErrSyntax)
	for n := 3; n < 60; n++ {
		group := strings.Repeat("*", n)
		for _, pattern := range []string{
			group, "a" + group, group + "a", "a." + group, group + ".", "a" + group + "b", "." + group + ".",
			"*a" + group, group + "a**", "**." + group + ".*", group + "a" + group, "\xff" + group + "\x00",
		} {
			checkCheck(t, pattern, api.ErrSyntax)
		}
	}
}

// P5.1: a group has the same number of asterisks wherever it is, and the length is that of the whole.
func TestCheckGroupsAtEveryPlace(t *testing.T) {
	for n, want := range map[int]api.Errno{1: api.OK, 2: api.OK, 3: api.ErrSyntax, 4: api.ErrSyntax} {
		for before := range longestPattern + 1 - n {
			pattern := strings.Repeat("a", before) + strings.Repeat("*", n) + strings.Repeat("a", longestPattern-n-before)
			checkCheck(t, pattern, want)
			checkCheck(t, pattern+"a", api.ErrTooLong)
		}
	}
}

// P5.1: no byte but the asterisk is special.
func TestCheckEveryByte(t *testing.T) {
	for c := range 256 {
		s := string([]byte{byte(c)})
		checkCheck(t, s, api.OK)
		if s != "*" {
			checkCheck(t, s+s+s, api.OK)
			checkCheck(t, strings.Repeat(s, longestPattern), api.OK)
			checkCheck(t, strings.Repeat(s+"**", mostGroups), api.OK)
			checkCheck(t, strings.Repeat(s+"*", mostGroups+1), api.ErrLimit)
			checkCheck(t, "**"+s+"***", api.ErrSyntax)
		}
	}
}

// matchCase is a pattern with texts that it matches, and texts that it does not match.
type matchCase struct {
	pattern   string
	matched   []string
	unmatched []string
}

func checkCases(t *testing.T, list []matchCase) {
	t.Helper()
	for _, c := range list {
		for _, s := range c.matched {
			checkMatch(t, c.pattern, s, true)
		}
		for _, s := range c.unmatched {
			checkMatch(t, c.pattern, s, false)
		}
	}
}

// P5.2
func TestMatch(t *testing.T) {
	checkCases(t, []matchCase{
		{"net.*", []string{"net.a", "net.", "net.ab", `net.a[0]`, `net.a["x"]`}, []string{"net.a.b", "net", "", "net.a.", "net..", "xnet.a", "nex.a", "module.m.net.a", `net.a["x.y"]`}},
		{"net.**", []string{"net.a.b", "net.a", "net.", "net..", `net.a["x.y"]`}, []string{"net", "", "module.m.net.a", "neta"}},
		{"**", []string{"", "a", ".", "..", "a.b", "a.b.c", "*", "\x00", "\xff.\xfe", "\n"}, nil},
		{"*", []string{"", "a", "ab", "*", "**", "\x00", "\xff\xfe", "\n", "a b"}, []string{".", "..", "a.", ".a", "a.b"}},
		{"*.*", []string{".", "a.", ".b", "a.b"}, []string{"", "a", "..", "a.b.c", "a..b", ".a.", "a.b."}},
		{"**.*", []string{".", "a.b", "a.b.c", "..", ".a.", "a..b"}, []string{"", "a", "ab"}},
		{"*.**", []string{".", "a.b", "a.b.c", "..", "a.."}, []string{"", "a", "ab"}},
		{"**.**", []string{".", "..", "a.b.c", "a..", "..b"}, []string{"", "a", "*"}},
		{"a**b", []string{"ab", "a.b", "aab", "abb", "a..b", "abab", "a.b.b"}, []string{"", "a", "b", "ba", "aba", "a.b.", ".ab"}},
		{"a*b", []string{"ab", "aab", "abb", "axb", "abab"}, []string{"", "a", "b", "a.b", "ab.", "aba", "ab.b"}},
		{"*a*", []string{"a", "aa", "bab"}, []string{"", "b", ".a", "a.", "a.a"}},
		{"**a**", []string{"a", "aa", "bab", ".a", "a.", "b.a.b"}, []string{"", "b", "b.b", "."}},
		{"module.*.net.*", []string{"module.m.net.a", `module.m[0].net.a`, "module..net."}, []string{"module.m.n.net.a", "net.a", "module.net.a", `module.m["x.y"].net.a`}},
		{"module.**.net.*", []string{"module.m.net.a", "module.m.module.n.net.a", `module.m["x.y"].net.a`, "module.net.net.net.a"}, []string{"module.net.a", "module.m.net.a.b", "module.m.n"}},
		{"net.a[*]", []string{"net.a[0]", `net.a["x"]`, "net.a[]", "net.a[0][1]"}, []string{"net.a", `net.a["x.y"]`, "net.a[0"}},
		{"net.a", []string{"net.a"}, []string{"", "net", "net.", "net.ab", "net.b", "net.a.", ".net.a", "Net.a", "net*a"}},
	})
}

// P5.2: texts of dots alone, with a dot at an end, and with two dots in a row.
func TestMatchDots(t *testing.T) {
	checkCases(t, []matchCase{
		{".", []string{"."}, []string{"", "..", "a", "a.", ".a"}},
		{"..", []string{".."}, []string{"", ".", "...", "a.", ".a."}},
		{".*", []string{".", ".a", ".ab"}, []string{"", "..", "a", "a.", ".a."}},
		{"*.", []string{".", "a.", "ab."}, []string{"", "..", ".a", "a", "a.b."}},
		{"*..*", []string{"..", "a..", "..b", "a..b"}, []string{".", "a.b", "...", "a...b", "a.b."}},
		{"*.*.*", []string{"..", "a..", ".b.", "..c", "a.b.c"}, []string{"", ".", "...", "a.b", "a.b.c.d"}},
		{".**", []string{".", "..", "...", ".a.", ".a"}, []string{"", "a", "a."}},
		{"**.", []string{".", "..", "...", ".a.", "a."}, []string{"", "a", ".a"}},
		{".**.", []string{"..", "...", ".a.", "....", ".a.b."}, []string{"", ".", "a.", ".a", "a.."}},
		{"a.**.b", []string{"a..b", "a...b", "a.b.b", "a.a.b", "a.x.y.b"}, []string{"a.b", "ab", "a..b.", ".a..b"}},
	})
}

// P5.2: any bytes are matched as they are, in patterns and in texts.
func TestMatchBytes(t *testing.T) {
	for c := range 256 {
		own := string([]byte{byte(c)})
		for d := range 256 {
			s := string([]byte{byte(d)})
			if own != "*" {
				checkMatch(t, own, s, c == d)
				checkMatch(t, "**"+own, "a"+s, c == d)
				checkMatch(t, "*"+own, "a"+s, c == d)
				checkMatch(t, own+"*", s+"a", c == d)
			}
			checkMatch(t, "a*b", "a"+s+own+"b", s != "." && own != ".")
			checkMatch(t, "a**b", "a"+s+own+"b", true)
		}
	}
	checkCases(t, []matchCase{
		{"\xc3*", []string{"\xc3", "é", "\xc3\xc3"}, []string{"", "\xa9", "a"}},
		{"*\xa9", []string{"\xa9", "é", "aé"}, []string{"", "\xc3", "\xa9."}},
		{"é", []string{"\xc3\xa9"}, []string{"e\u0301", "\xe9", "\xc3", "\ufffd"}},
		{"\xff", []string{"\xff"}, []string{"\xfe", "\ufffd", ""}},
		{"a\x00*", []string{"a\x00", "a\x00\x00", "a\x00b"}, []string{"a", "ab", "a\x00."}},
		{"*\x00**", []string{"\x00", "a\x00", "\x00.\x00", "a\x00.b"}, []string{"", "a", "a.\x00"}},
	})
}

// P5.2: in a text an asterisk is a byte, which only a group matches.
func TestMatchAsteriskInText(t *testing.T) {
	checkCases(t, []matchCase{
		{"a", nil, []string{"*", "a*", "*a"}},
		{"*", []string{"*", "**", "***", "a*"}, []string{"*.", ".*", "*.*"}},
		{"**", []string{"*", "**", "***", "*.*", "**.**"}, nil},
		{"a*", []string{"a*", "a**", "a", "a*b"}, []string{"*", "*a", "a*."}},
		{"*b", []string{"*b", "**b", "b*b"}, []string{"*", "b*", "*.b"}},
		{"a**b", []string{"a*b", "a**b", "a***b", "a*.*b"}, []string{"a**", "**b", "*a**b"}},
		{"*.*", []string{"*.*", ".*", "*.", "**.**"}, []string{"*", "**", "*.*.*"}},
	})
}

// P5.2: a group takes more, or less, than it could, so that what is behind it matches.
func TestMatchTakesWhatFits(t *testing.T) {
	checkCases(t, []matchCase{
		{"*ab", []string{"aab", "abab", "aaab", "abaab"}, []string{"aba", "aabb", "ab.ab"}},
		{"*ab*ab", []string{"abab", "ababab", "aabaab", "abaab"}, []string{"ab", "aba", "abba", "ab.ab"}},
		{"a*a*a", []string{"aaa", "aaaa", "abaca"}, []string{"aa", "a", "aba", "aa.a"}},
		{"**ab.*", []string{"ab.", "ab.ab.c", "ab.b.ab.", "aab.b"}, []string{"ab.c.d", "ab", "a.b"}},
		{"**.a*b", []string{".ab", ".a.ab", ".a.b.ab", "x.aa.acb"}, []string{".a.b", ".ab.", "ab", ".a.bb"}},
		{"**a*b", []string{"ab", "a.ab", "aa.ab", "a.a.acb", "aab"}, []string{"a.b", "ab.", "a.a.b", "b.a"}},
		{"**a*b**c", []string{"abc", "a.abc", "a.b.ab.c", "ab.a.c", "a.a.b.axb.c"}, []string{"a.b.c", "a.bc", "ab", "a.a.bc"}},
		{"**a.*b*c", []string{"a.bc", "a.b.a.bc", "a.x.a.bxc", "a.a.xbc"}, []string{"a.b.c", "a.a.b.c", "abc", "a.b"}},
		{"**a*.*b", []string{"a.b", "a.a.b", "ax.xb", "a.x.ax.b", "aa.b"}, []string{"a..b", "a.x.b", "ab", "a.b."}},
		{"**a.*b.*c", []string{"a.b.c", "a.a.b.c", "a.a.b.b.a.b.c", "a.b.a.b.c"}, []string{"a.a.a.c", "a.b.b.c", "a.b"}},
		{"**.*.*b", []string{"..b", "a.b.c.b", "...b", ".a.b"}, []string{".b", "b", "..b."}},
		{"*a**b*c", []string{"abc", "xa.b.bc", "aab.bxc", "a.b.b.bc"}, []string{".abc", "a.b.c", "ab", "xa.bc."}},
		{"**ab**bc**", []string{"abbc", "ab.bc", "xabxbcx"}, []string{"abc", "bcab", "ab", "a.bbc"}},
		{"*.**.*", []string{"..", "a.b.c", "...", "a.b.c.d"}, []string{".", "", "a.b"}},
	})
}

// P5.2: a pattern that is not valid matches nothing, not even itself.
func TestMatchInvalidPatterns(t *testing.T) {
	for _, pattern := range []string{
		"", "***", "a.***", "***a", "a***b", "****", strings.Repeat("a", longestPattern+1), strings.Repeat("*", longestPattern+1),
		strings.Repeat("a*", mostGroups+1), strings.Repeat("**", longestPattern), strings.Repeat("**a", mostGroups+1),
	} {
		for _, s := range []string{"", "a", ".", "*", "a.b", "a.", "ab", strings.Repeat("a", mostGroups+1), strings.Repeat("a", longestPattern+1), pattern} {
			checkMatch(t, pattern, s, false)
		}
	}
}

// P5.1 and P5.2: at the limits, the pattern is what makes the difference.
func TestMatchAtTheLimits(t *testing.T) {
	longest := strings.Repeat("a", longestPattern)
	checkMatch(t, longest, longest, true)
	checkMatch(t, longest+"a", longest+"a", false)
	checkMatch(t, longest[2:]+"**", longest+".", true)
	checkMatch(t, longest[1:]+"**", longest+".", false)
	for _, group := range []string{"*", "**"} {
		most := strings.Repeat("a"+group, mostGroups)
		checkMatch(t, most, strings.Repeat("a", mostGroups), true)
		checkMatch(t, most, strings.Repeat("ab", mostGroups), true)
		checkMatch(t, most, strings.Repeat("ba", mostGroups), false)
		checkMatch(t, most, strings.Repeat("a", mostGroups-1), false)
		checkMatch(t, most+"a", strings.Repeat("a", mostGroups+1), true)
		checkMatch(t, most+"a"+group, strings.Repeat("a", mostGroups+1), false)
	}
}

// checkAll compares Match with the definition, for each of the patterns and each of the texts.
func checkAll(t *testing.T, patterns, texts []string) {
	t.Helper()
	for _, pattern := range patterns {
		valid, parts := isValid(pattern), partsOf(pattern)
		if got := glob.Check(pattern) == api.OK; got != valid {
			t.Errorf("Check(%q) says valid: %t", pattern, got)
		}
		for _, s := range texts {
			checkMatch(t, pattern, s, valid && divides(parts, s))
		}
	}
}

// P5.2 and P5.5: all short patterns with all short texts.
func TestDivision(t *testing.T) {
	checkAll(t, allTexts("a.*", 7), allTexts("a.", 7))
	checkAll(t, allTexts("ab.*", 5), allTexts("ab.", 5))
	checkAll(t, allTexts("a.*\x00\xff", 4), allTexts("a.*\x00\xff", 4))
}

// P5.2 and P5.5: longer patterns behind a group of two, with all short texts.
func TestDivisionBehindAGroupOfTwo(t *testing.T) {
	var patterns []string
	for _, rest := range allTexts("a.*", 6) {
		patterns = append(patterns, "**"+rest, "**a"+rest+"*a", "**.*"+rest, "a**"+rest+".a", "**a.*"+rest+"**a")
	}
	checkAll(t, patterns, allTexts("a.", 8))
}

// randomPattern returns a pattern with up to most groups, and with dots.
func randomPattern(number func(below int) int, most int) string {
	pattern, groups := "", 0
	for range 1 + number(4*most) {
		part := []string{"a", "b", ".", "ab", "a.", "*", "**", "a*", ".*"}[number(9)]
		if strings.Contains(part, "*") {
			groups++
		}
		if groups <= most && !(strings.HasSuffix(pattern, "*") && strings.HasPrefix(part, "*")) {
			pattern += part
		}
	}
	return pattern
}

// randomText returns a text that the pattern matches, or that is one byte away from such a text.
func randomText(number func(below int) int, pattern string) string {
	s := ""
	for _, part := range partsOf(pattern) {
		bytes := "ab"
		if part == "**" {
			bytes = "ab."
		}
		if part[0] != '*' {
			s += part
			continue
		}
		for range number(6) {
			s += string(bytes[number(len(bytes))])
		}
	}
	at := number(len(s) + 1)
	switch number(4) {
	case 0:
		return s[:at] + "ab."[number(3):][:1] + s[at:]
	case 1:
		return s[:at] + s[min(at+1, len(s)):]
	}
	return s
}

// P5.2 and P5.5: long patterns and texts are compared with regular expressions.
func TestDivisionOfLongTexts(t *testing.T) {
	number, matched, all := numbers(5), 0, 0
	for range 6000 {
		pattern := randomPattern(number, mostGroups)
		if pattern == "" {
			continue
		}
		e := expression(pattern)
		for range 10 {
			s := randomText(number, pattern)
			want := e.MatchString(runes(s))
			checkMatch(t, pattern, s, want)
			all++
			if want {
				matched++
			}
		}
	}
	if matched < all/4 || matched > 9*all/10 {
		t.Errorf("%d of %d texts are matched, which is too one-sided", matched, all)
	}
}

// P5.5: a text that is put together from parts is matched, whatever the parts are.
func TestDivisionOfJoinedParts(t *testing.T) {
	list := []string{"", "a", ".", "a.b", "..", "*", "\x00", "\xff.", "net.a", "aXb"}
	for _, a := range list {
		for _, b := range list {
			checkMatch(t, "X**Y**Z", "X"+a+"Y"+b+"Z", true)
			dots := strings.Contains(a, ".") || strings.Contains(b, ".")
			checkMatch(t, "X*Y*Z", "X"+a+"Y"+b+"Z", !dots)
			checkMatch(t, "X*Y**Z", "X"+a+"Y"+b+"Z", !strings.Contains(a, "."))
			checkMatch(t, "X**Y*Z", "X"+a+"Y"+b+"Z", !strings.Contains(b, "."))
		}
	}
}

// P5.2 and R1: many groups and long texts take no time that grows with a power of the length.
func TestMatchLongTexts(t *testing.T) {
	const length = 1 << 20
	run, labels := strings.Repeat("a", length), strings.Repeat("a.", length/2)
	ones, twos := strings.Repeat("a*", mostGroups), strings.Repeat("a**", mostGroups)
	mixed, dotted := strings.Repeat("**a*a", mostGroups/2), strings.Repeat("a*.", mostGroups-1)
	checkCases(t, []matchCase{
		{ones, []string{run}, []string{run + ".", labels}},
		{ones + "b", []string{run + "b"}, []string{run, run + "c", run + ".b"}},
		{twos, []string{run, labels}, []string{"." + run}},
		{twos + "b", []string{run + "b", labels + "b"}, []string{run, labels, run + "b."}},
		{mixed, []string{run, labels + run, run + labels + "aa"}, []string{labels, run + labels, strings.Repeat(".", length)}},
		{mixed + "b", []string{run + "b", run + "." + run + "ab"}, []string{run, run + ".b", labels + "b"}},
		{"**" + ones[:2*mostGroups-2] + "b", []string{run + "b", labels + run + "b"}, []string{run, run + "." + run, labels + "b", run + ".b"}},
		{"**" + dotted + "b", []string{labels + "b"}, []string{run, labels, run + ".b", labels + ".b"}},
		{"**" + strings.Repeat(".a*", mostGroups-1) + "b", []string{labels + "ab"}, []string{labels, labels + "a", labels + "b"}},
		{"**a.*b", []string{labels + "b"}, []string{run, labels, labels + labels}},
		{"**a", []string{run, labels + "a"}, []string{labels, run + "b"}},
		{"a**", []string{run, labels}, []string{"b" + run}},
	})
}

// P5.3
func TestAny(t *testing.T) {
	longest := strings.Repeat("a", longestPattern)
	for _, c := range []struct {
		patterns []string
		s        string
		want     bool
	}{
		{nil, "", false}, {nil, "a", false}, {[]string{}, "", false}, {[]string{}, "a", false},
		{[]string{"a"}, "a", true}, {[]string{"a"}, "b", false}, {[]string{"**"}, "", true}, {[]string{"*"}, ".", false},
		{[]string{"a", "b", "c"}, "a", true}, {[]string{"a", "b", "c"}, "b", true}, {[]string{"a", "b", "c"}, "c", true},
		{[]string{"a", "b", "c"}, "d", false}, {[]string{"a", "b", "c"}, "", false}, {[]string{"a", "b", "c"}, "abc", false},
		{[]string{"net.*", "**.b"}, "net.a", true}, {[]string{"net.*", "**.b"}, "net.b", true}, {[]string{"net.*", "**.b"}, "x.y.b", true}, {[]string{"net.*", "**.b"}, "x.y", false},
		{[]string{"a", "a", "*", "**"}, "a", true},
		// Patterns that are not valid match nothing, and do not keep others from it.
		{[]string{""}, "", false}, {[]string{"", ""}, "", false}, {[]string{"***"}, "", false}, {[]string{"***"}, "***", false},
		{[]string{"", "a.***", longest + "a", strings.Repeat("a*", mostGroups+1)}, "", false},
		{[]string{"", "a.***", longest + "a", strings.Repeat("a*", mostGroups+1)}, longest + "a", false},
		{[]string{"", "***", "a"}, "a", true}, {[]string{"a", "", "***"}, "a", true}, {[]string{"***", "a", ""}, "a", true}, {[]string{"***", "a", ""}, "b", false},
		{[]string{"\xff*", "\x00"}, "\xff\xfe", true}, {[]string{"\xff*", "\x00"}, "\x00", true}, {[]string{"\xff*", "\x00"}, "\ufffd", false},
	} {
		given := slices.Clone(c.patterns)
		if got := glob.Any(c.patterns, c.s); got != c.want {
			t.Errorf("Any(%.60q, %.20q) = %t", c.patterns, c.s, got)
		}
		if !slices.Equal(c.patterns, given) {
			t.Errorf("Any has changed the patterns %.60q to %.60q", given, c.patterns)
		}
	}
}

// P5.3: the pattern that matches may be at every place.
func TestAnyAtEveryPlace(t *testing.T) {
	for n := 1; n < 40; n++ {
		for place := range n {
			for _, other := range []string{"x", "", "***", "*.*.*", "**.b"} {
				patterns := slices.Repeat([]string{other}, n)
				if glob.Any(patterns, "net.a") {
					t.Errorf("%d patterns %q match net.a", n, other)
				}
				patterns[place] = "net.*"
				if !glob.Any(patterns, "net.a") {
					t.Errorf("the pattern at the place %d of %d beside %q does not match", place, n, other)
				}
			}
		}
	}
}

// P5.4
func TestLiteral(t *testing.T) {
	for pattern, want := range map[string]bool{
		"net.a": true, "net.*": false, "": true, "a": true, ".": true, "?": true, "[a-b]": true, `\`: true, "\x00": true, "\xff\xfe": true, "\xaa": true, "∗＊": true,
		"*": false, "**": false, "***": false, "*a": false, "a*": false, "a*b": false, "a.***": false, `\*`: false, "\xff*": false, "\x00*\x00": false,
		// These are not valid either.
		strings.Repeat("a", longestPattern+1): true, strings.Repeat("a", longestPattern) + "*": false, "*" + strings.Repeat("a", longestPattern): false,
		strings.Repeat("a", longestPattern) + "*" + strings.Repeat("a", longestPattern): false, strings.Repeat("a*", mostGroups+1): false,
		strings.Repeat("a", 1<<20): true, strings.Repeat("a", 1<<20) + "*": false, strings.Repeat("*", 1<<20): false,
	} {
		if got := glob.Literal(pattern); got != want {
			t.Errorf("Literal(%.40q), %d bytes = %t", pattern, len(pattern), got)
		}
	}
	for c := range 256 {
		if s := string([]byte{byte(c)}); glob.Literal(s) != (c != 42) || glob.Literal("a"+s+"b") != (c != 42) {
			t.Errorf("Literal is wrong for the byte %d", c)
		}
	}
}

// P5.6
func TestLiteralMatchesItself(t *testing.T) {
	texts := append(allTexts("ab.\xff\x00", 3), "net.a", `module.a["x.y"].net.b[0]`, "é", strings.Repeat("a", longestPattern-1), strings.Repeat("a", longestPattern))
	for _, pattern := range texts {
		if !glob.Literal(pattern) {
			t.Errorf("Literal(%q) = false", pattern)
		}
		for _, s := range append(slices.Clone(texts), "*", "a*", pattern+"*", pattern+"a", "a"+pattern, pattern+".", pattern+pattern) {
			checkMatch(t, pattern, s, pattern != "" && s == pattern)
		}
	}
}

// doubled returns the patterns that result from one by replacing a group of one asterisk by two.
func doubled(pattern string) []string {
	var list []string
	parts := partsOf(pattern)
	for i, part := range parts {
		if part == "*" {
			list = append(list, strings.Join(slices.Replace(slices.Clone(parts), i, i+1, "**"), ""))
		}
	}
	return list
}

// checkMore checks P5.7 for a pattern and the texts.
func checkMore(t *testing.T, pattern string, texts []string) {
	t.Helper()
	for _, more := range doubled(pattern) {
		for _, s := range texts {
			if glob.Match(pattern, s) && !glob.Match(more, s) {
				t.Errorf("%q matches %q, but %q does not", pattern, s, more)
			}
		}
	}
}

// P5.7
func TestMore(t *testing.T) {
	texts := allTexts("a.", 6)
	for _, pattern := range allTexts("a.*", 6) {
		checkMore(t, pattern, texts)
	}
	number := numbers(7)
	for range 3000 {
		pattern := randomPattern(number, mostGroups)
		checkMore(t, pattern, []string{randomText(number, pattern), randomText(number, pattern), randomText(number, pattern)})
	}
}

// P5.7: a group of two matches what a group of one does not, and only because of the dots.
func TestMoreMatchesMore(t *testing.T) {
	for _, c := range []struct{ pattern, more, s string }{
		{"*", "**", "."}, {"net.*", "net.**", "net.a.b"}, {"*.a", "**.a", "b.c.a"}, {"a*b", "a**b", "a.b"}, {"*.*", "**.*", "a.b.c"}, {"*.*", "*.**", "a.b.c"},
	} {
		checkMatch(t, c.pattern, c.s, false)
		checkMatch(t, c.more, c.s, true)
		if !slices.Contains(doubled(c.pattern), c.more) {
			t.Errorf("%q does not result from %q", c.more, c.pattern)
		}
		s := strings.ReplaceAll(c.s, ".", "x")
		checkMatch(t, strings.ReplaceAll(c.pattern, ".", "x"), s, true)
		checkMatch(t, strings.ReplaceAll(c.more, ".", "x"), s, true)
	}
}
