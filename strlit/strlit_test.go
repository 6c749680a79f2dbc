package strlit_test

import (
	"regexp"
	"strconv"
	"strings"
	"testing"
	"unicode/utf8"

	"provision/api"
	"provision/strlit"
)

// wrongBytes are texts that are no UTF-8 and contain no valid code point but ASCII.
var wrongBytes = []string{
	"\xc3", "\x80", "\xbf", "\xfe", "\xff", "a\xc3", "\xc3a", "\xc3\xc3", "\x80\x80",
	"\xe2", "\xe2\x82", "\xe2\x82a", "\xf0", "\xf0\x9f", "\xf0\x9f\x98", "\xf0\x9f\x98a",
	// Encodings that are not the shortest ones.
	"\xc0\x80", "\xc1\xbf", "\xc0\xa2", "\xe0\x80\x80", "\xe0\x9f\xbf", "\xf0\x80\x80\x80", "\xf0\x8f\xbf\xbf",
	// Surrogates: D800, DBFF, DC00, DFFF, and a pair of them.
	"\xed\xa0\x80", "\xed\xaf\xbf", "\xed\xb0\x80", "\xed\xbf\xbf", "\xed\xa0\xbd\xed\xb8\x80",
	// Numbers above 10FFFF.
	"\xf4\x90\x80\x80", "\xf7\xbf\xbf\xbf", "\xf5\x80\x80\x80", "\xf8\x88\x80\x80\x80", "\xfc\x84\x80\x80\x80\x80",
}

// validStrings are strings with every kind of item, and at the limit of the length.
func validStrings() []string {
	return []string{
		"", "a", "abc", " ", "é", "€", "😀", "\u0080", "\u07ff", "\u0800", "\ud7ff", "\ue000", "\ufffd", "\uffff", "\U00010000", "\U0010ffff", "\u2028\ufeff",
		"\n", "\r", "\t", "\x00", "\x01", "\x1f", "\x7f", "\b\v\f\x1b", "\"", "\\", "\\\\", "\"\"", "\\n", "\\u{41}", "\\\"", "a\nb\r\nc\td",
		"$", "${", "${a}", "$${", "'", "/", "u{41}", "x\x00\x01\x02y\x7fé\\\"",
		strings.Repeat("a", 4096), strings.Repeat("é", 2048), strings.Repeat("😀", 1024), strings.Repeat("\x01", 4096), strings.Repeat("\\", 4096), strings.Repeat("\"", 4096),
		"a" + strings.Repeat("€", 1365),
	}
}

// eachCodePoint calls do with every number from 0 to 10FFFF that is no surrogate.
func eachCodePoint(do func(r rune)) {
	for r := rune(0); r <= 0x10ffff; r++ {
		if r < 0xd800 || r > 0xdfff {
			do(r)
		}
	}
}

func checkUnquote(t *testing.T, s, want string, n int, e api.Errno) {
	t.Helper()
	if gotText, gotLength, gotErr := strlit.Unquote(s); gotText != want || gotLength != n || gotErr != e {
		t.Errorf("Unquote(%.60q) = %.60q, %d, %d; want %.60q, %d, %d", s, gotText, gotLength, gotErr, want, n, e)
	}
}

// P2.1
func TestValid(t *testing.T) {
	for _, s := range validStrings() {
		if !strlit.Valid(s) {
			t.Errorf("Valid(%.40q) = false", s)
		}
	}
	eachCodePoint(func(r rune) {
		if !strlit.Valid(string(r)) {
			t.Errorf("Valid(%q) = false", r)
		}
	})
}

// P2.1
func TestWrongBytesAreInvalid(t *testing.T) {
	for _, s := range wrongBytes {
		for _, text := range []string{s, "é" + s, s + "€", "a" + s + "b", strings.Repeat("a", 4096-len(s)) + s} {
			if strlit.Valid(text) {
				t.Errorf("Valid(%.40q) = true", text)
			}
		}
	}
}

// P2.1: bytes are counted, not code points.
func TestLongStringsAreInvalid(t *testing.T) {
	for _, s := range []string{
		strings.Repeat("a", 4097), strings.Repeat("a", 100000), strings.Repeat("é", 2048) + "a", strings.Repeat("é", 2049),
		strings.Repeat("é", 4096), strings.Repeat("😀", 1024) + "\x00", strings.Repeat("€", 1366), strings.Repeat("\xff", 4097),
	} {
		if strlit.Valid(s) {
			t.Errorf("Valid(%.20q..) = true for %d bytes", s, len(s))
		}
	}
}

// P2.2
func TestQuote(t *testing.T) {
	for s, want := range map[string]string{
		"": `""`, "a": `"a"`, "a\n\x01": `"a\n\u{1}"`, "\n\r\t\"\\": `"\n\r\t\"\\"`, "\\n": `"\\n"`, "\r\n": `"\r\n"`,
		"\x00": `"\u{0}"`, "\b": `"\u{8}"`, "\v\f": `"\u{b}\u{c}"`, "\x0f\x10": `"\u{f}\u{10}"`, "\x1b": `"\u{1b}"`, "\x1f": `"\u{1f}"`, "\x7f": `"\u{7f}"`,
		" ": `" "`, "~": `"~"`, "é€😀": `"é€😀"`, "\u0080": "\"\u0080\"", "\u2028\ufeff\ufffd": "\"\u2028\ufeff\ufffd\"",
		"${a}": `"${a}"`, "'`": "\"'`\"", "\\u{1}": `"\\u{1}"`, "\x001": `"\u{0}1"`,
		// Bytes that are no UTF-8 stay as they are.
		"\xff": "\"\xff\"", "a\xc3\n": "\"a\xc3\\n\"", "\xc3\"": "\"\xc3\\\"\"", "\xed\xa0\x80": "\"\xed\xa0\x80\"", "\x80\x1f": "\"\x80\\u{1f}\"",
		strings.Repeat("a", 5000): `"` + strings.Repeat("a", 5000) + `"`,
	} {
		if got := strlit.Quote(s); got != want {
			t.Errorf("Quote(%.40q) = %.60s; want %.60s", s, got, want)
		}
	}
}

// quotedByte returns the form of a byte as the chapter says it.
func quotedByte(c byte) string {
	switch {
	case c == 10:
		return `\n`
	case c == 13:
		return `\r`
	case c == 9:
		return `\t`
	case c == 34:
		return `\"`
	case c == 92:
		return `\\`
	case c < 32 || c == 127:
		return `\u{` + strconv.FormatInt(int64(c), 16) + `}`
	}
	return string([]byte{c})
}

// P2.2: each byte is replaced by itself, whatever is beside it.
func TestQuoteOfAllPairsOfBytes(t *testing.T) {
	for a := 0; a < 256; a++ {
		for b := 0; b < 256; b++ {
			s := string([]byte{byte(a), byte(b)})
			want := `"` + quotedByte(byte(a)) + quotedByte(byte(b)) + `"`
			if got := strlit.Quote(s); got != want {
				t.Fatalf("Quote(%q) = %q; want %q", s, got, want)
			}
		}
	}
}

// P2.3
func TestUnquote(t *testing.T) {
	for _, c := range []struct {
		s, want string
		n       int
	}{
		{`"a" b`, "a", 3}, {`""`, "", 2}, {`"" `, "", 2}, {`"""`, "", 2}, {`"a"b"`, "a", 3}, {`"a"\x`, "a", 3}, {"\"a\"\xff", "a", 3}, {"\"a\"\n", "a", 3},
		{`"\n\r\t\"\\"`, "\n\r\t\"\\", 12}, {`"\\"`, `\`, 4}, {`"\\n"`, `\n`, 5}, {`"\\\""`, `\"`, 6}, {`"\"" x`, `"`, 4},
		{`"é€😀"`, "é€😀", 11}, {`" ~"`, " ~", 4}, {"\"\u0080\ufffd\U0010ffff\"", "\u0080\ufffd\U0010ffff", 11},
		{`"\u{0}"`, "\x00", 7}, {`"\u{1}"`, "\x01", 7}, {`"\u{7f}"`, "\x7f", 8}, {`"\u{a}"`, "\n", 7}, {`"\u{22}"`, `"`, 8}, {`"\u{5c}n"`, `\n`, 9}, {`"\u{41}"`, "A", 8},
		{`"\u{e9}\u{20ac}"`, "é€", 16}, {`"\u{1f600}"`, "😀", 11}, {`"\u{d7ff}\u{e000}"`, "\ud7ff\ue000", 18}, {`"\u{fffd}"`, "\ufffd", 10}, {`"\u{10ffff}"`, "\U0010ffff", 12}, {`"\u{100000}"`, "\U00100000", 12},
		{`"a\u{62}c"`, "abc", 10}, {`"\u{24}{"`, "${", 9}, {`"${a}"`, "${a}", 6}, {`"'/` + "`" + `"`, "'/`", 5}, {`"}{u"`, "}{u", 5},
	} {
		checkUnquote(t, c.s, c.want, c.n, api.OK)
	}
}

// P2.3
func TestUnquoteSyntax(t *testing.T) {
	for _, s := range []string{
		"a", "a\"", " \"a\"", "'a'", "\\\"", "\n", "\xff", "\xc3", "`a`",
		`"\x"`, `"\x`, `"\a"`, `"\0"`, `"\'"`, `"\N"`, `"\U{41}"`, `"\ "`, `"\b"`, `"\f"`, `"\v"`, `"\/"`, `"\$"`, `"\{"`, "\"\\\n\"", "\"\\\xff\"", "\"\\é\"",
		`"\u"`, `"\u0041"`, `"\ux`, `"\u41}"`, `"\u}"`, `"\u{}"`, `"\u{}`, `"\u{"`, `"\u{x}"`, `"\u{x`, `"\u{4"`, `"\u{4x`, `"\u{ 41}"`, `"\u{41 }"`, `"\u{-1}"`, `"\u{+41}"`, `"\u{0x41}"`, `"\u{4_1}"`, `"\u{41{"`, `"\u{\u{41}}"`, "\"\\u{\xff}\"", `"\u{é}"`,
		`"\u{041}"`, `"\u{00}"`, `"\u{000000}"`, `"\u{01}"`, `"\u{00041}"`, `"\u{010000}"`,
		`"\u{A}"`, `"\u{A`, `"\u{1F600}"`, `"\u{4F}"`, `"\u{aB`, `"\u{E9}"`,
		`"\u{g}"`, "\"\\u{`}\"", `"\u{/}"`, `"\u{:}"`, `"\u{@}"`,
		`"\u{d800}"`, `"\u{dbff}"`, `"\u{dc00}"`, `"\u{dfff}"`, `"\u{d83d}\u{de00}"`, `"\u{110000}"`, `"\u{ffffff}"`, `"\u{200000}"`,
		// With seven digits the bytes are no item, wherever the text ends.
		`"\u{1000000}"`, `"\u{1000000`, `"\u{0000041}"`, `"\u{0000000`, `"\u{fffffff`, `"\u{100000041}"`, `"\u{10000000000000041}"`, `"\u{10000000000000000`,
		"\"\n\"", "\"a\n", "\"\r\"", "\"\t\"", "\"\x00\"", "\"\x1f\"", "\"\x7f\"", "\"\x1f", "\"\x7f",
		// An error comes before what follows it.
		"\"\x01\\", `"\x\`, `"\u{d800}\u{`, `"a\q` + strings.Repeat("a", 5000) + `"`, `"` + strings.Repeat("a", 5000) + "\n", `"` + strings.Repeat("a", 5000) + `\x"`,
	} {
		checkUnquote(t, s, "", 0, api.ErrSyntax)
	}
	for _, s := range wrongBytes {
		checkUnquote(t, `"`+s+`"`, "", 0, api.ErrSyntax)
		checkUnquote(t, `"é`+s, "", 0, api.ErrSyntax)
	}
}

// P2.3
func TestUnquoteTruncated(t *testing.T) {
	for _, s := range []string{
		"", `"`, `"a`, `"é`, `"\`, `"\n`, `"\"`, `"\\`, `"\\\`, `"\\\"`, `"a\`, `"\u`, `"\u{`, `"\u{0`, `"\u{4`, `"\u{41}`, `"\u{0}`,
		// The number of the digits does not matter where the text ends after them.
		`"\u{00`, `"\u{041`, `"\u{000000`, `"\u{d`, `"\u{d8`, `"\u{d800`, `"\u{dfff`, `"\u{110000`, `"\u{ffffff`, `"\u{12345`, `"\u{123456`,
		`"` + strings.Repeat("a", 4097), `"` + strings.Repeat("a", 5000) + `\`, `"` + strings.Repeat("é", 5000) + `\u{4`,
	} {
		checkUnquote(t, s, "", 0, api.ErrTruncated)
	}
}

// P2.3: a text that ends within a literal is truncated at every place, except within the encoding of a code point.
func TestUnquoteOfEveryBeginning(t *testing.T) {
	literal := `"aé\n\r\t€\"\\\u{0}\u{d7ff}😀\u{10ffff} z\u{1f600}"`
	for end := range literal {
		checkUnquote(t, literal[:end], "", 0, api.ErrTruncated)
	}
	for end := 1; end < len(literal); end++ {
		if !utf8.RuneStart(literal[end]) {
			checkUnquote(t, literal[:end], "", 0, api.ErrSyntax)
		}
	}
	checkUnquote(t, literal, "aé\n\r\t€\"\\\x00\ud7ff😀\U0010ffff z😀", len(literal), api.OK)
}

// P2.3: the bytes of the string are counted, not those of the literal and not the code points.
func TestUnquoteLength(t *testing.T) {
	for _, c := range []struct {
		item, stands string
		count        int
	}{
		{"a", "a", 4096}, {"é", "é", 2048}, {"😀", "😀", 1024}, {`\n`, "\n", 4096}, {`\"`, `"`, 4096}, {`\u{0}`, "\x00", 4096}, {`\u{e9}`, "é", 2048}, {`\u{1f600}`, "😀", 1024},
	} {
		items := strings.Repeat(c.item, c.count)
		checkUnquote(t, `"`+items+`"`, strings.Repeat(c.stands, c.count), len(items)+2, api.OK)
		for _, more := range []string{"a", `\t`, `\u{0}`, "é", c.item, strings.Repeat(c.item, 100000)} {
			checkUnquote(t, `"`+items+more+`"`, "", 0, api.ErrTooLong)
			checkUnquote(t, `"`+more+items+`" rest`, "", 0, api.ErrTooLong)
			checkUnquote(t, `"`+items+more, "", 0, api.ErrTruncated)
		}
	}
	checkUnquote(t, `"`+strings.Repeat("€", 1365)+`a"`, strings.Repeat("€", 1365)+"a", 4098, api.OK)
	checkUnquote(t, `"`+strings.Repeat("€", 1366)+`"`, "", 0, api.ErrTooLong)
}

// P2.3: each code point stands for itself, unless it is excluded, and its number stands for it.
func TestUnquoteOfEachCodePoint(t *testing.T) {
	eachCodePoint(func(r rune) {
		text := string(r)
		if r != '"' && r != '\\' {
			if r < 32 || r == 127 {
				checkUnquote(t, `"`+text+`"`, "", 0, api.ErrSyntax)
			} else {
				checkUnquote(t, `"`+text+`"`, text, len(text)+2, api.OK)
			}
		}
		literal := `"\u{` + strconv.FormatInt(int64(r), 16) + `}"`
		checkUnquote(t, literal, text, len(literal), api.OK)
	})
}

// P2.3: no other number with up to six digits stands for a code point.
func TestUnquoteOfNumbersThatAreNoCodePoint(t *testing.T) {
	check := func(n int64) {
		digits := strconv.FormatInt(n, 16)
		checkUnquote(t, `"\u{`+digits+`}"`, "", 0, api.ErrSyntax)
		checkUnquote(t, `"\u{`+digits, "", 0, api.ErrTruncated)
	}
	for n := int64(0xd800); n <= 0xdfff; n++ {
		check(n)
	}
	for n := int64(0x110000); n <= 0xffffff; n += 251 {
		check(n)
	}
	check(0xffffff)
}

var (
	itemPattern   = regexp.MustCompile(`^(?:[^\x00-\x1f\x7f"\\]|\\[nrt"\\]|\\u\{(?:0|[1-9a-f][0-9a-f]{0,5})\})`)
	cutPattern    = regexp.MustCompile(`^\\(?:u(?:\{[0-9a-f]{0,6})?)?$`)
	simpleEscapes = map[string]string{`\n`: "\n", `\r`: "\r", `\t`: "\t", `\"`: `"`, `\\`: `\`}
)

// unquoteByPatterns is Unquote as the chapter says it, by regular expressions.
func unquoteByPatterns(s string) (string, int, api.Errno) {
	if s == "" {
		return "", 0, api.ErrTruncated
	}
	if s[0] != '"' {
		return "", 0, api.ErrSyntax
	}
	text, rest := "", s[1:]
	for rest != "" && rest[0] != '"' {
		if cutPattern.MatchString(rest) {
			return "", 0, api.ErrTruncated
		}
		item := itemPattern.FindString(rest)
		stands, simple := simpleEscapes[item]
		switch {
		case item == "" || !utf8.ValidString(item):
			return "", 0, api.ErrSyntax
		case item[0] != '\\':
			stands = item
		case !simple:
			n, _ := strconv.ParseInt(item[3:len(item)-1], 16, 64)
			if n > 0x10ffff || n >= 0xd800 && n <= 0xdfff {
				return "", 0, api.ErrSyntax
			}
			stands = string(rune(n))
		}
		text += stands
		rest = rest[len(item):]
	}
	if rest == "" {
		return "", 0, api.ErrTruncated
	}
	return text, len(s) - len(rest) + 1, api.OK
}

// checkTexts compares Unquote with the patterns for the beginning with up to count of the parts behind it.
func checkTexts(t *testing.T, beginning string, parts []string, count int) {
	t.Helper()
	want, n, e := unquoteByPatterns(beginning)
	checkUnquote(t, beginning, want, n, e)
	if count == 0 {
		return
	}
	for _, part := range parts {
		checkTexts(t, beginning+part, parts, count-1)
	}
}

// P2.3: all short texts of the bytes that matter.
func TestUnquoteOfAllShortTexts(t *testing.T) {
	checkTexts(t, "", []string{"\"", "\\", "u", "{", "}", "0", "n", "a", "é", "\xc3", "\n"}, 4)
	checkTexts(t, "\"", []string{"\"", "\\", "u", "{", "4", "}", "\xa9"}, 5)
	checkTexts(t, "\"\\u", []string{"{", "0", "7", "f", "A", "}", "\"", "\\"}, 5)
	checkTexts(t, "\"\\u{", []string{"0", "1", "d", "F", "}\""}, 6)
	checkTexts(t, "\"\\u{", []string{"0", "1", "}\""}, 9)
	checkTexts(t, "\"\\u{d", []string{"7", "8", "f", "}\"", "}"}, 5)
}

// P2.4
func TestEscape(t *testing.T) {
	for s, want := range map[string]string{
		"": "", "a": "a", "a${b": "a$${b", "${": "$${", "${}": "$${}", "$": "$", "{": "{", "{$": "{$", "$ {": "$ {", "$a{": "$a{",
		"$$": "$$", "$${": "$$${", "$$${": "$$$${", "$$$$$${": "$$$$$$${", "${${": "$${$${", "${{": "$${{", "$${$${": "$$${$$${", "a${b$${": "a$${b$$${", "${$": "$${$", "${$}{": "$${$}{",
		"\"\\\n": "\"\\\n", "é${é": "é$${é", "\xff${\xc3": "\xff$${\xc3", "%{": "%{", "$\x00{": "$\x00{",
		strings.Repeat("${", 4096): strings.Repeat("$${", 4096), strings.Repeat("$", 4096) + "{": strings.Repeat("$", 4097) + "{",
	} {
		if got := strlit.Escape(s); got != want {
			t.Errorf("Escape(%.40q) = %.60q; want %.60q", s, got, want)
		}
	}
}

// P2.5
func TestLength(t *testing.T) {
	for s, want := range map[string]int{
		"": 0, "a": 1, "é": 1, "€": 1, "😀": 1, "a\x00\n": 3, "\ufffd": 1, "\U0010ffff": 1, "e\u0301": 2, "aé€😀": 4, "\r\n": 2,
		"\xc3a": 2, "\xc3": 1, "\x80": 1, "\xff": 1, "é\xc3a": 3, "a\x80b": 3, "\xc3\xc3\xa9": 2, "\xff\xfe": 2, "\xa9\xc3": 2, "é\xa9": 2,
		// None of the bytes of these is part of the encoding of a code point.
		"\xe2\x82": 2, "\xe2\x82a": 3, "\xf0\x9f\x98": 3, "\xf0\x9f\x98é": 4, "\xc0\x80": 2, "\xe0\x80\x80": 3, "\xf0\x8f\xbf\xbf": 4, "\xed\xa0\x80": 3, "\xed\xbf\xbf": 3, "\xf4\x90\x80\x80": 4, "\xf8\x88\x80\x80\x80": 5,
		strings.Repeat("a", 4097): 4097, strings.Repeat("😀", 5000): 5000, strings.Repeat("\xff", 5000): 5000,
	} {
		if got := strlit.Length(s); got != want {
			t.Errorf("Length(%.40q) = %d; want %d", s, got, want)
		}
	}
	for _, s := range wrongBytes {
		if got := strlit.Length(s); got != len(s) {
			t.Errorf("Length(%q) = %d; want %d", s, got, len(s))
		}
	}
}

// P2.6: literals are read back, whatever follows them.
func TestLiteralsAreReadBack(t *testing.T) {
	for _, s := range validStrings() {
		for _, rest := range []string{"", "a", " ", "\"", "\"\"", "\\", "\\\"", "\n", "\x00", "\xff", "\xa9", "u{41}", "}", strings.Repeat("b", 5000)} {
			literal := strlit.Quote(s)
			checkUnquote(t, literal+rest, s, len(literal), api.OK)
		}
	}
	eachCodePoint(func(r rune) {
		s := "x" + string(r) + "0}"
		literal := strlit.Quote(s)
		checkUnquote(t, literal+"\\", s, len(literal), api.OK)
	})
}

// P2.7
func TestLiteralsArePrintable(t *testing.T) {
	check := func(s string) {
		literal := strlit.Quote(s)
		if !utf8.ValidString(literal) || strings.ContainsFunc(literal, func(r rune) bool { return r < 32 }) {
			t.Errorf("Quote(%.40q) = %.60q is not printable", s, literal)
		}
	}
	for _, s := range validStrings() {
		check(s)
	}
	eachCodePoint(func(r rune) { check(string(r)) })
}

// checkEscapes checks P2.8 for all texts with up to count of the parts behind the beginning.
func checkEscapes(t *testing.T, beginning string, parts []string, count int) {
	t.Helper()
	escaped := strlit.Escape(beginning)
	for at := range escaped {
		if strings.HasPrefix(escaped[at:], "${") && (at == 0 || escaped[at-1] != '$') {
			t.Errorf("Escape(%q) = %q has no dollar sign before the place %d", beginning, escaped, at)
		}
	}
	if got, want := strings.Count(escaped, "${"), strings.Count(beginning, "${"); got != want || len(escaped) != len(beginning)+want {
		t.Errorf("Escape(%q) = %q has other templates or other bytes", beginning, escaped)
	}
	if count == 0 {
		return
	}
	for _, part := range parts {
		checkEscapes(t, beginning+part, parts, count-1)
	}
}

// P2.8
func TestEscapedTextsHaveDollarSigns(t *testing.T) {
	checkEscapes(t, "", []string{"$", "{", "}", "a", "\xc3"}, 6)
	checkEscapes(t, "", []string{"$", "{"}, 12)
}
