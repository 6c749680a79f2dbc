package wire_test

import (
	"encoding/binary"
	"math"
	"math/big"
	"slices"
	"strings"
	"testing"
	"unsafe"

	"provision/api"
	"provision/wire"
)

// growing returns the numbers at which the encoding grows by one byte, with both neighbours.
func growing() []int {
	var list []int
	for bits := 6; bits < 63; bits += 7 {
		for d := -2; d <= 2; d++ {
			list = append(list, 1<<bits+d, -1<<bits+d)
		}
	}
	return list
}

// numbers returns numbers of every size of an encoding.
func numbers() []int {
	list := []int{math.MinInt, math.MinInt + 1, math.MinInt + 2, math.MaxInt, math.MaxInt - 1, api.MaxNumber, -api.MaxNumber, math.MaxInt32, math.MinInt32}
	for n := -300; n <= 300; n++ {
		list = append(list, n)
	}
	for bits := range 63 {
		list = append(list, 1<<bits-1, 1<<bits, 1<<bits+1, -1<<bits-1, -1<<bits, -1<<bits+1)
	}
	x := uint64(1)
	for range 300 {
		x ^= x << 13
		x ^= x >> 7
		x ^= x << 17
		list = append(list, int(x), int(x>>20), int(x>>40), -int(x>>30))
	}
	return append(list, growing()...)
}

// allBytes returns the text of all 256 bytes.
func allBytes() string {
	var text []byte
	for c := range 256 {
		text = append(text, byte(c))
	}
	return string(text)
}

// texts returns strings at whose lengths the encoding grows, and strings that look like encodings.
func texts() []string {
	list := []string{
		"a", "ab", "é€😀", "\x00", "\x01", "\x80", "\x00\x00", "\xff", "\xc3", "\xc3\x28", "\xed\xa0\x80", "\xff\xfe\x80", "\x80\x80\x80",
		"\x02a", "\x04ab", strings.Repeat("\x80", 9) + "\x01", strings.Repeat("\xff", 10), allBytes(), strings.Repeat(allBytes(), 40),
	}
	for _, n := range []int{0, 2, 62, 63, 64, 65, 126, 127, 128, 129, 255, 256, api.MaxString, 8191, 8192, api.MaxText, api.MaxBytes - 1, api.MaxBytes, 1 << 21} {
		list = append(list, strings.Repeat("x", n), strings.Repeat("\xff", n))
	}
	return list
}

// shortTexts returns those of the texts whose every prefix can be tried.
func shortTexts() []string {
	var list []string
	for _, s := range texts() {
		if len(s) <= 256 {
			list = append(list, s)
		}
	}
	return list
}

// encoded is the encoding of an integer as the chapter says it, in exact arithmetic.
func encoded(n int) string {
	u := new(big.Int).Lsh(big.NewInt(int64(n)), 1)
	if n < 0 {
		u.Neg(u).Sub(u, big.NewInt(1))
	}
	var text []byte
	for {
		group := new(big.Int)
		u.QuoRem(u, big.NewInt(128), group)
		if u.Sign() == 0 {
			return string(append(text, byte(group.Int64())))
		}
		text = append(text, byte(group.Int64())+128)
	}
}

// model is a Reader as the chapter says it.
type model struct {
	text string
	at   int
	err  api.Errno
}

// decoded returns the integer that is encoded at the beginning of s, and the size of its encoding.
func decoded(s string) (int, int, api.Errno) {
	last := slices.IndexFunc([]byte(s), func(c byte) bool { return c < 128 })
	switch {
	case len(s) >= 10 && (last < 0 || last >= 9) && s[9] > 1:
		return 0, 0, api.ErrRange
	case last < 0:
		return 0, 0, api.ErrTruncated
	case last > 0 && s[last] == 0:
		return 0, 0, api.ErrInvalid
	}
	u := new(big.Int)
	for i := last; i >= 0; i-- {
		u.Mul(u, big.NewInt(128)).Add(u, big.NewInt(int64(s[i]%128)))
	}
	if u.Bit(0) == 1 {
		u.Add(u, big.NewInt(1)).Neg(u)
	}
	return int(u.Quo(u, big.NewInt(2)).Int64()), last + 1, api.OK
}

func (m *model) fail(e api.Errno) int {
	m.err = e
	return 0
}

func (m *model) number() int {
	if m.err != api.OK {
		return 0
	}
	n, size, e := decoded(m.text[m.at:])
	if e != api.OK {
		return m.fail(e)
	}
	m.at += size
	return n
}

func (m *model) count(least int) int {
	start := m.at
	n := m.number()
	product := new(big.Int).Mul(big.NewInt(int64(n)), big.NewInt(int64(max(least, 1))))
	switch left := int64(len(m.text) - m.at); {
	case m.err != api.OK:
		return 0
	case n < 0:
		m.at = start
		return m.fail(api.ErrInvalid)
	case product.Cmp(big.NewInt(left)) > 0:
		m.at = start
		return m.fail(api.ErrTruncated)
	}
	return n
}

func (m *model) string() string {
	start := m.at
	n := m.number()
	switch {
	case m.err != api.OK:
		return ""
	case n < 0:
		m.fail(api.ErrInvalid)
	case n > len(m.text)-m.at:
		m.fail(api.ErrTruncated)
	default:
		m.at += n
		return m.text[m.at-n : m.at]
	}
	m.at = start
	return ""
}

// result is what can be seen of one call.
type result struct {
	n    int
	s    string
	left int
	err  api.Errno
}

// call is a call of a Reader, with the same of the model.
type call struct {
	name  string
	do    func(r *wire.Reader) (int, string)
	exact func(m *model) (int, string)
}

func countCall(name string, least int) call {
	return call{
		name,
		func(r *wire.Reader) (int, string) { return r.Count(least), "" },
		func(m *model) (int, string) { return m.count(least), "" },
	}
}

// calls returns a call of every kind.
func calls() []call {
	return []call{
		{"Number", func(r *wire.Reader) (int, string) { return r.Number(), "" }, func(m *model) (int, string) { return m.number(), "" }},
		{"String", func(r *wire.Reader) (int, string) { return 0, r.String() }, func(m *model) (int, string) { return 0, m.string() }},
		countCall("Count(1)", 1), countCall("Count(2)", 2), countCall("Count(0)", 0), countCall("Count(-1)", -1), countCall("Count(MaxInt)", math.MaxInt),
	}
}

// eachOrder visits all lists of length calls, in every order and with repetitions.
func eachOrder(length int, visit func(list []call)) {
	if length == 0 {
		visit(nil)
		return
	}
	for _, first := range calls() {
		eachOrder(length-1, func(rest []call) { visit(append([]call{first}, rest...)) })
	}
}

// checkCalls compares the calls with those of the model.
func checkCalls(t *testing.T, text string, list []call) {
	t.Helper()
	r, m := wire.NewReader(text), model{text: text}
	for i, c := range list {
		var got, want result
		got.n, got.s = c.do(r)
		got.left, got.err = r.Left(), r.Err()
		want.n, want.s = c.exact(&m)
		want.left, want.err = len(text)-m.at, m.err
		if got != want {
			t.Fatalf("in %.40x, %d bytes, the call %d, %s, gives %+v; want %+v", text, len(text), i, c.name, got, want)
		}
	}
}

func checkNumber(t *testing.T, text string, want, left int, e api.Errno) {
	t.Helper()
	r := wire.NewReader(text)
	if got := r.Number(); got != want || r.Left() != left || r.Err() != e {
		t.Errorf("Number of %.40x, %d bytes = %d, leaves %d, error %d; want %d, %d, %d", text, len(text), got, r.Left(), r.Err(), want, left, e)
	}
}

func checkString(t *testing.T, text, want string, left int, e api.Errno) {
	t.Helper()
	r := wire.NewReader(text)
	if got := r.String(); got != want || r.Left() != left || r.Err() != e {
		t.Errorf("String of %.40x, %d bytes = %.40q, leaves %d, error %d; want %.40q, %d, %d", text, len(text), got, r.Left(), r.Err(), want, left, e)
	}
}

func checkCount(t *testing.T, text string, least, want, left int, e api.Errno) {
	t.Helper()
	r := wire.NewReader(text)
	if got := r.Count(least); got != want || r.Left() != left || r.Err() != e {
		t.Errorf("Count(%d) of %.40x, %d bytes = %d, leaves %d, error %d; want %d, %d, %d", least, text, len(text), got, r.Left(), r.Err(), want, left, e)
	}
}

// P4.1
func TestAppendNumber(t *testing.T) {
	for n, want := range map[int]string{
		0: "\x00", -1: "\x01", 1: "\x02", -2: "\x03", 2: "\x04", -3: "\x05", 150: "\xac\x02", -150: "\xab\x02",
		63: "\x7e", -64: "\x7f", 64: "\x80\x01", -65: "\x81\x01", 8191: "\xfe\x7f", -8192: "\xff\x7f", 8192: "\x80\x80\x01", -8193: "\x81\x80\x01",
		1<<20 - 1: "\xfe\xff\x7f", 1 << 20: "\x80\x80\x80\x01", 1 << 27: "\x80\x80\x80\x80\x01", -1 << 27: "\xff\xff\xff\x7f",
		1<<53 - 1: "\xfe\xff\xff\xff\xff\xff\xff\x1f", 1 << 53: "\x80\x80\x80\x80\x80\x80\x80\x20",
		1<<62 - 1: "\xfe" + strings.Repeat("\xff", 7) + "\x7f", -1 << 62: strings.Repeat("\xff", 8) + "\x7f",
		1 << 62: strings.Repeat("\x80", 9) + "\x01", -1<<62 - 1: "\x81" + strings.Repeat("\x80", 8) + "\x01",
		math.MaxInt: "\xfe" + strings.Repeat("\xff", 8) + "\x01", math.MinInt: strings.Repeat("\xff", 9) + "\x01", math.MinInt + 1: "\xfd" + strings.Repeat("\xff", 8) + "\x01",
	} {
		if got := wire.AppendNumber("", n); got != want {
			t.Errorf("AppendNumber(%d) = %x; want %x", n, got, want)
		}
	}
}

// P4.1
func TestAppendNumberIsExact(t *testing.T) {
	for _, n := range numbers() {
		want := encoded(n)
		if other := string(binary.AppendVarint(nil, int64(n))); other != want {
			t.Fatalf("two models of the encoding of %d: %x, %x", n, other, want)
		}
		for _, dst := range []string{"", "x", "\x00", "\x80", "\xff\xff", strings.Repeat("\x80", 9), encoded(n), strings.Repeat("é", 5000)} {
			if got := wire.AppendNumber(dst, n); got != dst+want {
				t.Errorf("AppendNumber(%.40x, %d) = %.60x; want %x behind it", dst, n, got, want)
			}
		}
	}
}

// P4.2
func TestAppendString(t *testing.T) {
	for _, c := range []struct{ dst, s, want string }{
		{"x", "ab", "x\x04ab"}, {"", "", "\x00"}, {"", "a", "\x02a"}, {"\x80", "", "\x80\x00"}, {"\xff", "\xc3", "\xff\x02\xc3"}, {"", "é", "\x04é"}, {"", "\x00", "\x02\x00"},
		{"", strings.Repeat("a", 63), "\x7e" + strings.Repeat("a", 63)}, {"", strings.Repeat("a", 64), "\x80\x01" + strings.Repeat("a", 64)},
		{"", strings.Repeat("a", 127), "\xfe\x01" + strings.Repeat("a", 127)}, {"", strings.Repeat("a", 128), "\x80\x02" + strings.Repeat("a", 128)},
		{"d", strings.Repeat("\xff", 8191), "d\xfe\x7f" + strings.Repeat("\xff", 8191)}, {"d", strings.Repeat("\xff", 8192), "d\x80\x80\x01" + strings.Repeat("\xff", 8192)},
	} {
		if got := wire.AppendString(c.dst, c.s); got != c.want {
			t.Errorf("AppendString(%.40x, %.40x) = %.60x; want %.60x", c.dst, c.s, got, c.want)
		}
	}
	for _, s := range texts() {
		for _, dst := range []string{"", "x", "\x80", encoded(len(s))} {
			if got, want := wire.AppendString(dst, s), dst+encoded(len(s))+s; got != want {
				t.Errorf("AppendString(%.40x, %.40x), %d bytes = %.60x; want %.60x", dst, s, len(s), got, want)
			}
		}
	}
}

// P4.3
func TestNewReader(t *testing.T) {
	for _, s := range append(texts(), "\x80\x00", "\x01") {
		r := wire.NewReader(s)
		if r == nil || r.Left() != len(s) || r.Err() != api.OK {
			t.Errorf("NewReader(%.40x), %d bytes is not at the beginning, without an error", s, len(s))
		}
		if other := wire.NewReader(s); other == r {
			t.Errorf("NewReader(%.40x) returns a Reader twice", s)
		}
	}
}

// P4.3: Readers of the same string have positions and errors of their own.
func TestReadersAreIndependent(t *testing.T) {
	a, b, c := wire.NewReader("\x02a\x03"), wire.NewReader("\x02a\x03"), wire.NewReader("\x02a\x03")
	if a.String() != "a" || a.String() != "" || a.Err() != api.ErrInvalid || a.Left() != 1 {
		t.Error("the first Reader:", a.Err(), a.Left())
	}
	if b.Err() != api.OK || b.Left() != 3 || b.Count(1) != 1 || b.Left() != 2 {
		t.Error("the second Reader:", b.Err(), b.Left())
	}
	if c.Err() != api.OK || c.Left() != 3 || c.Number() != 1 || c.Left() != 2 {
		t.Error("the third Reader:", c.Err(), c.Left())
	}
}

// P4.4
func TestNumber(t *testing.T) {
	for _, n := range numbers() {
		for _, rest := range []string{"", "\x00", "\x80", "\xff", "a", strings.Repeat("\xff", 20)} {
			checkNumber(t, encoded(n)+rest, n, len(rest), api.OK)
		}
	}
}

// P4.4
func TestNumberAtTheTenthByte(t *testing.T) {
	for first, greatest := range map[string]int{"\x80": 1 << 62, "\xff": math.MinInt} {
		nine := strings.Repeat(first, 9)
		checkNumber(t, nine, 0, 9, api.ErrTruncated)
		checkNumber(t, nine+"\x00", 0, 10, api.ErrInvalid)
		checkNumber(t, nine+"\x01", greatest, 0, api.OK)
		for c := 2; c < 256; c++ {
			for _, rest := range []string{"", "\x00", "\x01", "\x80", "\x80\x80\x80"} {
				text := nine + string([]byte{byte(c)}) + rest
				checkNumber(t, text, 0, len(text), api.ErrRange)
			}
		}
		// The eleventh byte belongs to what follows.
		checkNumber(t, nine+"\x00\x01", 0, 11, api.ErrInvalid)
		checkNumber(t, nine+"\x01\x00", greatest, 1, api.OK)
		checkNumber(t, nine+"\x01\xff", greatest, 1, api.OK)
	}
	checkNumber(t, "\xfe"+strings.Repeat("\xff", 8)+"\x01", math.MaxInt, 0, api.OK)
	checkNumber(t, strings.Repeat("\x80", 5000), 0, 5000, api.ErrRange)
}

// P4.4
func TestNumberWithALastGroupOfZero(t *testing.T) {
	for others := 1; others <= 9; others++ {
		for _, other := range []string{"\x80", "\x81", "\xff"} {
			text := strings.Repeat(other, others) + "\x00"
			checkNumber(t, text, 0, len(text), api.ErrInvalid)
			checkNumber(t, text+"\x01", 0, len(text)+1, api.ErrInvalid)
		}
	}
	checkNumber(t, "\xac\x82\x00", 0, 3, api.ErrInvalid)
	// A group of 0 before the last one, or alone, is no error.
	checkNumber(t, "\x80\x80\x01", 8192, 0, api.OK)
	checkNumber(t, "\x00\x00", 0, 1, api.OK)
}

// P4.5
func TestString(t *testing.T) {
	for _, s := range texts() {
		for _, rest := range []string{"", "\x00", "x", "\xff\xff"} {
			checkString(t, encoded(len(s))+s+rest, s, len(rest), api.OK)
		}
	}
	checkString(t, "\x04ab", "ab", 0, api.OK)
	checkString(t, "\x00", "", 0, api.OK)
	checkString(t, "\x04\x04a", "\x04a", 0, api.OK)
}

// P4.5
func TestStringTruncated(t *testing.T) {
	checkString(t, "\x04a", "", 2, api.ErrTruncated)
	checkString(t, "\x02", "", 1, api.ErrTruncated)
	for _, length := range []int{1, 2, 63, 64, 65, 127, 128, 1000, 8192, 70000} {
		text := encoded(length) + strings.Repeat("a", length-1)
		checkString(t, text, "", len(text), api.ErrTruncated)
		checkString(t, text+"a", strings.Repeat("a", length), 0, api.OK)
	}
	for _, length := range []int{math.MaxInt, math.MaxInt - 1, math.MaxInt - 10, 1 << 62, 1 << 53, 1 << 32, 1<<32 + 1, 1 << 31} {
		for _, rest := range []string{"", "a", "ab", strings.Repeat("a", 100)} {
			text := encoded(length) + rest
			checkString(t, text, "", len(text), api.ErrTruncated)
		}
	}
}

// P4.5
func TestStringWithWrongLength(t *testing.T) {
	for _, length := range []int{-1, -2, -3, -64, -65, -1000, -1 << 53, -1 << 62, math.MinInt + 1, math.MinInt} {
		for _, rest := range []string{"", "a", "ab", strings.Repeat("a", 1000)} {
			text := encoded(length) + rest
			checkString(t, text, "", len(text), api.ErrInvalid)
		}
	}
	for text, e := range map[string]api.Errno{
		"": api.ErrTruncated, "\x80": api.ErrTruncated, strings.Repeat("\x80", 9): api.ErrTruncated,
		"\x80\x00": api.ErrInvalid, "\x81\x00a": api.ErrInvalid, "\x82\x80\x00a": api.ErrInvalid,
		strings.Repeat("\x80", 9) + "\x02": api.ErrRange, strings.Repeat("\xff", 10): api.ErrRange, strings.Repeat("\x80", 11): api.ErrRange,
	} {
		checkString(t, text, "", len(text), e)
	}
}

// P4.6
func TestCount(t *testing.T) {
	for _, c := range []struct {
		text              string
		least, want, left int
		e                 api.Errno
	}{
		{"\x04\x00\x00\x00", 1, 2, 3, api.OK}, {"\x04\x00\x00\x00", 2, 0, 4, api.ErrTruncated}, {"\x04\x00\x00\x00\x00", 2, 2, 4, api.OK},
		{"\x06\x00\x00\x00", 1, 3, 3, api.OK}, {"\x08\x00\x00\x00", 1, 0, 4, api.ErrTruncated},
		// A least of less than 1 counts as 1.
		{"\x06\x00\x00\x00", 0, 3, 3, api.OK}, {"\x08\x00\x00\x00", 0, 0, 4, api.ErrTruncated}, {"\x06\x00\x00\x00", -1, 3, 3, api.OK}, {"\x08\x00\x00\x00", -1, 0, 4, api.ErrTruncated},
		{"\x06\x00\x00\x00", math.MinInt, 3, 3, api.OK}, {"\x08\x00\x00\x00", math.MinInt, 0, 4, api.ErrTruncated}, {"\x02", -5, 0, 1, api.ErrTruncated}, {"\x02", 0, 0, 1, api.ErrTruncated},
		// A least that is greater than the bytes that follow.
		{"\x02\x00\x00\x00", 3, 1, 3, api.OK}, {"\x02\x00\x00\x00", 4, 0, 4, api.ErrTruncated}, {"\x02\x00\x00\x00", math.MaxInt, 0, 4, api.ErrTruncated},
		{"\x00\x00\x00", 3, 0, 2, api.OK}, {"\x00", math.MaxInt, 0, 0, api.OK}, {"\x00", 1, 0, 0, api.OK}, {"\x00", 0, 0, 0, api.OK}, {"\x00\xff", math.MinInt, 0, 1, api.OK},
		{"\x01", 1, 0, 1, api.ErrInvalid}, {"\x01\x00\x00", 1, 0, 3, api.ErrInvalid}, {"\x03\x00\x00", -1, 0, 3, api.ErrInvalid}, {"\x01\x00\x00", math.MaxInt, 0, 3, api.ErrInvalid}, {"\x01", math.MinInt, 0, 1, api.ErrInvalid},
		{encoded(math.MinInt) + "a", 1, 0, 11, api.ErrInvalid}, {encoded(math.MinInt) + "a", math.MaxInt, 0, 11, api.ErrInvalid}, {encoded(math.MinInt) + "a", 2, 0, 11, api.ErrInvalid},
		{"", 1, 0, 0, api.ErrTruncated}, {"\x80", 1, 0, 1, api.ErrTruncated}, {"\x80\x00", 1, 0, 2, api.ErrInvalid}, {strings.Repeat("\x80", 9) + "\x02", 1, 0, 10, api.ErrRange}, {strings.Repeat("\xff", 11), 0, 0, 11, api.ErrRange},
	} {
		checkCount(t, c.text, c.least, c.want, c.left, c.e)
	}
}

// P4.6: the product of n and least is exactly what follows, or greater by one.
func TestCountAtTheEnd(t *testing.T) {
	for _, n := range []int{1, 2, 3, 7, 63, 64, 100, 257} {
		for _, least := range []int{1, 2, 3, 5, 64, 100} {
			text := encoded(n) + strings.Repeat("\x00", n*least-1)
			checkCount(t, text, least, 0, len(text), api.ErrTruncated)
			checkCount(t, text+"\x00", least, n, n*least, api.OK)
			checkCount(t, text+"\x00\x00", least, n, n*least+1, api.OK)
			checkCount(t, text+"\x00", least+1, 0, len(text)+1, api.ErrTruncated)
		}
	}
}

// P4.6: products that are small, 0 or negative modulo 2^64.
func TestCountWithGreatProducts(t *testing.T) {
	for _, n := range []int{2, 3, 4, 1 << 10, 1 << 31, 1 << 32, 1<<32 + 1, 1 << 61, 1 << 62, 1<<62 + 1, math.MaxInt, math.MaxInt - 1} {
		for _, least := range []int{2, 3, 4, 8, 1 << 31, 1 << 32, 1<<32 + 1, 1 << 54, 1 << 61, 1 << 62, 1<<62 + 1, math.MaxInt, math.MaxInt - 1} {
			for _, rest := range []string{"", "a", "abc"} {
				text := encoded(n) + rest
				checkCount(t, text, least, 0, len(text), api.ErrTruncated)
			}
		}
		checkCount(t, encoded(n)+"a", 1, 0, len(encoded(n))+1, api.ErrTruncated)
	}
}

// P4.6: only the number is read, not the items.
func TestCountLeavesTheItems(t *testing.T) {
	r := wire.NewReader("\x04\x02a\x00\x05")
	if n, a, b, c := r.Count(1), r.String(), r.String(), r.Number(); n != 2 || a != "a" || b != "" || c != -3 || r.Left() != 0 || r.Err() != api.OK {
		t.Error(n, a, b, c, r.Left(), r.Err())
	}
}

// P4.7
func TestLeft(t *testing.T) {
	r := wire.NewReader("\x80\x01\x06abc\x04\x00\x00\x01z")
	for i, c := range []struct {
		do   call
		left int
	}{
		{calls()[0], 9}, {calls()[1], 5}, {calls()[2], 4}, {calls()[0], 3}, {calls()[1], 2},
		// With an error the position stays.
		{calls()[1], 2}, {calls()[0], 2}, {calls()[2], 2},
	} {
		if c.do.do(r); r.Left() != c.left || r.Left() != c.left {
			t.Errorf("Left after the call %d, %s, = %d; want %d", i, c.do.name, r.Left(), c.left)
		}
	}
	if r := wire.NewReader("abc"); r.Left() != 3 {
		t.Error("Left of a new Reader =", r.Left())
	}
	if r := wire.NewReader(""); r.Left() != 0 {
		t.Error("Left of nothing =", r.Left())
	}
}

// P4.8: the first error stays, whatever is called, and nothing else is returned or changed.
func TestFirstErrorStays(t *testing.T) {
	for _, c := range []struct {
		text string
		call int
		e    api.Errno
	}{
		{"", 0, api.ErrTruncated}, {"\x80", 0, api.ErrTruncated}, {"\x80\x00", 0, api.ErrInvalid}, {strings.Repeat("\x80", 9) + "\x02\x00", 0, api.ErrRange}, {strings.Repeat("\xff", 11), 0, api.ErrRange},
		{"", 1, api.ErrTruncated}, {"\x04a", 1, api.ErrTruncated}, {"\x01\x00", 1, api.ErrInvalid}, {"\x80\x00", 1, api.ErrInvalid}, {strings.Repeat("\xff", 10) + "\x00", 1, api.ErrRange},
		{"", 2, api.ErrTruncated}, {"\x04\x00", 2, api.ErrTruncated}, {"\x03\x00", 2, api.ErrInvalid}, {strings.Repeat("\xff", 10) + "\x00", 2, api.ErrRange}, {"\x04\x00\x00\x00", 3, api.ErrTruncated},
	} {
		for _, before := range []string{"", "\x02", "\xac\x02"} {
			eachOrder(3, func(list []call) {
				r := wire.NewReader(before + c.text)
				if before != "" {
					r.Number()
				}
				for i, next := range append([]call{calls()[c.call]}, list...) {
					if n, s := next.do(r); n != 0 || s != "" || r.Left() != len(c.text) || r.Err() != c.e || r.Err() != c.e {
						t.Errorf("in %x behind %x, the call %d, %s, after %s gives %d, %q, leaves %d, error %d; want the error %d", c.text, before, i, next.name, calls()[c.call].name, n, s, r.Left(), r.Err(), c.e)
					}
				}
			})
		}
	}
}

// P4.8 and R7
func TestReadersThatNewReaderDidNotReturn(t *testing.T) {
	for name, r := range map[string]*wire.Reader{"nil": nil, "&Reader{}": {}, "new": new(wire.Reader)} {
		if r.Err() != api.ErrState || r.Left() != 0 {
			t.Errorf("a Reader (%s) that nobody has called has the error %d, and leaves %d", name, r.Err(), r.Left())
		}
		eachOrder(3, func(list []call) {
			for _, c := range list {
				if n, s := c.do(r); n != 0 || s != "" || r.Left() != 0 || r.Err() != api.ErrState {
					t.Errorf("%s of a Reader (%s) gives %d, %q, leaves %d, error %d", c.name, name, n, s, r.Left(), r.Err())
				}
			}
		})
		if r != nil && *r != (wire.Reader{}) {
			t.Errorf("a Reader (%s) has changed", name)
		}
	}
	if r := wire.NewReader(""); r.Err() != api.OK || r.Left() != 0 {
		t.Error("a Reader of NewReader that nobody has called has the error", r.Err())
	}
}

// P4.9
func TestRoundTrip(t *testing.T) {
	for _, n := range numbers() {
		checkNumber(t, wire.AppendNumber("", n), n, 0, api.OK)
	}
	for _, s := range texts() {
		checkString(t, wire.AppendString("", s), s, 0, api.OK)
	}
	text := ""
	for i, n := range growing() {
		text = wire.AppendNumber(text, n)
		text = wire.AppendString(text, shortTexts()[i%len(shortTexts())])
	}
	r := wire.NewReader(text)
	for i, n := range growing() {
		want := shortTexts()[i%len(shortTexts())]
		if gotN, gotS := r.Number(), r.String(); gotN != n || gotS != want || r.Err() != api.OK {
			t.Fatalf("the pair %d is read as %d, %q, error %d; want %d, %q", i, gotN, gotS, r.Err(), n, want)
		}
	}
	if r.Left() != 0 {
		t.Errorf("%d bytes are left", r.Left())
	}
}

// P4.9: numbers and strings in every order, and empty ones too.
func TestRoundTripInEveryOrder(t *testing.T) {
	const parts = 8
	for order := range 1 << parts {
		for _, s := range []string{"", "a", "\xff\x00", strings.Repeat("\x80", 64)} {
			n, text := len(s)*order-order, ""
			for i := range parts {
				if order>>i&1 == 0 {
					text = wire.AppendNumber(text, n<<(7*i))
				} else {
					text = wire.AppendString(text, s)
				}
			}
			r := wire.NewReader(text)
			for i := range parts {
				if order>>i&1 == 0 && r.Number() != n<<(7*i) || order>>i&1 == 1 && r.String() != s {
					t.Errorf("the part %d of the order %b with %x is not read back", i, order, s)
				}
			}
			if r.Left() != 0 || r.Err() != api.OK {
				t.Errorf("the order %b with %x leaves %d, error %d", order, s, r.Left(), r.Err())
			}
		}
	}
}

// checkUnique checks P4.10 for a text.
func checkUnique(t *testing.T, text string) {
	t.Helper()
	r := wire.NewReader(text)
	if n := r.Number(); r.Err() == api.OK && wire.AppendNumber("", n) != text[:len(text)-r.Left()] {
		t.Errorf("in %x the number %d is read from other bytes than its encoding", text, n)
	}
	r = wire.NewReader(text)
	if s := r.String(); r.Err() == api.OK && wire.AppendString("", s) != text[:len(text)-r.Left()] {
		t.Errorf("in %x the string %q is read from other bytes than its encoding", text, s)
	}
}

// P4.10: all texts of up to two bytes are tried, and behind some bytes too.
func TestUniqueness(t *testing.T) {
	for _, before := range []string{"", "\x80", "\xff", "\x80\x80", "\x85\xff\x80", strings.Repeat("\x80", 7), strings.Repeat("\xff", 7), strings.Repeat("\x80", 8), strings.Repeat("\xff", 8), strings.Repeat("\x81", 9)} {
		checkUnique(t, before)
		for a := range 256 {
			checkUnique(t, before+string([]byte{byte(a)}))
			for b := range 256 {
				checkUnique(t, before+string([]byte{byte(a), byte(b)}))
			}
		}
	}
	for _, n := range numbers() {
		checkUnique(t, encoded(n)+"abc")
	}
	for _, s := range texts() {
		checkUnique(t, encoded(len(s))+s+"abc")
	}
}

// P4.11
func TestPrefixes(t *testing.T) {
	for _, n := range numbers() {
		text := wire.AppendNumber("", n)
		for end := range len(text) {
			checkNumber(t, text[:end], 0, end, api.ErrTruncated)
			checkString(t, text[:end], "", end, api.ErrTruncated)
			checkCount(t, text[:end], 1, 0, end, api.ErrTruncated)
		}
	}
	for _, s := range append(shortTexts(), strings.Repeat("x", 8192), strings.Repeat("\xff", 8192)) {
		text := wire.AppendString("", s)
		for end := range len(text) {
			checkString(t, text[:end], "", end, api.ErrTruncated)
		}
	}
}

// eachText visits all texts of up to length of the bytes.
func eachText(bytes, beginning string, length int, visit func(text string)) {
	visit(beginning)
	if length == 0 {
		return
	}
	for i := range len(bytes) {
		eachText(bytes, beginning+bytes[i:i+1], length-1, visit)
	}
}

// P4.4 to P4.8: all short texts of the bytes that matter, with the calls in every order.
func TestAllShortTexts(t *testing.T) {
	var orders [][]call
	eachOrder(3, func(list []call) { orders = append(orders, list) })
	check := func(text string) {
		for _, list := range orders {
			checkCalls(t, text, list)
		}
	}
	eachText("\x00\x01\x02\x04\x80\x82\xff", "", 4, check)
	eachText("\x00\x01\x02\x7f\x80\xff", strings.Repeat("\x80", 8), 3, check)
	eachText("\x00\x01\x02\x7f\x80\xff", "\x02a"+strings.Repeat("\xff", 8), 3, check)
}

// shared reports whether one of two strings begins within the bytes of the other one.
func shared(a, b string) bool {
	x, y := uintptr(unsafe.Pointer(unsafe.StringData(a))), uintptr(unsafe.Pointer(unsafe.StringData(b)))
	return x <= y && y < x+uintptr(len(a)) || y <= x && x < y+uintptr(len(b))
}

// R4
func TestResultsShareNoMemory(t *testing.T) {
	part := strings.Repeat("a", 100)
	text := wire.AppendString("", part)
	r, other := wire.NewReader(text), wire.NewReader(text)
	first, second := r.String(), other.String()
	if first != part || second != part {
		t.Fatal("the string is not read back")
	}
	if shared(first, text) || shared(second, text) || shared(first, second) {
		t.Error("a string that was read shares memory with the text or with another result")
	}
	if shared(part, text) || shared(text, wire.AppendString(text, "")) || shared(text, wire.AppendNumber(text, 0)) {
		t.Error("an encoding shares memory with an argument")
	}
}
