package number_test

import (
	"math"
	"math/big"
	"strings"
	"testing"

	"provision/api"
	"provision/number"
)

type operation func(a, b int) (int, api.Errno)

type binaryCase struct {
	a, b, want int
	e          api.Errno
}

const limit = api.MaxNumber

// samples are numbers at and beside every limit that the chapter names.
func samples() []int {
	list := []int{
		math.MinInt, math.MinInt + 1, -1 << 62, -1 << 60, -limit - 2, -limit - 1,
		math.MaxInt, math.MaxInt - 1, 1 << 62, 1 << 60, limit + 2, limit + 1,
		// The greatest factors whose square is valid, and their neighbours.
		94906265, 94906266, 94906267, -94906265, -94906266, -94906267,
	}
	for n := -12; n <= 12; n++ {
		list = append(list, n)
	}
	for shift := 4; shift <= 53; shift++ {
		for d := -1; d <= 1; d++ {
			list = append(list, 1<<shift+d, -1<<shift+d)
		}
	}
	return list
}

// validSamples are the samples from -2^53 to 2^53, by the document's own number.
func validSamples() []int {
	var list []int
	for _, n := range samples() {
		if -9007199254740992 <= n && n <= 9007199254740992 {
			list = append(list, n)
		}
	}
	return list
}

// checkAll compares an operation with exact arithmetic, for all pairs of samples.
// The exact function returns nil where the operation is not defined.
func checkAll(t *testing.T, name string, do operation, undefined api.Errno, exact func(a, b *big.Int) *big.Int) {
	t.Helper()
	bound := big.NewInt(9007199254740992)
	valid := func(n *big.Int) bool { return n.CmpAbs(bound) <= 0 }
	for _, a := range samples() {
		for _, b := range samples() {
			x, y := big.NewInt(int64(a)), big.NewInt(int64(b))
			want, wantErr := 0, api.ErrInvalid
			if valid(x) && valid(y) {
				result := exact(x, y)
				switch {
				case result == nil:
					wantErr = undefined
				case !valid(result):
					wantErr = api.ErrRange
				default:
					want, wantErr = int(result.Int64()), api.OK
				}
			}
			if got, e := do(a, b); got != want || e != wantErr {
				t.Fatalf("%s(%d, %d) = %d, %d; want %d, %d", name, a, b, got, e, want, wantErr)
			}
		}
	}
}

func checkCases(t *testing.T, name string, do operation, cases []binaryCase) {
	t.Helper()
	for _, c := range cases {
		if got, e := do(c.a, c.b); got != c.want || e != c.e {
			t.Errorf("%s(%d, %d) = %d, %d; want %d, %d", name, c.a, c.b, got, e, c.want, c.e)
		}
	}
}

// floorDivide returns the quotient rounded down, or nil for a division by zero.
func floorDivide(a, b *big.Int) *big.Int {
	if b.Sign() == 0 {
		return nil
	}
	quotient, rest := new(big.Int).QuoRem(a, b, new(big.Int))
	if rest.Sign() != 0 && rest.Sign() != b.Sign() {
		quotient.Sub(quotient, big.NewInt(1))
	}
	return quotient
}

// P1.1
func TestValid(t *testing.T) {
	for _, n := range []int{0, 1, -1, 9007199254740991, 9007199254740992, -9007199254740991, -9007199254740992} {
		if !number.Valid(n) {
			t.Errorf("Valid(%d) = false", n)
		}
	}
	for _, n := range []int{9007199254740993, -9007199254740993, 1 << 54, -1 << 54, 1 << 60, -1 << 60, math.MaxInt, math.MinInt, math.MinInt + 1} {
		if number.Valid(n) {
			t.Errorf("Valid(%d) = true", n)
		}
	}
}

// P1.2
func TestFormat(t *testing.T) {
	for n, want := range map[int]string{
		0: "0", 7: "7", 10: "10", 100: "100", -1: "-1", -120: "-120", 1234567890: "1234567890",
		9007199254740992: "9007199254740992", 9007199254740993: "9007199254740993",
		-9007199254740992: "-9007199254740992", -9007199254740993: "-9007199254740993",
		math.MaxInt: "9223372036854775807", math.MinInt: "-9223372036854775808",
	} {
		if got := number.Format(n); got != want {
			t.Errorf("Format(%d) = %q; want %q", n, got, want)
		}
	}
	for _, n := range samples() {
		if got, want := number.Format(n), big.NewInt(int64(n)).String(); got != want {
			t.Errorf("Format(%d) = %q; want %q", n, got, want)
		}
	}
}

// P1.3
func TestParseNumbers(t *testing.T) {
	for s, want := range map[string]int{
		"0": 0, "1": 1, "-1": -1, "9": 9, "10": 10, "-12": -12, "1007": 1007, "-100": -100,
		"9007199254740991": 9007199254740991, "9007199254740992": 9007199254740992,
		"-9007199254740991": -9007199254740991, "-9007199254740992": -9007199254740992,
	} {
		if got, e := number.Parse(s); got != want || e != api.OK {
			t.Errorf("Parse(%q) = %d, %d; want %d", s, got, e, want)
		}
	}
}

// P1.3
func TestParseSyntax(t *testing.T) {
	long := strings.Repeat("9", 100000)
	for _, s := range []string{
		"", "-", "--", "--1", "+1", "+", "+0", "-+1", "-0", "00", "-00", "007", "-007", "01", "0x10", "0b1", "1_000", "1e3", "1.0", "1.",
		" 1", "1 ", "1\n", "\t1", "- 1", "1-", "1-2", "1x", "x1", "x", "-x", "1\x00", "\x00", "/", ":", "1/", "1:",
		"\u0661", "1\u0662", "\uff11", "\u22121", "\xff", "1\xff", "\xb1",
		// The syntax is examined before the range.
		"99999999999999999999999x", "-99999999999999999999999 ", "09007199254740993", "-09007199254740993",
		long + "x", "0" + long, "+" + long, "--" + long, strings.Repeat("0", 100000), "-" + strings.Repeat("0", 100000),
	} {
		if got, e := number.Parse(s); got != 0 || e != api.ErrSyntax {
			t.Errorf("Parse(%.40q) = %d, %d; want 0, ErrSyntax", s, got, e)
		}
	}
}

// P1.3
func TestParseRange(t *testing.T) {
	for _, s := range []string{
		"9007199254740993", "-9007199254740993", "9007199254741000", "90071992547409920", "10000000000000000", "-10000000000000000",
		"9223372036854775807", "9223372036854775808", "-9223372036854775808", "-9223372036854775809",
		// Multiples of 2^64 and their neighbours would be small if the digits overflowed an int.
		"18446744073709551615", "18446744073709551616", "18446744073709551617", "-18446744073709551616", "36893488147419103232",
		"99999999999999999999999", "-99999999999999999999999",
		strings.Repeat("9", 100000), "-" + strings.Repeat("1", 100000), "1" + strings.Repeat("0", 100000),
	} {
		if got, e := number.Parse(s); got != 0 || e != api.ErrRange {
			t.Errorf("Parse(%.40q) = %d, %d; want 0, ErrRange", s, got, e)
		}
	}
}

// P1.4
func TestAdd(t *testing.T) {
	checkCases(t, "Add", number.Add, []binaryCase{
		{2, 5, 7, api.OK}, {-2, -5, -7, api.OK}, {-5, 2, -3, api.OK}, {0, 0, 0, api.OK},
		{limit, 0, limit, api.OK}, {limit - 1, 1, limit, api.OK}, {limit, -limit, 0, api.OK}, {-limit + 1, -1, -limit, api.OK},
		{limit, 1, 0, api.ErrRange}, {1, limit, 0, api.ErrRange}, {limit, limit, 0, api.ErrRange},
		{-limit, -1, 0, api.ErrRange}, {-limit, -limit, 0, api.ErrRange},
		{1 << 60, 0, 0, api.ErrInvalid}, {0, 1 << 60, 0, api.ErrInvalid}, {limit + 1, -1, 0, api.ErrInvalid}, {1, -limit - 1, 0, api.ErrInvalid},
		{math.MaxInt, math.MaxInt, 0, api.ErrInvalid}, {math.MinInt, math.MinInt, 0, api.ErrInvalid}, {math.MinInt, math.MaxInt, 0, api.ErrInvalid},
	})
	checkAll(t, "Add", number.Add, api.OK, func(a, b *big.Int) *big.Int { return new(big.Int).Add(a, b) })
}

// P1.5
func TestSub(t *testing.T) {
	checkCases(t, "Sub", number.Sub, []binaryCase{
		{2, 5, -3, api.OK}, {5, 2, 3, api.OK}, {-2, -5, 3, api.OK}, {0, 0, 0, api.OK},
		{limit, limit, 0, api.OK}, {-limit, -limit, 0, api.OK}, {0, -limit, limit, api.OK}, {0, limit, -limit, api.OK}, {-1, limit - 1, -limit, api.OK},
		{limit, -1, 0, api.ErrRange}, {-limit, 1, 0, api.ErrRange}, {1, -limit, 0, api.ErrRange}, {limit, -limit, 0, api.ErrRange}, {-limit, limit, 0, api.ErrRange},
		{1 << 60, 0, 0, api.ErrInvalid}, {0, 1 << 60, 0, api.ErrInvalid}, {limit + 1, 1, 0, api.ErrInvalid}, {-1, -limit - 1, 0, api.ErrInvalid},
		{0, math.MinInt, 0, api.ErrInvalid}, {math.MinInt, math.MinInt, 0, api.ErrInvalid}, {math.MaxInt, math.MinInt, 0, api.ErrInvalid},
	})
	checkAll(t, "Sub", number.Sub, api.OK, func(a, b *big.Int) *big.Int { return new(big.Int).Sub(a, b) })
}

// P1.6
func TestMul(t *testing.T) {
	checkCases(t, "Mul", number.Mul, []binaryCase{
		{2, 5, 10, api.OK}, {-2, 5, -10, api.OK}, {2, -5, -10, api.OK}, {-2, -5, 10, api.OK},
		{0, 0, 0, api.OK}, {0, limit, 0, api.OK}, {-limit, 0, 0, api.OK}, {limit, 1, limit, api.OK}, {limit, -1, -limit, api.OK}, {-limit, -1, limit, api.OK},
		{1 << 26, 1 << 27, limit, api.OK}, {-1 << 26, 1 << 27, -limit, api.OK}, {-1 << 26, -1 << 27, limit, api.OK},
		// 2^53 - 1 = 6361 * 69431 * 20394401, and 2^53 + 1 = 3 * 3002399751580331.
		{6361 * 69431, 20394401, limit - 1, api.OK}, {3, 3002399751580331, 0, api.ErrRange}, {-3, 3002399751580331, 0, api.ErrRange},
		{1 << 30, 1 << 30, 0, api.ErrRange}, {limit, 2, 0, api.ErrRange}, {2, -limit, 0, api.ErrRange}, {limit, limit, 0, api.ErrRange}, {-limit, -limit, 0, api.ErrRange},
		// Products that are 0 or small modulo 2^64.
		{1 << 32, 1 << 32, 0, api.ErrRange}, {1<<32 + 1, 1 << 32, 0, api.ErrRange}, {1 << 53, 1 << 11, 0, api.ErrRange},
		{1 << 60, 0, 0, api.ErrInvalid}, {0, 1 << 60, 0, api.ErrInvalid}, {limit + 1, 1, 0, api.ErrInvalid}, {0, -limit - 1, 0, api.ErrInvalid},
		{math.MinInt, -1, 0, api.ErrInvalid}, {-1, math.MinInt, 0, api.ErrInvalid}, {math.MaxInt, math.MinInt, 0, api.ErrInvalid},
	})
	checkAll(t, "Mul", number.Mul, api.OK, func(a, b *big.Int) *big.Int { return new(big.Int).Mul(a, b) })
}

// P1.7
func TestDiv(t *testing.T) {
	checkCases(t, "Div", number.Div, []binaryCase{
		{7, 2, 3, api.OK}, {-7, 2, -4, api.OK}, {7, -2, -4, api.OK}, {-7, -2, 3, api.OK},
		{6, 2, 3, api.OK}, {-6, 2, -3, api.OK}, {6, -2, -3, api.OK}, {-6, -2, 3, api.OK},
		{0, 5, 0, api.OK}, {0, -5, 0, api.OK}, {1, limit, 0, api.OK}, {-1, limit, -1, api.OK}, {1, -limit, -1, api.OK}, {-1, -limit, 0, api.OK},
		{limit, 1, limit, api.OK}, {limit, -1, -limit, api.OK}, {-limit, -1, limit, api.OK}, {-limit, 1, -limit, api.OK}, {limit, limit, 1, api.OK}, {-limit, limit, -1, api.OK},
		{1, 0, 0, api.ErrDivide}, {0, 0, 0, api.ErrDivide}, {-limit, 0, 0, api.ErrDivide},
		{1 << 60, 0, 0, api.ErrInvalid}, {limit + 1, 0, 0, api.ErrInvalid}, {1 << 60, 1, 0, api.ErrInvalid}, {1, 1 << 60, 0, api.ErrInvalid}, {limit + 1, 2, 0, api.ErrInvalid}, {0, -limit - 1, 0, api.ErrInvalid},
		{math.MinInt, -1, 0, api.ErrInvalid}, {math.MinInt, 0, 0, api.ErrInvalid}, {1, math.MinInt, 0, api.ErrInvalid},
	})
	checkAll(t, "Div", number.Div, api.ErrDivide, floorDivide)
}

// P1.8
func TestMod(t *testing.T) {
	checkCases(t, "Mod", number.Mod, []binaryCase{
		{7, 2, 1, api.OK}, {-7, 2, 1, api.OK}, {7, -2, -1, api.OK}, {-7, -2, -1, api.OK},
		{7, 3, 1, api.OK}, {-7, 3, 2, api.OK}, {7, -3, -2, api.OK}, {-7, -3, -1, api.OK},
		{6, 2, 0, api.OK}, {-6, 2, 0, api.OK}, {6, -2, 0, api.OK}, {0, 5, 0, api.OK}, {0, -5, 0, api.OK}, {5, 1, 0, api.OK}, {5, -1, 0, api.OK},
		{1, limit, 1, api.OK}, {-1, limit, limit - 1, api.OK}, {1, -limit, 1 - limit, api.OK}, {-1, -limit, -1, api.OK},
		{limit, limit - 1, 1, api.OK}, {-limit, limit - 1, limit - 2, api.OK}, {limit - 1, -limit, -1, api.OK}, {-limit, -1, 0, api.OK}, {limit, limit, 0, api.OK},
		{1, 0, 0, api.ErrDivide}, {0, 0, 0, api.ErrDivide}, {limit, 0, 0, api.ErrDivide},
		{1 << 60, 0, 0, api.ErrInvalid}, {limit + 1, 0, 0, api.ErrInvalid}, {1 << 60, 1, 0, api.ErrInvalid}, {1, 1 << 60, 0, api.ErrInvalid}, {0, -limit - 1, 0, api.ErrInvalid},
		{math.MinInt, -1, 0, api.ErrInvalid}, {math.MinInt, 0, 0, api.ErrInvalid}, {1, math.MinInt, 0, api.ErrInvalid},
	})
	checkAll(t, "Mod", number.Mod, api.ErrDivide, func(a, b *big.Int) *big.Int {
		quotient := floorDivide(a, b)
		if quotient == nil {
			return nil
		}
		return quotient.Sub(a, quotient.Mul(quotient, b))
	})
}

// P1.9: texts of numbers are read back.
func TestNumbersAreReadBack(t *testing.T) {
	numbers := validSamples()
	for n := -2000; n <= 2000; n++ {
		numbers = append(numbers, n)
	}
	for _, n := range numbers {
		if got, e := number.Parse(number.Format(n)); got != n || e != api.OK {
			t.Errorf("Parse(Format(%d)) = %d, %d", n, got, e)
		}
	}
}

// P1.9: no other text is read as a number. All texts of up to four of these characters are tried.
func TestOnlyFormattedTextsAreRead(t *testing.T) {
	texts := []string{""}
	for i := 0; i < len(texts); i++ {
		s := texts[i]
		if len(s) < 4 {
			for _, c := range "-+019 x" {
				texts = append(texts, s+string(c))
			}
		}
		want, ok := new(big.Int).SetString(s, 10)
		canonical := ok && want.String() == s
		got, e := number.Parse(s)
		if (e == api.OK) != canonical {
			t.Errorf("Parse(%q) returns the error %d", s, e)
		}
		if e == api.OK && (number.Format(got) != s || int64(got) != want.Int64()) {
			t.Errorf("Parse(%q) = %d", s, got)
		}
	}
}

// P1.10
func TestDivisionIsExact(t *testing.T) {
	for _, a := range validSamples() {
		for _, b := range validSamples() {
			if b == 0 {
				continue
			}
			q, e1 := number.Div(a, b)
			m, e2 := number.Mod(a, b)
			if e1 != api.OK || e2 != api.OK {
				t.Fatalf("Div, Mod(%d, %d) return the errors %d, %d", a, b, e1, e2)
			}
			if a != q*b+m {
				t.Errorf("%d is not %d * %d + %d", a, q, b, m)
			}
			if b > 0 && (m < 0 || m > b-1) || b < 0 && (m > 0 || m < b+1) {
				t.Errorf("Mod(%d, %d) = %d is out of its range", a, b, m)
			}
		}
	}
}

// P1.11
func TestOperationsAreInverted(t *testing.T) {
	for _, a := range validSamples() {
		for _, b := range validSamples() {
			if c, e := number.Add(a, b); e == api.OK {
				if got, e := number.Sub(c, b); got != a || e != api.OK {
					t.Errorf("Sub(%d, %d) = %d, %d; want %d", c, b, got, e, a)
				}
			}
			c, e := number.Mul(a, b)
			if e != api.OK || b == 0 {
				continue
			}
			if got, e := number.Div(c, b); got != a || e != api.OK {
				t.Errorf("Div(%d, %d) = %d, %d; want %d", c, b, got, e, a)
			}
			if got, e := number.Mod(c, b); got != 0 || e != api.OK {
				t.Errorf("Mod(%d, %d) = %d, %d; want 0", c, b, got, e)
			}
		}
	}
}
