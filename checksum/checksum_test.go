package checksum_test

import (
	"hash/crc32"
	"strings"
	"testing"

	"provision/api"
	"provision/checksum"
)

// allBytes returns the text of all 256 bytes.
func allBytes() string {
	var text []byte
	for c := range 256 {
		text = append(text, byte(c))
	}
	return string(text)
}

// mixed returns n bytes that follow no simple rule and are no UTF-8.
func mixed(n int) string {
	text, x := make([]byte, n), uint32(n)+1
	for i := range text {
		x = nextWord(x)
		text[i] = byte(x >> 13)
	}
	return string(text)
}

// nextWord returns the successor of x in a sequence of all words but 0.
func nextWord(x uint32) uint32 {
	x ^= x << 13
	x ^= x >> 17
	return x ^ x<<5
}

// samples returns texts of every kind that the chapter's promises may tell apart.
func samples() []string {
	list := []string{
		"", "a", "ab", "abc", "abcd", "abcde", "123456789", "provision", "é€😀", "\n", "\r\n\t\"\\", "${a}",
		"\xff", "\x80", "\xc3", "\xc3\x28", "\xe2\x82", "\xed\xa0\x80", "\xf4\x90\x80\x80", "\xff\xff\xff\xff", "\xff\xff\xff\xff\xff",
		"\x00a", "a\x00", "\x00\x00\x00\x01", "\x01\x00\x00\x00", "\x43\xbe\xb7\xe8", "a\x43\xbe\xb7\xe8",
		allBytes(), strings.Repeat(allBytes(), 40), strings.Repeat("a", api.MaxString), strings.Repeat("\xff", 100),
		mixed(api.MaxText), mixed(api.MaxBytes - 1),
	}
	for n := range 70 {
		list = append(list, strings.Repeat("\x00", n), mixed(n))
	}
	return append(list, strings.Repeat("\x00", 4096))
}

// sums returns words with few and with many bits set, and some between them; hardly one is the checksum of a text at hand.
func sums() []uint32 {
	list := []uint32{0, 1, 2, 0x7FFFFFFF, 0x80000000, 0xFFFFFFFF, 0xFFFFFFFE, 0xEDB88320, 0x12477CDF, 0x04C11DB7, 0xDEBB20E3, 0x2144DF1C, 0x01020304}
	for bit := range 32 {
		list = append(list, 1<<bit, ^uint32(1<<bit))
	}
	for x, n := uint32(7), 0; n < 50; n++ {
		x = nextWord(x)
		list = append(list, x)
	}
	return list
}

// divided computes a checksum as the remainder of a division of polynomials,
// whose coefficients are the bits in the order in which they are sent.
func divided(s string) uint32 {
	var bits []bool
	for i := range len(s) + 4 {
		c := byte(0)
		if i < len(s) {
			c = s[i]
		}
		for bit := range 8 {
			// The register with all bits set inverts the first 32 bits.
			bits = append(bits, (c>>bit&1 == 1) != (i < 4))
		}
	}
	const degree, divisor = 32, uint64(0x104C11DB7)
	for i := range len(bits) - degree {
		if !bits[i] {
			continue
		}
		for d := range degree + 1 {
			bits[i+d] = bits[i+d] != (divisor>>(degree-d)&1 == 1)
		}
	}
	sum := uint32(0)
	for i, set := range bits[len(bits)-degree:] {
		if !set {
			sum |= 1 << i
		}
	}
	return sum
}

func checkSum(t *testing.T, s string, want uint32) {
	t.Helper()
	if got := checksum.Sum(s); got != want {
		t.Errorf("Sum(%.40q), %d bytes = %#08x; want %#08x", s, len(s), got, want)
	}
}

// P3.1
func TestSum(t *testing.T) {
	for s, want := range map[string]uint32{
		"": 0, "a": 0xE8B7BE43, "b": 0x71BEEFF9, "abc": 0x352441C2, "123456789": 0xCBF43926,
		"The quick brown fox jumps over the lazy dog": 0x414FA339,
		"\x00": 0xD202EF8D, "\x00\x00": 0x41D912FF, "\x00\x00\x00": 0xFF41D912, "\x00\x00\x00\x00": 0x2144DF1C, strings.Repeat("\x00", 32): 0x190A55AD,
		"\xff": 0xFF000000, "\xff\xff": 0xFFFF0000, "\xff\xff\xff": 0xFFFFFF00, "\xff\xff\xff\xff": 0xFFFFFFFF, strings.Repeat("\xff", 32): 0xFF6CAB0B,
		allBytes(): 0x29058C73,
	} {
		checkSum(t, s, want)
	}
}

// P3.1
func TestSumOfSamples(t *testing.T) {
	for _, s := range samples() {
		checkSum(t, s, crc32.ChecksumIEEE([]byte(s)))
		if len(s) < 1000 {
			checkSum(t, s, divided(s))
		}
	}
}

// P3.1: no byte and no pair of bytes is an exception.
func TestSumOfAllPairsOfBytes(t *testing.T) {
	for a := range 256 {
		checkSum(t, string([]byte{byte(a)}), crc32.ChecksumIEEE([]byte{byte(a)}))
		for b := range 256 {
			pair := []byte{byte(a), byte(b)}
			checkSum(t, string(pair), crc32.ChecksumIEEE(pair))
		}
	}
}

func checkUpdate(t *testing.T, sum uint32, s string, want uint32) {
	t.Helper()
	if got := checksum.Update(sum, s); got != want {
		t.Errorf("Update(%#08x, %.40q), %d bytes = %#08x; want %#08x", sum, s, len(s), got, want)
	}
}

// P3.2
func TestUpdate(t *testing.T) {
	checkUpdate(t, checksum.Sum("12345"), "6789", 0xCBF43926)
	checkUpdate(t, 0, "123456789", 0xCBF43926)
	checkUpdate(t, 0xCBF43926, "", 0xCBF43926)
	checkUpdate(t, 0, "", 0)
	// The register is 0, and stays 0.
	checkUpdate(t, 0xFFFFFFFF, "\x00\x00\x00", 0xFFFFFFFF)
	checkUpdate(t, 0xFFFFFFFF, "\x01", 0x88F8CF69)
	checkUpdate(t, 0, "\x00", 0xD202EF8D)
	checkUpdate(t, 1, "\x00", 0xA505DF1B)
	checkUpdate(t, 0x80000000, "\x00", 0xD282EF8D)
}

// P3.2
func TestUpdateContinuesAtEveryPlace(t *testing.T) {
	for _, s := range append(samples(), mixed(300)) {
		if len(s) > 1000 {
			continue
		}
		for i := range len(s) + 1 {
			checkUpdate(t, checksum.Sum(s[:i]), s[i:], checksum.Sum(s))
		}
	}
}

// P3.2: a text may come in any number of parts, and empty parts change nothing.
func TestUpdateByParts(t *testing.T) {
	for _, s := range samples() {
		for _, most := range []int{1, 3, 64, 4096} {
			sum := checksum.Update(0, "")
			for rest := s; rest != ""; {
				part := rest[:min(most, len(rest))]
				rest = rest[len(part):]
				sum = checksum.Update(checksum.Update(sum, part), "")
			}
			if want := checksum.Sum(s); sum != want {
				t.Errorf("the parts of %.40q, %d bytes, of at most %d bytes have %#08x; want %#08x", s, len(s), most, sum, want)
			}
		}
	}
}

// P3.2: sum need not be the checksum of a text at hand.
func TestUpdateOfAnySum(t *testing.T) {
	for _, sum := range sums() {
		checkUpdate(t, sum, "", sum)
		for _, s := range samples() {
			if len(s) < 1000 {
				checkUpdate(t, sum, s, crc32.Update(sum, crc32.IEEETable, []byte(s)))
			}
		}
		for c := range 256 {
			checkUpdate(t, sum, string([]byte{byte(c)}), crc32.Update(sum, crc32.IEEETable, []byte{byte(c)}))
		}
	}
}

// P3.3
func TestAppend(t *testing.T) {
	for s, want := range map[string]string{
		"":                  "\x00\x00\x00\x00",
		"a":                 "a\x43\xbe\xb7\xe8",
		"123456789":         "123456789\x26\x39\xf4\xcb",
		"\xff":              "\xff\x00\x00\x00\xff",
		"\xff\xff\xff\xff":  "\xff\xff\xff\xff\xff\xff\xff\xff",
		"\x00":              "\x00\x8d\xef\x02\xd2",
		"\x00\x00\x00\x00":  "\x00\x00\x00\x00\x1c\xdf\x44\x21",
		"a\x43\xbe\xb7\xe8": "a\x43\xbe\xb7\xe8\x1c\xdf\x44\x21",
		allBytes():          allBytes() + "\x73\x8c\x05\x29",
	} {
		if got := checksum.Append(s); got != want {
			t.Errorf("Append(%.40q) = %.60q; want %.60q", s, got, want)
		}
	}
}

// encoded returns the bytes of a checksum as the chapter says it.
func encoded(sum uint32) string {
	return string([]byte{byte(sum % 256), byte(sum / 256 % 256), byte(sum / 65536 % 256), byte(sum / 16777216)})
}

// P3.3
func TestAppendToSamples(t *testing.T) {
	for _, s := range samples() {
		if got, want := checksum.Append(s), s+encoded(crc32.ChecksumIEEE([]byte(s))); got != want {
			t.Errorf("Append(%.40q), %d bytes = %.60q; want %.60q", s, len(s), got, want)
		}
	}
}

func checkVerify(t *testing.T, s, want string, e api.Errno) {
	t.Helper()
	if got, gotErr := checksum.Verify(s); got != want || gotErr != e {
		t.Errorf("Verify(%.60q), %d bytes = %.60q, %d; want %.60q, %d", s, len(s), got, gotErr, want, e)
	}
}

// P3.4
func TestVerify(t *testing.T) {
	for s, want := range map[string]string{
		"\x00\x00\x00\x00":                  "",
		"a\x43\xbe\xb7\xe8":                 "a",
		"\xff\x00\x00\x00\xff":              "\xff",
		"\xff\xff\xff\xff\xff\xff\xff\xff":  "\xff\xff\xff\xff",
		"123456789\x26\x39\xf4\xcb":         "123456789",
		"\x00\x8d\xef\x02\xd2":              "\x00",
		"a\x43\xbe\xb7\xe8\x1c\xdf\x44\x21": "a\x43\xbe\xb7\xe8",
		allBytes() + "\x73\x8c\x05\x29":     allBytes(),
	} {
		checkVerify(t, s, want, api.OK)
	}
}

// P3.4
func TestVerifyOfShortTexts(t *testing.T) {
	for _, s := range []string{"", "a", "ab", "abc", "\x00", "\x00\x00", "\x00\x00\x00", "\xff", "\xff\xff\xff", "\x43\xbe\xb7", "é", "€"} {
		checkVerify(t, s, "", api.ErrTruncated)
	}
	for _, s := range []string{
		"abcd", "abcde", "\xff\xff\xff\xff", "\xff\xff\xff\xff\xff", "\x00\x00\x00\x00\x00", "\x01\x00\x00\x00", "\x00\x00\x00\x01", "\x00\x00\x00\x80", "\x43\xbe\xb7\xe8", "a\x43\xbe\xb7",
	} {
		checkVerify(t, s, "", api.ErrChecksum)
	}
}

// P3.4: of the texts of five bytes, one for each first byte is accepted.
func TestVerifyComparesAllBytesOfTheChecksum(t *testing.T) {
	for c := range 256 {
		s := string([]byte{byte(c)})
		sum := crc32.ChecksumIEEE([]byte(s))
		checkVerify(t, s+encoded(sum), s, api.OK)
		for d := uint32(1); d < 256; d++ {
			for shift := 0; shift < 32; shift += 8 {
				checkVerify(t, s+encoded(sum^d<<shift), "", api.ErrChecksum)
			}
		}
	}
}

// P3.4: the checksum of another text, of another way, or at another place is wrong.
func TestVerifyOfWrongChecksums(t *testing.T) {
	for _, s := range []string{"abcd", "123456789", "é€😀", allBytes(), mixed(1000)} {
		sum := checksum.Sum(s)
		reversed := []byte{byte(sum >> 24), byte(sum >> 16), byte(sum >> 8), byte(sum)}
		for _, text := range []string{
			s, s + string(reversed), s + encoded(^sum), s + encoded(sum+1), s + encoded(0), s + encoded(0xFFFFFFFF), encoded(sum) + s,
			checksum.Append(s) + "\x00", checksum.Append(s) + "\n", "\x00" + checksum.Append(s), checksum.Append(s)[1:],
			checksum.Append(s)[:len(s)+3], s + "\x00" + encoded(sum), s + "x" + encoded(sum), s + encoded(checksum.Sum("")), s + encoded(checksum.Sum(s+s)),
		} {
			checkVerify(t, text, "", api.ErrChecksum)
		}
	}
}

// P3.5
func TestVerifyRecoversWhatWasAppendedTo(t *testing.T) {
	for _, s := range samples() {
		checkVerify(t, checksum.Append(s), s, api.OK)
		checkVerify(t, checksum.Append(checksum.Append(s)), checksum.Append(s), api.OK)
	}
	for a := range 256 {
		for b := range 256 {
			s := string([]byte{byte(a), byte(b)})
			checkVerify(t, checksum.Append(s), s, api.OK)
		}
	}
}

// checkBurst changes the bits of a text that Verify accepts, from the bit at on,
// where pattern has a 1. Bits that would lie beyond the text are left out.
func checkBurst(t *testing.T, s string, at int, pattern uint32) {
	t.Helper()
	text := []byte(s)
	for i := at; i < 8*len(text) && i < at+32; i++ {
		text[i/8] ^= byte(pattern>>(i-at)&1) << (i % 8)
	}
	if changed := string(text); changed != s {
		checkVerify(t, changed, "", api.ErrChecksum)
	}
}

// accepted returns texts that Verify accepts.
func accepted() []string {
	list := []string{
		"\x00\x00\x00\x00", "\xff\xff\xff\xff\xff\xff\xff\xff", "a\x43\xbe\xb7\xe8", "123456789\x26\x39\xf4\xcb",
		checksum.Append(strings.Repeat("\x00", 20)), checksum.Append("é€😀"), checksum.Append("\xff\xc3\x80"),
	}
	for n := range 12 {
		list = append(list, checksum.Append(mixed(n)))
	}
	return append(list, checksum.Append(checksum.Append(mixed(30))))
}

// P3.6
func TestOneBitIsChanged(t *testing.T) {
	for _, s := range append(accepted(), checksum.Append(allBytes()), checksum.Append(mixed(1000))) {
		for at := range 8 * len(s) {
			checkBurst(t, s, at, 1)
		}
	}
}

// P3.6
func TestTwoBitsWithin32AreChanged(t *testing.T) {
	for _, s := range accepted() {
		for at := range 8 * len(s) {
			for far := 1; far < 32; far++ {
				checkBurst(t, s, at, 1|1<<far)
			}
		}
	}
}

// P3.6: changes of every length, with all bits between the first and the last one changed.
func TestAllBitsOfABurstAreChanged(t *testing.T) {
	for _, s := range accepted() {
		for at := range 8 * len(s) {
			for length := 1; length <= 32; length++ {
				checkBurst(t, s, at, 1<<(length-1)|(1<<(length-1)-1))
			}
		}
	}
}

// P3.6
func TestShortBursts(t *testing.T) {
	for _, s := range accepted() {
		for at := range 8 * len(s) {
			for pattern := uint32(1); pattern < 1<<9; pattern += 2 {
				checkBurst(t, s, at, pattern)
			}
		}
	}
}

// P3.6: among the patterns are the divisor's 33 bits without the first and without the
// last one, in both orders: only with all of them the change would not be noticed.
func TestLongBursts(t *testing.T) {
	patterns := append(sums(), 0xEDB88320, 0xDB710641, 0x04C11DB7, 0x82608EDB)
	for x, n := uint32(99), 0; n < 500; n++ {
		x = nextWord(x)
		patterns = append(patterns, x, x|1, x|1|1<<31)
	}
	for _, s := range accepted() {
		for at := range 8 * len(s) {
			for _, pattern := range patterns {
				checkBurst(t, s, at, pattern)
			}
		}
	}
}

// P3.6: every other text of as many bytes as a checksum has is refused.
func TestChangesOfTheEmptyTextsChecksum(t *testing.T) {
	for high := range uint32(1 << 16) {
		checkBurst(t, "\x00\x00\x00\x00", 0, high)
		checkBurst(t, "\x00\x00\x00\x00", 8, high)
		checkBurst(t, "\x00\x00\x00\x00", 16, high)
		checkBurst(t, "\x00\x00\x00\x00", 0, high<<16|nextWord(high+1)>>16)
	}
}
