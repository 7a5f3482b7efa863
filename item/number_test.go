package item_test

import (
	"math/rand"
	"strconv"
	"strings"
	"testing"
)

// P9.3: numbers and their texts, written out.
func TestNumberAndText(t *testing.T) {
	for s, n := range map[string]uint64{
		"0": 0, "1": 1, "2": 2, "3": 3, "4": 4, "5": 5, "6": 6, "7": 7, "8": 8, "9": 9,
		"10": 10, "11": 11, "99": 99, "100": 100, "101": 101, "255": 255, "256": 256, "1000": 1000, "1234567890": 1234567890,
		"4294967295": 1<<32 - 1, "4294967296": 1 << 32,
		"999999999999999999": 999999999999999999, "1000000000000000000": 1000000000000000000,
		"9223372036854775807": 1<<63 - 1, "9223372036854775808": 1 << 63, "9223372036854775809": 1<<63 + 1,
		"9999999999999999999": 9999999999999999999, "10000000000000000000": 10000000000000000000,
		"12345678901234567890": 12345678901234567890,
		"18446744073709551609": 1<<64 - 7, "18446744073709551610": 1<<64 - 6, "18446744073709551614": 1<<64 - 2, "18446744073709551615": 1<<64 - 1,
	} {
		checkNumber(t, s, n, true)
		checkText(t, n, s)
	}
}

// P9.3: all numbers of up to five digits, and all texts of up to four bytes of some that may stand there.
func TestSmallNumbers(t *testing.T) {
	for n := range uint64(100000) {
		s := strconv.FormatUint(n, 10)
		checkText(t, n, s)
		checkNumber(t, s, n, true)
	}
	texts := []string{""}
	for range 4 {
		for _, s := range texts {
			want, is := wantNumber(s)
			checkNumber(t, s, want, is)
		}
		var longer []string
		for _, s := range texts {
			for _, b := range "0159/:+-_ xé" {
				longer = append(longer, s+string(b))
			}
		}
		texts = longer
	}
	for _, s := range texts {
		want, is := wantNumber(s)
		checkNumber(t, s, want, is)
	}
}

// P9.3: the greatest number, and texts just beyond it, of twenty digits and of more.
func TestNumberBeyondTheGreatest(t *testing.T) {
	for _, s := range []string{
		"18446744073709551616", "18446744073709551617", "18446744073709551619", "18446744073709551620", "18446744073709551625", "18446744073709551700", "18446744073709552000",
		"18446744073709560000", "18446744080000000000", "18450000000000000000", "18500000000000000000", "19000000000000000000", "20000000000000000000", "27670116110564327424", "36893488147419103232",
		"55340232221128654848", "90000000000000000000", "99999999999999999999",
		"100000000000000000000", "184467440737095516150", "184467440737095516160", "184467440737095516161", "340282366920938463463", "999999999999999999999",
		"340282366920938463463374607431768211456", "1" + strings.Repeat("0", 100), strings.Repeat("9", 1000), strings.Repeat("1", 1<<16), "1" + strings.Repeat("0", 1<<20),
	} {
		checkNone(t, s)
	}
}

// P9.3: all last three digits beside the greatest, and texts of one digit again and again.
func TestNumberBesideTheGreatest(t *testing.T) {
	for last := range 1000 {
		s := "18446744073709551" + strconv.Itoa(last + 1000)[1:]
		if is := last <= 615; is {
			checkNumber(t, s, 1<<64-1-uint64(615-last), true)
		} else {
			checkNone(t, s)
		}
	}
	for digits := 1; digits <= 25; digits++ {
		for d := '1'; d <= '9'; d++ {
			for _, s := range []string{strings.Repeat(string(d), digits), string(d) + strings.Repeat("0", digits-1), string(d) + strings.Repeat("9", digits-1)} {
				want, is := wantNumber(s)
				checkNumber(t, s, want, is)
				if is != (digits < 20 || digits == 20 && d == '1' && s[1] < '8') {
					t.Fatal(s, is)
				}
			}
		}
	}
}

// P9.3: a nought ahead, of nought and of any other number.
func TestNumberWithANoughtAhead(t *testing.T) {
	for many := 2; many < 25; many++ {
		checkNone(t, strings.Repeat("0", many))
	}
	for _, n := range edgeNumbers() {
		for _, ahead := range []string{"0", "00", strings.Repeat("0", 19), strings.Repeat("0", 20)} {
			checkNone(t, ahead+strconv.FormatUint(n, 10))
		}
	}
}

// P9.3: a sign, a blank, and other forms in which numbers may be written elsewhere.
func TestNumberInAnotherForm(t *testing.T) {
	for _, s := range []string{
		"", "+", "-", "+0", "-0", "+1", "-1", "1-", "1+", " ", " 1", "1 ", "1 2", "\t1", "1\n", "1\r\n", "1\x00", "\x001", "\x00",
		"1_000", "1,000", "1.0", "1.", ".1", "1e3", "0x1f", "0x", "0b1", "0o7", "ff", "x", "a", "1a", "a1", "NaN", "Inf", "1/2", "1:2", "/", ":", "0/", "0:",
		"１", "٣", "1２", "²", "½", "Ⅷ", "一", "\U0001d7d9", "\u00a01", "\ufeff1", "1\u200b", "−1",
		"\x80", "\xff", "\xb1", "\xc0\xb1", "1\xff", "\xff1", "1\x801", "\xe2\x82", "1\xe2\x82", "\xed\xa0\x80", "\ufffd", "1\ufffd", "\uffff", "\x7f",
	} {
		checkNone(t, s)
	}
}

// P9.3: each byte that is no digit, at each place of texts of any length; and each digit there.
func TestNumberWithAnyByteAtAnyPlace(t *testing.T) {
	for _, text := range []string{"7", "10", "12345", strings.Repeat("1", 19), "10000000000000000000", greatest, strings.Repeat("1", 21)} {
		for place := range len(text) {
			for b := range 256 {
				s := text[:place] + string([]byte{byte(b)}) + text[place+1:]
				want, is := wantNumber(s)
				checkNumber(t, s, want, is)
				checkNone(t, text[:place]+string([]byte{byte(b | 0x80)})+text[place:])
			}
		}
	}
}

// P9.3: the edges of numbers, with one byte more or less.
func TestNumberAtTheEdges(t *testing.T) {
	for _, n := range edgeNumbers() {
		s := strconv.FormatUint(n, 10)
		checkText(t, n, s)
		checkNumber(t, s, n, true)
		for digit := range 10 {
			for _, beside := range []string{s + strconv.Itoa(digit), strconv.Itoa(digit) + s, s[1:], s[:len(s)-1], s[:len(s)-1] + strconv.Itoa(digit)} {
				want, is := wantNumber(beside)
				checkNumber(t, beside, want, is)
			}
		}
	}
}

// P9.3: counted up and down, with numbers that stay within, come to an edge, and go beyond.
func TestCount(t *testing.T) {
	for _, c := range []struct {
		s    string
		by   uint64
		down bool
		want string
		n    uint64
	}{
		{"0", 0, false, "0", 0},
		{"0", 0, true, "0", 0},
		{"0", 1, false, "1", 1},
		{"0", 1, true, "0", 0},
		{"0", all, false, greatest, all},
		{"0", all, true, "0", 0},
		{"1", 1, true, "0", 0},
		{"1", 2, true, "0", 0},
		{"9", 1, false, "10", 10},
		{"10", 1, true, "9", 9},
		{"100", 1, true, "99", 99},
		{"7", all, true, "0", 0},
		{"9223372036854775807", 1, false, "9223372036854775808", 1 << 63},
		{"9223372036854775808", 1, true, "9223372036854775807", 1<<63 - 1},
		{"9223372036854775808", 1 << 63, false, "0", 0},
		{"9223372036854775808", 1 << 63, true, "0", 0},
		{"9223372036854775807", 1 << 63, true, "0", 0},
		{"9223372036854775809", 1 << 63, true, "1", 1},
		{"18446744073709551614", 1, false, greatest, all},
		{greatest, 0, false, greatest, all},
		{greatest, 0, true, greatest, all},
		{greatest, 1, false, "0", 0},
		{greatest, 2, false, "1", 1},
		{greatest, all, false, "18446744073709551614", all - 1},
		{greatest, all, true, "0", 0},
		{greatest, all - 1, true, "1", 1},
		{"1", all, false, "0", 0},
		{"2", all, false, "1", 1},
	} {
		checkCount(t, c.s, c.by, c.down, c.want, c.n, true)
	}
}

// P9.3: all pairs of edges.
func TestCountAtTheEdges(t *testing.T) {
	for _, n := range edgeNumbers() {
		for _, by := range edgeNumbers() {
			countBoth(t, strconv.FormatUint(n, 10), by)
		}
	}
}

// P9.3: any numbers.
func TestCountOfAnyNumbers(t *testing.T) {
	r := rand.New(rand.NewSource(94))
	for range 20000 {
		n, by := randomNumber(r), randomNumber(r)
		s := strconv.FormatUint(n, 10)
		for _, by := range []uint64{by, n, n - 1, n + 1, -n, -n - 1, -n + 1} {
			countBoth(t, s, by)
		}
	}
}

// P9.3: texts that are no number's are counted neither up nor down, also by nothing.
func TestCountOfNoNumber(t *testing.T) {
	r := rand.New(rand.NewSource(95))
	for range 5000 {
		s := randomBytes(r, r.Intn(25))
		if !isText(s) {
			checkNone(t, s)
		}
	}
	for _, s := range []string{"", "x", "00", "01", "-1", "+1", " 1", "1 ", "18446744073709551616", "100000000000000000000"} {
		checkNone(t, s)
	}
}
