package words_test

import (
	"math/rand"
	"slices"
	"strconv"
	"strings"
	"testing"

	"cloakroom/api"
	"cloakroom/words"
)

// P15.2: at most 16384 bytes are handed in.
func TestHowManyBytes(t *testing.T) {
	for _, s := range []string{"PONG\r\n", "x", "\r\n", "END\r\n", "VALUE k 0 0 0 512\r\n"} {
		long := strings.Repeat(s, maxText+2)
		for of := range uint8(13) {
			for _, n := range []int{maxText - 1, maxText} {
				checkModel(t, long[:n], of)
			}
			for _, n := range []int{maxText + 1, maxText + 2, len(long)} {
				checkRead(t, long[:n], of, api.Answer{}, 0, api.ErrText)
			}
		}
	}
	checkRead(t, "PONG\r\n"+strings.Repeat("x", maxText-6), 1, api.Answer{Kind: 4}, 6, api.OK)
	for _, b := range [][]byte{nil, {}} {
		if a, n, e := words.Read(b, 1); !same(a, api.Answer{}) || n != 0 || e != api.OK {
			t.Fatal(a, n, e)
		}
	}
}

// P15.2: a line's end is looked for among the first 514 bytes that are left, of the first line, and of those behind items.
func TestLinesEnd(t *testing.T) {
	for _, ahead := range []string{"", "VALUE k 0 0 0 0\r\n\r\n", strings.Repeat("VALUE k 0 0 0 3\r\n\r\n\r\r\n", 8)} {
		for n := range 514 {
			checkNotWhole(t, ahead+strings.Repeat("x", n), 1)
			checkNotWhole(t, ahead+strings.Repeat("x", max(n-1, 0))+"\r", 1)
			checkBad(t, ahead+strings.Repeat("x", min(n, maxLine))+"\r\n", 1)
		}
		for _, n := range []int{514, 515, 516, 600, 1028, 5000} {
			checkBad(t, ahead+strings.Repeat("x", n), 1)
			checkBad(t, ahead+strings.Repeat("x", n-1)+"\r", 1)
			checkBad(t, ahead+strings.Repeat("x", 513)+strings.Repeat("\r\n", n)[:n-513], 1)
			checkBad(t, ahead+strings.Repeat("x", 512)+"\n\r"+strings.Repeat("\r\n", n)[:n-514], 1)
		}
		line := "VALUE " + strings.Repeat("k", maxLine-6)
		checkNotWhole(t, ahead+line+"\r", 1)
		checkBad(t, ahead+line+"\r\n", 1)
		checkBad(t, ahead+line+"\rx", 1)
	}
}

// P15.2: a 13 or a 10 that stands alone ends nothing.
func TestHalfEnds(t *testing.T) {
	for of := range uint8(13) {
		for _, s := range []string{"\r", "\n", "\n\r", "\r\r", "PONG\r", "PONG\n", "PONG\n\r", "PONG\r\r", "PONG\nPONG\r"} {
			checkNotWhole(t, s, of)
		}
		for _, line := range []string{"", "\r", "\n", "\n\r", "PONG\r", "PONG\n", "\nPONG", "\rPONG", "PONG\nPONG", "END\r", "PUSH k\r", "PUSH \r", "NUMBER 1\r", "DELETED 1\n", "VALUE k 0 0 0 0\r", "VALUE k 0 0 0 0\n"} {
			checkBad(t, line+"\r\n", of)
			checkBad(t, line+"\r\n\r\nEND\r\n", of)
		}
	}
}

// valueLine is a line of an item with one of its words in another form.
func valueLine(place int, word string) string {
	line := []string{"VALUE", "k", "1", "2", "3", "0"}
	line[place] = word
	return strings.Join(line, " ") + "\r\n"
}

// P15.2: a line of an item has six words, with single blanks between.
func TestWordsOfAnItem(t *testing.T) {
	whole := []string{"VALUE", "k", "1", "2", "3", "0"}
	checkRead(t, strings.Join(whole, " ")+"\r\n\r\nEND\r\n", 1, got(api.Item{Key: "k", Flags: 1, Until: 2, Unique: 3}), 24, api.OK)
	for n := range whole {
		checkBad(t, strings.Join(whole[:n], " ")+"\r\n\r\nEND\r\n", 1)
		checkBad(t, strings.Join(slices.Delete(slices.Clone(whole), n, n+1), " ")+"\r\n\r\nEND\r\n", 1)
		checkBad(t, strings.Join(slices.Insert(slices.Clone(whole), n, ""), " ")+"\r\n\r\nEND\r\n", 1)
		checkBad(t, valueLine(n, whole[n]+"\t")+"\r\nEND\r\n", 1)
		checkBad(t, valueLine(n, "")+"\r\nEND\r\n", 1)
	}
	for _, more := range []string{" ", " 0", " 0 0", "  ", " x"} {
		checkBad(t, strings.Join(whole, " ")+more+"\r\n\r\nEND\r\n", 1)
	}
	for _, word := range []string{"value", "Value", "VALUe", "VALU", "VALUES", "VALUE1", " VALUE", "ITEM"} {
		checkBad(t, valueLine(0, word)+"\r\nEND\r\n", 1)
	}
}

// wrongNumbers are none, or above a most.
func wrongNumbers(most string) []string {
	one := []byte(most)
	for i := len(one) - 1; i >= 0; i-- {
		if one[i]++; one[i] <= '9' {
			break
		}
		one[i] = '0'
	}
	return []string{"", string(one), most + "0", "1" + most, strings.Repeat("9", len(most)+1), "0" + most, "00", "01", "007", "+0", "+1", "-0", "-1", "1+", " 1", "1 ", "1.", "1.0", ".1", "1e1", "0x1", "0b1", "0o1", "1_0", "_1", "x", "1x", "x1", ":", "/", "1:", "\u0661", "\u00b2", "1\u0661", "\x00", "1\x00", "null", strings.Repeat("1", 400), strings.Repeat("0", 400), "18446744073709551616", "36893488147419103232", "340282366920938463463374607431768211456"}
}

// P15.2: each number of an item at 0, at its most, one more, and in forms in which none is written.
func TestNumbersOfAnItem(t *testing.T) {
	for place, most := range map[int]string{2: "4294967295", 3: "1099511627776", 4: "18446744073709551615", 5: "512"} {
		for _, n := range []string{"0", "1", "9", "10", "255", "256", "511", most, most[:len(most)-1]} {
			line := valueLine(place, n)
			x, many, is := wantItem(line[:len(line)-2])
			if !is {
				t.Fatal(line)
			}
			x.Value = strings.Repeat("v", many)
			checkAnswer(t, got(x), line+x.Value+"\r\nEND\r\n")
		}
		for _, n := range wrongNumbers(most) {
			checkBad(t, valueLine(place, n)+"\r\nEND\r\n", 1)
			checkBad(t, valueLine(place, n), 1)
		}
	}
	for n := range 514 {
		line := valueLine(5, strconv.Itoa(n))
		if n > maxValue {
			checkBad(t, line+strings.Repeat("v", n)+"\r\nEND\r\n", 1)
			continue
		}
		checkModel(t, line+strings.Repeat("v", n)+"\r\nEND\r\n", 1)
		checkNotWhole(t, line+strings.Repeat("v", n), 1)
	}
}

// P15.2: keys of items and of pushes.
func TestKeys(t *testing.T) {
	check := func(key string, is bool) {
		t.Helper()
		if !is {
			checkBad(t, "PUSH "+key+"\r\n", 0)
			checkBad(t, valueLine(1, key)+"\r\nEND\r\n", 1)
			return
		}
		checkAnswer(t, api.Answer{Kind: 7, Key: key}, "PUSH "+key+"\r\n")
		checkAnswer(t, got(api.Item{Key: key, Flags: 1, Until: 2, Unique: 3}), valueLine(1, key)+"\r\nEND\r\n")
	}
	for n := range 40 {
		check(strings.Repeat("k", n), n >= 1 && n <= 32)
	}
	for c := range 256 {
		b := string([]byte{byte(c)})
		for _, key := range []string{b, b + "x", "x" + b, "x" + b + "x"} {
			check(key, c >= 33 && c <= 126)
		}
	}
	for of := range 256 {
		checkRead(t, "PUSH k\r\n", uint8(of), api.Answer{Kind: 7, Key: "k"}, 8, api.OK)
		for _, line := range []string{"PUSH", "PUSH ", "PUSH  k", "PUSH k k", "PUSH k ", " PUSH k", "PUSHk", "PUSH\tk", "push k", "PUSH \x7f", "PUSH \u00e9", "PUSH " + strings.Repeat("k", 33)} {
			checkBad(t, line+"\r\n", uint8(of))
		}
	}
}

// P15.2: a value is there whole or not at all; its end stands behind as many bytes as its line tells.
func TestValuesThatAreRead(t *testing.T) {
	r := rand.New(rand.NewSource(152))
	for _, n := range []int{0, 1, 2, 3, 9, 10, 99, 100, 255, 256, 511, 512} {
		line := valueLine(5, strconv.Itoa(n))
		x, _, _ := wantItem(line[:len(line)-2])
		for _, v := range []string{strings.Repeat("v", n), strings.Repeat("\r\n", n)[:n], strings.Repeat("END\r\n", n)[:n], randomBytes(r, n)} {
			x.Value = v
			s := line + v + "\r\n"
			checkAnswer(t, got(x), s+"END\r\n")
			checkAnswer(t, got(x, x), s+s+"END\r\n")
			for _, end := range []string{"\n\r", "\r\r", "\n\n", "\rx", "x\n", "xx", "  ", "\x00\x00", "\r\x0b"} {
				for _, behind := range []string{"", "\r\n", "\n", "\r\nEND\r\n", "END\r\n", "x"} {
					checkBad(t, line+v+end+behind, 1)
					checkBad(t, s+line+v+end+behind, 1)
				}
				checkNotWhole(t, line+v+end[:1], 1)
			}
		}
	}
	checkNotWhole(t, valueLine(5, "1")+"\r\n", 1)
	checkBad(t, valueLine(5, "1")+"\r\nEND\r\n", 1)
	checkBad(t, valueLine(5, "0")+"x\r\nEND\r\n", 1)
}

// P15.2: eight items are read; a ninth line of one is none, whether its value is there or not.
func TestTheNinthItem(t *testing.T) {
	x := api.Item{Key: "k", Flags: 1, Until: 2, Unique: 3}
	s := strings.Repeat(valueLine(1, "k")+"\r\n", 8)
	checkRead(t, s+"END\r\n", 1, got(slices.Repeat([]api.Item{x}, 8)...), len(s)+5, api.OK)
	checkNotWhole(t, s, 1)
	checkNotWhole(t, s+"VALUE k 1 2 3 0\r", 1)
	checkBad(t, s+valueLine(1, "k"), 1)
	checkBad(t, s+valueLine(5, "512"), 1)
	checkBad(t, s+valueLine(1, "k")+"\r\n", 1)
	checkBad(t, s+valueLine(1, "k")+"\r\nEND\r\n", 1)
	for n := range 8 {
		checkRead(t, s[:n*19]+"END\r\n", 1, got(slices.Repeat([]api.Item{x}, n)...), n*19+5, api.OK)
	}
}

// P15.2: items, and their END, are those of a get alone.
func TestItemsOfOthers(t *testing.T) {
	for of := range 256 {
		if of == 1 {
			continue
		}
		checkBad(t, "END\r\n", uint8(of))
		checkBad(t, valueLine(1, "k"), uint8(of))
		checkBad(t, valueLine(1, "k")+"\r\nEND\r\n", uint8(of))
		checkBad(t, valueLine(5, "9"), uint8(of))
	}
	checkRead(t, "END\r\n", 1, got(), 5, api.OK)
}

// P15.2: behind an item stands another one, or END, and no other line of the table.
func TestBehindAnItem(t *testing.T) {
	item := valueLine(1, "k") + "\r\n"
	for _, a := range each() {
		s, _ := wantWrite(a)
		if s == "END\r\n" {
			continue
		}
		checkBad(t, item+s, 1)
		checkBad(t, item+item+s, 1)
		checkBad(t, item+s+"END\r\n", 1)
	}
	for _, line := range []string{"", "x", "VALUE", "VALUE k", "END ", " END", "end", "ENDE", "EN", "END END"} {
		checkBad(t, item+line+"\r\n", 1)
		checkBad(t, line+"\r\n", 1)
	}
}

// P15.2: each line of the table, with each kind of command.
func TestLinesOfEveryKind(t *testing.T) {
	for _, w := range rows() {
		a := plain(w, 0)
		line := w.word
		switch {
		case w.most != "":
			line += " 8"
			a.Result.Number = 8
		case w.word == "PUSH":
			line += " k"
		}
		for of := range 256 {
			if a.Kind == 1 {
				a.Of = uint8(of)
			}
			if a.Kind != 1 || slices.Contains(w.of, uint8(of)) {
				checkRead(t, line+"\r\n", uint8(of), a, len(line)+2, api.OK)
			} else {
				checkBad(t, line+"\r\n", uint8(of))
			}
		}
	}
}

// P15.2: words stand alone, in great letters, with nothing ahead and nothing behind.
func TestOtherWords(t *testing.T) {
	for of := range uint8(13) {
		for _, w := range rows() {
			line := w.word
			for _, wrong := range []string{line + " ", " " + line, line + "  ", line + " 1 ", line + " 1 1", line + "  1", line + "\t1", line + "1", line + "\x00", strings.ToLower(line), line[:1] + strings.ToLower(line[1:]), strings.ToLower(line[:1]) + line[1:], line[:len(line)-1], line[1:], line + line, line + " " + line + " k"} {
				checkBad(t, wrong+"\r\n", of)
			}
			if w.most == "" && w.word != "PUSH" {
				for _, more := range []string{" 0", " 1", " k", " x y"} {
					checkBad(t, line+more+"\r\n", of)
				}
			} else {
				checkBad(t, line+"\r\n", of)
			}
		}
		for _, line := range []string{"", " ", "  ", "0", "1", "OK", "NOT_STORED", "NOT FOUND", "NO", "NONE", "CLIENT_ERROR", "SERVER_ERROR", "ERROR x", "get k", "ping", "VERSION", "DONE", "RES", "WELCOME UNKNOWN", "\x00"} {
			checkBad(t, line+"\r\n", of)
		}
	}
}

// P15.2: the numbers of counts and deletes.
func TestNumbersThatAreRead(t *testing.T) {
	for _, of := range []uint8{6, 7} {
		for _, n := range []uint64{0, 1, 8, 9, 10, 99, 100, 1 << 32, 1 << 63, all - 1, all} {
			checkAnswer(t, done(of, n), "NUMBER "+strconv.FormatUint(n, 10)+"\r\n")
		}
		for _, n := range wrongNumbers("18446744073709551615") {
			checkBad(t, "NUMBER "+n+"\r\n", of)
		}
		checkBad(t, "DELETED 1\r\n", of)
		checkBad(t, "NUMBER\r\n", of)
	}
	for n := range 30 {
		s := "DELETED " + strconv.Itoa(n) + "\r\n"
		if n <= maxKeys {
			checkAnswer(t, done(10, uint64(n)), s)
		} else {
			checkBad(t, s, 10)
		}
	}
	for _, n := range wrongNumbers("8") {
		checkBad(t, "DELETED "+n+"\r\n", 10)
	}
	checkBad(t, "NUMBER 1\r\n", 10)
	checkBad(t, "DELETED\r\n", 10)
}

// P15.2: bytes as they may come, by the model.
func TestManyBytes(t *testing.T) {
	r := rand.New(rand.NewSource(153))
	came := map[api.Errno]int{}
	whole, cut := 0, 0
	for range 20000 {
		s, of := randomBlob(r), uint8(1)
		if r.Intn(2) == 0 {
			of = uint8(r.Intn(13))
		}
		checkModel(t, s, of)
		_, n, e := wantRead(s, of)
		came[e]++
		if e == api.OK && n > 0 {
			whole++
		} else if e == api.OK {
			cut++
		}
	}
	if came[api.ErrBad] < 2000 || whole < 2000 || cut < 1000 {
		t.Error("too few", came, whole, cut)
	}
}
