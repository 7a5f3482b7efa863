package words_test

import (
	"fmt"
	"math/big"
	"math/rand"
	"reflect"
	"regexp"
	"slices"
	"strings"
	"testing"

	"cloakroom/api"
	"cloakroom/words"
)

const (
	least = -1 << 63
	top   = 1<<63 - 1
	all   = 1<<64 - 1
)

// The limits, written out, so that the program's own numbers are held against them.
const (
	maxKey   = 32
	maxValue = 512
	maxKeys  = 8
	maxLine  = 512
	maxText  = 16384
	maxFlags = 4294967295
	maxClock = 1099511627776
)

// row is a line of the document's table: its first word, the answer that it tells, of which kinds of commands; and the most that the number behind it may be (empty: there is none).
type row struct {
	word string
	is   api.Answer
	of   []uint8
	most string
}

// everyOf are the kinds of commands.
func everyOf() []uint8 { return []uint8{1, 2, 3, 4, 5, 6, 7, 8, 9, 10, 11} }

// result is an answer to a command, without the command's kind.
func result(kind uint8) api.Answer {
	return api.Answer{Kind: 1, Result: api.Result{Kind: kind}}
}

// rows are all that end an answer. Those that are no results are of no command.
func rows() []row {
	none := []uint8{0}
	return []row{
		{"END", result(1), []uint8{1}, ""},
		{"STORED", result(1), []uint8{2, 3, 4, 5, 8}, ""},
		{"NUMBER", result(1), []uint8{6, 7}, "18446744073709551615"},
		{"TOUCHED", result(1), []uint8{9}, ""},
		{"FLUSHED", result(1), []uint8{11}, ""},
		{"DELETED", result(1), []uint8{10}, "8"},
		{"NOT_FOUND", result(2), everyOf(), ""},
		{"EXISTS", result(3), everyOf(), ""},
		{"TOO_LARGE", result(4), everyOf(), ""},
		{"NO_MEMORY", result(5), everyOf(), ""},
		{"NOT_NUMBER", result(6), everyOf(), ""},
		{"DENIED", result(7), everyOf(), ""},
		{"WELCOME", api.Answer{Kind: 2, Yes: true}, none, ""},
		{"UNKNOWN", api.Answer{Kind: 2}, none, ""},
		{"TRACKED", api.Answer{Kind: 3, Yes: true}, none, ""},
		{"UNTRACKED", api.Answer{Kind: 3}, none, ""},
		{"PONG", api.Answer{Kind: 4}, none, ""},
		{"BYE", api.Answer{Kind: 5}, none, ""},
		{"ERROR", api.Answer{Kind: 6}, none, ""},
		{"PUSH", api.Answer{Kind: 7}, none, ""},
	}
}

// The forms of lines that have more than one word: what they let through has the right words, but for numbers that are too great.
var (
	itemShape   = regexp.MustCompile(`\AVALUE ([!-~]{1,32}) (0|[1-9][0-9]{0,9}) (0|[1-9][0-9]{0,12}) (0|[1-9][0-9]{0,19}) (0|[1-9][0-9]{0,2})\z`)
	pushShape   = regexp.MustCompile(`\APUSH ([!-~]{1,32})\z`)
	numberShape = regexp.MustCompile(`\A([A-Z]+) (0|[1-9][0-9]{0,19})\z`)
	keyShape    = regexp.MustCompile(`\A[!-~]{1,32}\z`)
)

// great is a number of any length, and whether it is at most another one.
func great(s, most string) (uint64, bool) {
	n, _ := new(big.Int).SetString(s, 10)
	m, _ := new(big.Int).SetString(most, 10)
	return n.Uint64(), n.Cmp(m) <= 0
}

// wantItem is the item of a line, without its value, and how many bytes that has.
func wantItem(line string) (api.Item, int, bool) {
	found := itemShape.FindStringSubmatch(line)
	if found == nil {
		return api.Item{}, 0, false
	}
	var n [4]uint64
	for i, most := range []string{"4294967295", "1099511627776", "18446744073709551615", "512"} {
		var is bool
		if n[i], is = great(found[i+2], most); !is {
			return api.Item{}, 0, false
		}
	}
	return api.Item{Key: found[1], Flags: uint32(n[0]), Until: int(n[1]), Unique: n[2]}, int(n[3]), true
}

// wantLine is the answer that a line ends.
func wantLine(line string, of uint8) (api.Answer, bool) {
	if found := pushShape.FindStringSubmatch(line); found != nil {
		return api.Answer{Kind: 7, Key: found[1]}, true
	}
	for _, w := range rows() {
		a := w.is
		if a.Kind == 7 || a.Kind == 1 && !slices.Contains(w.of, of) {
			continue
		}
		if a.Kind == 1 {
			a.Of = of
		}
		if w.most == "" && line == w.word {
			return a, true
		}
		if found := numberShape.FindStringSubmatch(line); w.most != "" && found != nil && found[1] == w.word {
			var is bool
			a.Result.Number, is = great(found[2], w.most)
			return a, is
		}
	}
	return api.Answer{}, false
}

// wantRead is what Read is to tell: the bytes that are left are cut off line by line.
func wantRead(s string, of uint8) (api.Answer, int, api.Errno) {
	if len(s) > 16384 {
		return api.Answer{}, 0, api.ErrText
	}
	var items []api.Item
	left := s
	for {
		line, behind, is := strings.Cut(left, "\r\n")
		switch {
		case (!is || len(line) > 512) && len(left) < 514:
			return api.Answer{}, 0, api.OK
		case !is || len(line) > 512:
			return api.Answer{}, 0, api.ErrBad
		}
		if x, many, is := wantItem(line); is && of == 1 && len(items) < 8 {
			if len(behind) < many+2 {
				return api.Answer{}, 0, api.OK
			}
			if behind[many] != 13 || behind[many+1] != 10 {
				return api.Answer{}, 0, api.ErrBad
			}
			x.Value = behind[:many]
			items, left = append(items, x), behind[many+2:]
			continue
		}
		a, is := wantLine(line, of)
		if !is || items != nil && line != "END" {
			return api.Answer{}, 0, api.ErrBad
		}
		a.Result.Items = items
		return a, len(s) - len(behind), api.OK
	}
}

// rowOf is the row that an answer fills, but for its items, number and key: where none is, it may not be.
func rowOf(a api.Answer) (row, bool) {
	bare := api.Answer{Kind: a.Kind, Yes: a.Yes, Result: api.Result{Kind: a.Result.Kind}}
	for _, w := range rows() {
		if reflect.DeepEqual(w.is, bare) && slices.Contains(w.of, a.Of) {
			return w, true
		}
	}
	return row{}, false
}

// wantCheck is what Check is to tell.
func wantCheck(a api.Answer) api.Errno {
	w, is := rowOf(a)
	if !is || len(a.Result.Items) > 8 || len(a.Result.Items) > 0 && w.word != "END" {
		return api.ErrBad
	}
	for _, x := range a.Result.Items {
		if len(x.Key) < 1 || len(x.Key) > 32 || len(x.Value) > 512 || x.Until < 0 || x.Until > 1099511627776 {
			return api.ErrBad
		}
	}
	most := w.most
	if most == "" {
		most = "0"
	}
	if _, is := great(fmt.Sprint(a.Result.Number), most); !is {
		return api.ErrBad
	}
	if w.word == "PUSH" != (a.Key != "") || len(a.Key) > 32 {
		return api.ErrBad
	}
	return api.OK
}

// wantWrite is what Write is to tell.
func wantWrite(a api.Answer) (string, api.Errno) {
	if wantCheck(a) != api.OK || a.Key != "" && !keyShape.MatchString(a.Key) {
		return "", api.ErrBad
	}
	s := ""
	for _, x := range a.Result.Items {
		if !keyShape.MatchString(x.Key) {
			return "", api.ErrBad
		}
		s += fmt.Sprintf("VALUE %s %d %d %d %d\r\n%s\r\n", x.Key, x.Flags, x.Until, x.Unique, len(x.Value), x.Value)
	}
	w, _ := rowOf(a)
	s += w.word
	if w.most != "" {
		s += fmt.Sprintf(" %d", a.Result.Number)
	}
	if w.word == "PUSH" {
		s += " " + a.Key
	}
	return s + "\r\n", api.OK
}

// got is the answer to a get with these items; done that to a command with this number.
func got(items ...api.Item) api.Answer {
	return api.Answer{Kind: api.AnsResult, Of: api.CmdGet, Result: api.Result{Kind: api.ResDone, Items: items}}
}

func done(of uint8, number uint64) api.Answer {
	return api.Answer{Kind: api.AnsResult, Of: of, Result: api.Result{Kind: api.ResDone, Number: number}}
}

// plain is the answer of a row, to one of its commands, that has the fewest things.
func plain(w row, of uint8) api.Answer {
	a := w.is
	a.Of = of
	if w.word == "PUSH" {
		a.Key = "k"
	}
	return a
}

// each is every answer that has the fewest things: of each row, to each of its commands.
func each() []api.Answer {
	var l []api.Answer
	for _, w := range rows() {
		for _, of := range w.of {
			l = append(l, plain(w, of))
		}
	}
	return l
}

// richItem is one that has as much as it may have.
func richItem() api.Item {
	return api.Item{Key: strings.Repeat("~", maxKey), Value: strings.Repeat("\r\n\x00\xff", maxValue/4), Flags: maxFlags, Until: maxClock, Unique: all}
}

// someItems are so many, each with a key of its own.
func someItems(many int) []api.Item {
	var l []api.Item
	for i := range many {
		l = append(l, api.Item{Key: fmt.Sprint("k", i), Value: strings.Repeat("v", i), Flags: uint32(i), Until: i * 2, Unique: uint64(i) * 3})
	}
	return l
}

// randomBytes is a text of any bytes, of some more often.
func randomBytes(r *rand.Rand, many int) string {
	b := make([]byte, many)
	for i := range b {
		b[i] = byte(r.Intn(256))
		if r.Intn(3) == 0 {
			b[i] = "\r\n 0"[r.Intn(4)]
		}
	}
	return string(b)
}

// randomValue is one in which lines stand, or any bytes.
func randomValue(r *rand.Rand) string {
	if r.Intn(4) == 0 {
		return strings.Repeat(randomLine(r)+"\r\n", 20)[:r.Intn(60)]
	}
	return randomBytes(r, r.Intn(maxValue+1)>>r.Intn(10))
}

// randomKey is one that may stand in a line, most of them short.
func randomKey(r *rand.Rand) string {
	b := make([]byte, 1+r.Intn([]int{1, 2, maxKey}[r.Intn(3)]))
	for i := range b {
		b[i] = byte(33 + r.Intn(94))
	}
	return string(b)
}

func randomItem(r *rand.Rand) api.Item {
	return api.Item{Key: randomKey(r), Value: randomValue(r), Flags: r.Uint32() >> r.Intn(32), Until: int(r.Uint64() >> r.Intn(64) % (maxClock + 1)), Unique: r.Uint64() >> r.Intn(64)}
}

// randomAnswer has lines; every second one is that of a get.
func randomAnswer(r *rand.Rand) api.Answer {
	if r.Intn(2) == 0 {
		a := got()
		for range r.Intn(maxKeys + 1) {
			a.Result.Items = append(a.Result.Items, randomItem(r))
		}
		return a
	}
	w := rows()[r.Intn(len(rows()))]
	a := plain(w, w.of[r.Intn(len(w.of))])
	switch w.word {
	case "NUMBER":
		a.Result.Number = r.Uint64() >> r.Intn(64)
	case "DELETED":
		a.Result.Number = uint64(r.Intn(maxKeys + 1))
	case "PUSH":
		a.Key = randomKey(r)
	}
	return a
}

// spoilt is an answer of which one thing is another one: some may be nevertheless.
func spoilt(r *rand.Rand, a api.Answer) api.Answer {
	a = copied(a)
	switch r.Intn(9) {
	case 0:
		a.Kind = uint8(r.Intn(9))
	case 1:
		a.Of = uint8(r.Intn(13))
	case 2:
		a.Result.Kind = uint8(r.Intn(9))
	case 3:
		a.Result.Number = []uint64{0, 1, 8, 9, all}[r.Intn(5)]
	case 4:
		a.Result.Items = append(a.Result.Items, randomItem(r))
	case 5:
		a.Yes = !a.Yes
	case 6:
		a.Key = []string{"", "k", "a b", strings.Repeat("k", maxKey+1)}[r.Intn(4)]
	default:
		if l := a.Result.Items; len(l) > 0 {
			x := &l[r.Intn(len(l))]
			x.Key = []string{x.Key, "", "a b", "\x7f", strings.Repeat("k", maxKey), strings.Repeat("k", maxKey+1)}[r.Intn(6)]
			x.Until = []int{0, maxClock, maxClock + 1, -1, least, top}[r.Intn(6)]
			x.Value = strings.Repeat("v", []int{0, maxValue, maxValue + 1}[r.Intn(3)])
		}
	}
	return a
}

// randomLine is one of the table's, or nearly so.
func randomLine(r *rand.Rand) string {
	number := []string{"", "0", "1", "2", "8", "9", "01", "512", "513", "4294967295", "4294967296", "1099511627776", "1099511627777", "18446744073709551615", "18446744073709551616", "-1", "+1", "x"}
	any := func() string {
		if r.Intn(2) == 0 {
			return number[1+r.Intn(2)]
		}
		return number[r.Intn(len(number))]
	}
	switch r.Intn(8) {
	case 0, 1, 2:
		return "VALUE " + randomKey(r) + " " + any() + " " + any() + " " + any() + " " + any()
	case 3:
		return []string{"NUMBER ", "DELETED ", "PUSH "}[r.Intn(3)] + any()
	case 4:
		return "END"
	}
	line := rows()[r.Intn(len(rows()))].word
	if r.Intn(4) == 0 {
		line += " " + any()
	}
	return line
}

// randomBlob is bytes as they may come: lines of answers, whole ones or not, with something turned about in them, and something behind.
func randomBlob(r *rand.Rand) string {
	s := ""
	for range 1 + r.Intn(3) {
		if r.Intn(2) == 0 {
			s += randomLine(r) + "\r\n"
			continue
		}
		lines, _ := wantWrite(randomAnswer(r))
		s += lines
	}
	b := []byte(s)
	for range r.Intn(3) {
		b[r.Intn(len(b))] = "\r\n 0VE\x7f"[r.Intn(7)]
	}
	return string(b[:len(b)-r.Intn(len(b))*(r.Intn(3)/2)])
}

// copied is an answer as new memory.
func copied(a api.Answer) api.Answer {
	a.Result.Items = slices.Clone(a.Result.Items)
	return a
}

// same tells whether two answers are the same: a list without elements may be nil or not.
func same(a, b api.Answer) bool {
	items := slices.Equal(a.Result.Items, b.Result.Items)
	a.Result.Items, b.Result.Items = nil, nil
	return items && reflect.DeepEqual(a, b)
}

// short is something as a text, cut where it is long.
func short(x any) string {
	s := fmt.Sprintf("%+q", x)
	if _, is := x.(string); !is {
		s = fmt.Sprintf("%+v", x)
	}
	if len(s) > 300 {
		return fmt.Sprintf("%s .. %s (%d)", s[:200], s[len(s)-60:], len(s))
	}
	return s
}

// checkRead ends the test unless Read tells this.
func checkRead(t *testing.T, s string, of uint8, want api.Answer, many int, err api.Errno) {
	t.Helper()
	if a, n, e := words.Read([]byte(s), of); !same(a, want) || n != many || e != err {
		t.Fatalf("Read(%s, %d): %s, %d, error %d, want %s, %d, error %d", short(s), of, short(a), n, e, short(want), many, err)
	}
}

// checkBad, checkNotWhole and checkModel end the test unless Read tells that the bytes are none, that the answer is not there whole, or what the model tells.
func checkBad(t *testing.T, s string, of uint8) {
	t.Helper()
	checkRead(t, s, of, api.Answer{}, 0, api.ErrBad)
}

func checkNotWhole(t *testing.T, s string, of uint8) {
	t.Helper()
	checkRead(t, s, of, api.Answer{}, 0, api.OK)
}

func checkModel(t *testing.T, s string, of uint8) {
	t.Helper()
	a, n, e := wantRead(s, of)
	checkRead(t, s, of, a, n, e)
}

// checkWrite ends the test unless Check and Write tell this: that an answer may be, and its lines (empty: it has none).
func checkWrite(t *testing.T, a api.Answer, mayBe api.Errno, lines string) {
	t.Helper()
	if e := words.Check(a); e != mayBe {
		t.Fatalf("Check(%s): error %d, want %d", short(a), e, mayBe)
	}
	err := api.OK
	if lines == "" {
		err = api.ErrBad
	}
	if b, e := words.Write(a); string(b) != lines || e != err {
		t.Fatalf("Write(%s): %s, error %d, want %s, error %d", short(a), short(string(b)), e, short(lines), err)
	}
}

// checkMayNotBe and checkWritten end the test unless an answer may not be, or unless what is told of it is what the model tells.
func checkMayNotBe(t *testing.T, a api.Answer) {
	t.Helper()
	checkWrite(t, a, api.ErrBad, "")
}

func checkWritten(t *testing.T, a api.Answer) {
	t.Helper()
	s, _ := wantWrite(a)
	checkWrite(t, a, wantCheck(a), s)
}

// checkAnswer ends the test unless an answer has these lines, is read of them, and is not there whole in any beginning of them.
func checkAnswer(t *testing.T, a api.Answer, s string) {
	t.Helper()
	checkWrite(t, a, api.OK, s)
	for _, behind := range []string{"", "\r", "\n", "\r\n", "x", " ", "END\r\n", s} {
		checkRead(t, s+behind, a.Of, a, len(s), api.OK)
	}
	for i := range s {
		checkNotWhole(t, s[:i], a.Of)
	}
}
