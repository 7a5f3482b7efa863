package words_test

import (
	"math/rand"
	"slices"
	"strings"
	"testing"

	"cloakroom/api"
	"cloakroom/words"
)

// P15.1, P15.2: the chapter's examples.
func TestExamples(t *testing.T) {
	checkAnswer(t, got(api.Item{Key: "k", Flags: 7, Until: 0, Unique: 3, Value: "ab"}), "VALUE k 7 0 3 2\r\nab\r\nEND\r\n")
	checkRead(t, "DELETED 2\r\n", api.CmdDelete, done(api.CmdDelete, 2), 11, api.OK)
	checkBad(t, "DELETED 2\r\n", api.CmdSet)
	for of := range 256 {
		checkBad(t, "NUMBER 01\r\n", uint8(of))
		checkBad(t, "VALUE k 7 0 3\r\n", uint8(of))
		checkNotWhole(t, "STORE", uint8(of))
	}
}

// P15.1, P15.2: every row of the table, written and read, as the document has it.
func TestEveryRow(t *testing.T) {
	checkAnswer(t, got(), "END\r\n")
	for _, of := range []uint8{api.CmdSet, api.CmdAdd, api.CmdReplace, api.CmdCas, api.CmdAppend} {
		checkAnswer(t, done(of, 0), "STORED\r\n")
	}
	for _, of := range []uint8{api.CmdIncr, api.CmdDecr} {
		checkAnswer(t, done(of, 0), "NUMBER 0\r\n")
		checkAnswer(t, done(of, 10), "NUMBER 10\r\n")
		checkAnswer(t, done(of, all), "NUMBER 18446744073709551615\r\n")
	}
	checkAnswer(t, done(api.CmdTouch, 0), "TOUCHED\r\n")
	checkAnswer(t, done(api.CmdFlush, 0), "FLUSHED\r\n")
	checkAnswer(t, done(api.CmdDelete, 0), "DELETED 0\r\n")
	checkAnswer(t, done(api.CmdDelete, 8), "DELETED 8\r\n")
	for kind, line := range map[uint8]string{api.ResNone: "NOT_FOUND\r\n", api.ResThere: "EXISTS\r\n", api.ResLarge: "TOO_LARGE\r\n", api.ResMemory: "NO_MEMORY\r\n", api.ResNumber: "NOT_NUMBER\r\n", api.ResRefused: "DENIED\r\n"} {
		for of := api.CmdGet; of <= api.CmdFlush; of++ {
			checkAnswer(t, api.Answer{Kind: api.AnsResult, Of: of, Result: api.Result{Kind: kind}}, line)
		}
	}
	checkAnswer(t, api.Answer{Kind: api.AnsLogin, Yes: true}, "WELCOME\r\n")
	checkAnswer(t, api.Answer{Kind: api.AnsLogin}, "UNKNOWN\r\n")
	checkAnswer(t, api.Answer{Kind: api.AnsTrack, Yes: true}, "TRACKED\r\n")
	checkAnswer(t, api.Answer{Kind: api.AnsTrack}, "UNTRACKED\r\n")
	checkAnswer(t, api.Answer{Kind: api.AnsPing}, "PONG\r\n")
	checkAnswer(t, api.Answer{Kind: api.AnsBye}, "BYE\r\n")
	checkAnswer(t, api.Answer{Kind: api.AnsBad}, "ERROR\r\n")
	checkAnswer(t, api.Answer{Kind: api.AnsPush, Key: "k"}, "PUSH k\r\n")
}

// P15.1, P15.2: gets of up to eight items, in their order; two may be the same.
func TestItems(t *testing.T) {
	for n := range maxKeys + 1 {
		a := got(someItems(n)...)
		s, _ := wantWrite(a)
		checkAnswer(t, a, s)
		slices.Reverse(a.Result.Items)
		s, _ = wantWrite(a)
		checkAnswer(t, a, s)
		rich := got(slices.Repeat([]api.Item{richItem()}, n)...)
		s, _ = wantWrite(rich)
		if len(s) != n*604+5 {
			t.Fatal(len(s))
		}
		checkAnswer(t, rich, s)
	}
	checkAnswer(t, got(api.Item{Key: "a", Unique: 1}, api.Item{Key: "b", Value: "x", Until: maxClock}), "VALUE a 0 0 1 0\r\n\r\nVALUE b 0 1099511627776 0 1\r\nx\r\nEND\r\n")
}

// P15.1, P15.2: values have any bytes, and whole lines among them.
func TestValues(t *testing.T) {
	for _, v := range []string{"", "\r", "\n", "\r\n", "\n\r", "\r\n\r\n", "END\r\n", "\r\nEND\r\n", "VALUE k 0 0 0 0\r\n\r\n", "ERROR\r\nPUSH k", " ", "\x00", "\u00e9", "\xff\xfe"} {
		for _, a := range []api.Answer{got(api.Item{Key: "k", Value: v}), got(api.Item{Key: "k", Value: v}, api.Item{Key: "l", Value: v + v})} {
			s, _ := wantWrite(a)
			checkAnswer(t, a, s)
		}
	}
	for c := range 256 {
		a := got(api.Item{Key: "k", Value: strings.Repeat(string([]byte{byte(c)}), 3)})
		s, _ := wantWrite(a)
		checkAnswer(t, a, s)
	}
	r := rand.New(rand.NewSource(150))
	for n := range maxValue + 1 {
		a := got(api.Item{Key: "k", Value: randomBytes(r, n)})
		s, _ := wantWrite(a)
		checkWrite(t, a, api.OK, s)
		checkRead(t, s, 1, a, len(s), api.OK)
	}
	checkMayNotBe(t, got(api.Item{Key: "k", Value: strings.Repeat("v", maxValue+1)}))
}

// P15.1: the Kinds of answers.
func TestKinds(t *testing.T) {
	for kind := range 256 {
		a := api.Answer{Kind: uint8(kind)}
		if kind < 2 || kind > 6 {
			checkMayNotBe(t, a)
		}
		checkWritten(t, a)
		for _, x := range each() {
			x.Kind = uint8(kind)
			checkWritten(t, x)
		}
		if kind == 0 || kind > 7 {
			for _, x := range []api.Answer{got(), done(6, 1), {Yes: true}, {Key: "k"}} {
				x.Kind = uint8(kind)
				checkMayNotBe(t, x)
			}
		}
	}
}

// P15.1: of which commands there are results, and which.
func TestOfAndResult(t *testing.T) {
	for of := range 256 {
		for kind := range 256 {
			a := api.Answer{Kind: 1, Of: uint8(of), Result: api.Result{Kind: uint8(kind)}}
			if of < 1 || of > 11 || kind < 1 || kind > 7 {
				checkMayNotBe(t, a)
				continue
			}
			if words.Check(a) != api.OK {
				t.Fatal(of, kind)
			}
			checkWritten(t, a)
		}
	}
}

// P15.1: only a get that is done has items, at most eight.
func TestWhichHaveItems(t *testing.T) {
	for _, a := range each() {
		for _, n := range []int{1, 2, 8, 9, 20} {
			a.Result.Items = someItems(n)
			if a.Kind == 1 && a.Of == 1 && a.Result.Kind == 1 && n <= maxKeys {
				checkWritten(t, a)
				if words.Check(a) != api.OK {
					t.Fatal(n)
				}
			} else {
				checkMayNotBe(t, a)
			}
		}
		a.Result.Items = []api.Item{{}}
		checkMayNotBe(t, a)
		a.Result.Items = []api.Item{}
		checkWritten(t, a)
		if words.Check(a) != api.OK {
			t.Fatal(short(a))
		}
	}
	checkMayNotBe(t, got(make([]api.Item, 1<<20)...))
}

// P15.1: an item that may not be, in each place.
func TestItemsThatMayNotBe(t *testing.T) {
	wrong := []api.Item{
		{}, {Key: "", Value: "v", Unique: 1}, {Key: strings.Repeat("k", 33)}, {Key: strings.Repeat("k", 4000)},
		{Key: "k", Value: strings.Repeat("v", 513)}, {Key: "k", Value: strings.Repeat("v", 5000)},
		{Key: "k", Until: -1}, {Key: "k", Until: least}, {Key: "k", Until: maxClock + 1}, {Key: "k", Until: top},
	}
	for _, x := range wrong {
		for n := 1; n <= maxKeys; n++ {
			for i := range n {
				l := someItems(n)
				l[i] = x
				checkMayNotBe(t, got(l...))
			}
		}
	}
	for _, x := range []api.Item{{Key: "k"}, {Key: strings.Repeat("k", 32)}, {Key: "k", Value: strings.Repeat("v", 512)}, {Key: "k", Until: 1}, {Key: "k", Until: maxClock}, richItem()} {
		s, _ := wantWrite(got(x))
		checkAnswer(t, got(x), s)
	}
}

// P15.1: of which commands and results there is a number, and up to which.
func TestNumbers(t *testing.T) {
	for _, a := range each() {
		for _, n := range []uint64{1, 7, 8, 9, 10, 1 << 32, 1 << 63, all} {
			a.Result.Number = n
			is := a.Kind == 1 && a.Result.Kind == 1 && (a.Of == api.CmdIncr || a.Of == api.CmdDecr || a.Of == api.CmdDelete && n <= 8)
			if !is {
				checkMayNotBe(t, a)
			} else if words.Check(a) != api.OK {
				t.Fatal(a.Of, n)
			}
			checkWritten(t, a)
		}
	}
	for n := range uint64(20) {
		checkWritten(t, done(api.CmdDelete, n))
	}
}

// P15.1: Of and Result are zero in every answer that is no result.
func TestNoResult(t *testing.T) {
	for _, a := range each() {
		if a.Kind == 1 {
			continue
		}
		for of := 1; of < 256; of++ {
			x := a
			x.Of = uint8(of)
			checkMayNotBe(t, x)
			x.Result.Kind = 1
			checkMayNotBe(t, x)
			x.Of, x.Result.Kind = 0, uint8(of)
			checkMayNotBe(t, x)
		}
		for _, r := range []api.Result{{Number: 1}, {Number: all}, {Items: someItems(1)}, {Kind: 1, Number: 1}, {Kind: 1, Items: someItems(2)}} {
			x := a
			x.Result = r
			checkMayNotBe(t, x)
		}
	}
}

// P15.1: which answers say Yes, and which have a key.
func TestYesAndKey(t *testing.T) {
	for _, a := range each() {
		x := a
		x.Yes = true
		if a.Kind == 2 || a.Kind == 3 {
			checkWritten(t, x)
			if words.Check(x) != api.OK {
				t.Fatal(short(x))
			}
		} else {
			checkMayNotBe(t, x)
		}
		for _, n := range []int{0, 1, 2, 31, 32, 33, 34, 500} {
			x = a
			x.Key = strings.Repeat("k", n)
			if a.Kind == 7 && n >= 1 && n <= 32 {
				checkAnswer(t, x, "PUSH "+x.Key+"\r\n")
			} else if a.Kind == 7 || n > 0 {
				checkMayNotBe(t, x)
			}
		}
	}
}

// P15.1: keys with any byte may be; lines have those from 33 to 126 alone.
func TestKeysOfLines(t *testing.T) {
	for c := range 256 {
		b := string([]byte{byte(c)})
		for _, key := range []string{b, b + "k", "k" + b, "k" + b + "k", strings.Repeat("k", 31) + b, b + strings.Repeat("k", 31)} {
			answers := []api.Answer{{Kind: 7, Key: key}, got(api.Item{Key: key}), got(append(someItems(7), api.Item{Key: key})...), got(append([]api.Item{{Key: key}}, someItems(7)...)...)}
			for _, a := range answers {
				if c < 33 || c > 126 {
					checkWrite(t, a, api.OK, "")
					continue
				}
				s, _ := wantWrite(a)
				checkWrite(t, a, api.OK, s)
				checkRead(t, s, a.Of, a, len(s), api.OK)
			}
		}
	}
	for _, key := range []string{"\u00e9", "\r\n", "a\r\nEND", "a b", " a", "a ", "\xff\xff"} {
		checkWrite(t, api.Answer{Kind: 7, Key: key}, api.OK, "")
		checkWrite(t, got(api.Item{Key: key}), api.OK, "")
	}
}

// P15.1: beside an error nothing is answered, whichever of several stand there.
func TestBesideAnError(t *testing.T) {
	for _, a := range []api.Answer{
		{}, {Kind: 7, Key: " "}, {Kind: 7, Key: strings.Repeat(" ", 33)}, {Kind: 7, Key: " ", Yes: true},
		got(api.Item{Key: " "}), got(api.Item{Key: " ", Until: -1}), got(api.Item{Key: "k"}, api.Item{Key: " "}, api.Item{}), got(make([]api.Item, 9)...),
	} {
		if b, e := words.Write(a); len(b) != 0 || e != api.ErrBad {
			t.Fatal(short(a), b, e)
		}
		checkWritten(t, a)
	}
}

// P15.1: answers, and such of which something is another one, by the model.
func TestManyAnswers(t *testing.T) {
	r := rand.New(rand.NewSource(151))
	may, lines := 0, 0
	for range 20000 {
		a := randomAnswer(r)
		checkWritten(t, a)
		for range r.Intn(3) {
			a = spoilt(r, a)
		}
		checkWritten(t, a)
		if wantCheck(a) == api.OK {
			may++
		}
		if s, _ := wantWrite(a); s != "" {
			lines++
		}
	}
	if may < 5000 || may > 18000 || lines == may {
		t.Error("too few", may, lines)
	}
}
