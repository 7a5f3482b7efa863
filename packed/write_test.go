package packed_test

import (
	"math/rand"
	"slices"
	"strings"
	"testing"

	"cloakroom/api"
	"cloakroom/packed"
)

// P17.1, P17.2: the chapter's examples.
func TestExamples(t *testing.T) {
	checkAnswer(t, api.Answer{Kind: api.AnsPing}, string([]byte{178, 4, 0, 0, 0, 0}))
	checkAnswer(t, result(api.CmdIncr, api.ResDone, 300), string([]byte{178, 1, 0, 0, 0, 5, 6, 1, 172, 2, 0}))
	checkAnswer(t, got(api.Item{Key: "k", Value: "ab", Flags: 7, Unique: 3}), string([]byte{178, 1, 0, 0, 0, 12, 1, 1, 0, 1, 1, 107, 2, 97, 98, 7, 0, 3}))
}

// P17.1, P17.2: rows of the table, byte by byte.
func TestRows(t *testing.T) {
	x := api.Item{Key: "k", Value: "\r", Flags: 1, Until: 2, Unique: 3}
	y := api.Item{Key: "\r\n", Flags: 128, Unique: 300}
	for s, a := range map[string]api.Answer{
		"\xb2\x01\x00\x00\x00\x04\x01\x01\x00\x00":                                                        got(),
		"\xb2\x01\x00\x00\x00\x0a\x01\x01\x00\x01\x01k\x00\x00\x00\x00":                                   got(api.Item{Key: "k"}),
		"\xb2\x01\x00\x00\x00\x0b\x01\x01\x00\x01\x01k\x01\r\x01\x02\x03":                                 got(x),
		"\xb2\x01\x00\x00\x00\x0d\x01\x01\x00\x01\x02\r\n\x00\x80\x01\x00\xac\x02":                        got(y),
		"\xb2\x01\x00\x00\x00\x14\x01\x01\x00\x02\x01k\x01\r\x01\x02\x03\x02\r\n\x00\x80\x01\x00\xac\x02": got(x, y),
		"\xb2\x01\x00\x00\x00\x14\x01\x01\x00\x02\x02\r\n\x00\x80\x01\x00\xac\x02\x01k\x01\r\x01\x02\x03": got(y, x),
		"\xb2\x01\x00\x00\x00\x12\x01\x01\x00\x02\x01k\x01\r\x01\x02\x03\x01k\x01\r\x01\x02\x03":          got(x, x),
		"\xb2\x01\x00\x00\x00\x04\x02\x01\x00\x00":                                                        result(2, 1, 0),
		"\xb2\x01\x00\x00\x00\x04\x06\x01\x00\x00":                                                        result(6, 1, 0),
		"\xb2\x01\x00\x00\x00\x05\x07\x01\x80\x01\x00":                                                    result(7, 1, 128),
		"\xb2\x01\x00\x00\x00\x04\x0a\x01\x08\x00":                                                        result(10, 1, 8),
		"\xb2\x01\x00\x00\x00\x04\x0b\x01\x00\x00":                                                        result(11, 1, 0),
		"\xb2\x01\x00\x00\x00\x04\x01\x02\x00\x00":                                                        result(1, 2, 0),
		"\xb2\x01\x00\x00\x00\x04\x03\x03\x00\x00":                                                        result(3, 3, 0),
		"\xb2\x01\x00\x00\x00\x04\x08\x04\x00\x00":                                                        result(8, 4, 0),
		"\xb2\x01\x00\x00\x00\x04\x02\x05\x00\x00":                                                        result(2, 5, 0),
		"\xb2\x01\x00\x00\x00\x04\x06\x06\x00\x00":                                                        result(6, 6, 0),
		"\xb2\x01\x00\x00\x00\x04\x0b\x07\x00\x00":                                                        result(11, 7, 0),
		"\xb2\x02\x00\x00\x00\x01\x01":                                                                    {Kind: 2, Yes: true},
		"\xb2\x02\x00\x00\x00\x01\x00":                                                                    {Kind: 2},
		"\xb2\x03\x00\x00\x00\x01\x01":                                                                    {Kind: 3, Yes: true},
		"\xb2\x03\x00\x00\x00\x01\x00":                                                                    {Kind: 3},
		"\xb2\x04\x00\x00\x00\x00":                                                                        {Kind: 4},
		"\xb2\x05\x00\x00\x00\x00":                                                                        {Kind: 5},
		"\xb2\x06\x00\x00\x00\x00":                                                                        {Kind: 6},
		"\xb2\x07\x00\x00\x00\x01k":                                                                       push("k"),
		"\xb2\x07\x00\x00\x00\x05\x00\r\n\xb2\xff":                                                        push("\x00\r\n\xb2\xff"),
	} {
		checkAnswer(t, a, s)
	}
}

// P17.1, P17.2: every result of every command, and all other answers, with the fewest things and with the most.
func TestEachAnswer(t *testing.T) {
	for _, a := range slices.Concat(each(), rich()) {
		s, e := wantWrite(a)
		if e != api.OK {
			t.Fatalf("the model refuses %s: error %d", short(a), e)
		}
		checkAnswer(t, a, s)
	}
}

// P17.1, P17.2: from no item to as many as may be; two may have the same key.
func TestHowManyItems(t *testing.T) {
	for many := range maxKeys + 1 {
		a := got(someItems(many)...)
		s, _ := wantWrite(a)
		checkAnswer(t, a, s)
		if s[9] != byte(many) {
			t.Fatal("the model is wrong", s)
		}
		a = got(slices.Repeat([]api.Item{{Key: "k"}}, many)...)
		s, _ = wantWrite(a)
		checkAnswer(t, a, s)
	}
	for _, many := range []int{9, 10, 128, 300, 10000} {
		a := got(slices.Repeat([]api.Item{{Key: "k"}}, many)...)
		checkMayNotBe(t, a)
		checkBody(t, 1, "\x01\x01\x00"+small(uint64(many))+strings.Repeat("\x01k\x00\x00\x00\x00", min(many, 600)))
	}
	for _, empty := range [][]api.Item{nil, {}} {
		checkWrite(t, got(empty...), "\xb2\x01\x00\x00\x00\x04\x01\x01\x00\x00", api.OK)
		a := api.Answer{Kind: 4}
		a.Result.Items = empty
		checkWrite(t, a, "\xb2\x04\x00\x00\x00\x00", api.OK)
	}
}

// P17.1, P17.2: keys and values of any bytes, and of any length up to the longest.
func TestKeysAndValues(t *testing.T) {
	for c := range 256 {
		for _, s := range []string{string([]byte{byte(c)}), string([]byte{'a', byte(c)}), string([]byte{byte(c), 'a'}), strings.Repeat(string([]byte{byte(c)}), maxKey)} {
			checkAnswer(t, push(s), packet(7, s))
			a := got(api.Item{Key: s, Value: s})
			checkAnswer(t, a, packet(1, "\x01\x01\x00\x01"+word(s)+word(s)+"\x00\x00\x00"))
		}
	}
	for _, many := range []int{0, 1, 2, 126, 127, 128, 129, 255, 256, 257, 511, 512} {
		value := randomBytes(rand.New(rand.NewSource(int64(many))), many)
		checkAnswer(t, got(api.Item{Key: "k", Value: value}), packet(1, "\x01\x01\x00\x01\x01k"+word(value)+"\x00\x00\x00"))
	}
	for _, many := range []int{0, 33, 34, 127, 128, 255, 256, 288, 512, 4096} {
		key := strings.Repeat("k", many)
		checkMayNotBe(t, push(key))
		checkBody(t, 7, key)
		checkMayNotBe(t, got(api.Item{Key: key}))
		checkMayNotBe(t, got(api.Item{Key: "k"}, api.Item{Key: key}))
	}
	for _, many := range []int{513, 514, 600, 1024, 4000} {
		checkMayNotBe(t, got(api.Item{Key: "k", Value: strings.Repeat("v", many)}))
		checkMayNotBe(t, got(api.Item{Key: "k"}, api.Item{Key: "l", Value: strings.Repeat("v", many)}))
	}
}

// numbers are some at whose edges one more byte is needed.
func numbers() []uint64 {
	l := []uint64{0, 1, 9, 10, 300}
	for bits := 7; bits < 64; bits += 7 {
		l = append(l, 1<<bits-1, 1<<bits, 1<<bits+1)
	}
	return append(l, maxFlags-1, maxFlags, maxFlags+1, maxClock-1, maxClock, maxClock+1, 1<<63-1, 1<<63, all-1, all)
}

// P17.1, P17.2: numbers, flags, moments and uniques of one byte, and of as many as may be.
func TestNumbers(t *testing.T) {
	for _, n := range numbers() {
		for of := uint8(6); of <= 7; of++ {
			checkAnswer(t, result(of, 1, n), packet(1, string([]byte{of, 1})+small(n)+"\x00"))
		}
		checkAnswer(t, got(api.Item{Key: "k", Unique: n}), packet(1, "\x01\x01\x00\x01\x01k\x00\x00\x00"+small(n)))
		flags := "\x01\x01\x00\x01\x01k\x00" + small(n) + "\x00\x00"
		until := "\x01\x01\x00\x01\x01k\x00\x00" + small(n) + "\x00"
		if n <= maxFlags {
			checkAnswer(t, got(api.Item{Key: "k", Flags: uint32(n)}), packet(1, flags))
		} else {
			checkBody(t, 1, flags)
		}
		if n <= maxClock {
			checkAnswer(t, got(api.Item{Key: "k", Until: int(n)}), packet(1, until))
		} else {
			checkBody(t, 1, until)
			checkMayNotBe(t, got(api.Item{Key: "k", Until: int(n)}))
		}
		if n <= maxKeys {
			checkAnswer(t, result(10, 1, n), packet(1, "\x0a\x01"+small(n)+"\x00"))
		} else {
			checkMayNotBe(t, result(10, 1, n))
		}
	}
	for n := range uint64(20) {
		if n > 8 {
			checkMayNotBe(t, result(10, 1, n))
			continue
		}
		checkAnswer(t, result(10, 1, n), packet(1, "\x0a\x01"+small(n)+"\x00"))
	}
	for _, until := range []int{-1, least, least + 1, maxClock + 1, top} {
		checkMayNotBe(t, got(api.Item{Key: "k", Until: until}))
		checkMayNotBe(t, got(api.Item{Key: "k"}, api.Item{Key: "l"}, api.Item{Key: "m", Until: until}))
	}
}

// P17.1: of all kinds there are, each command's and each result's.
func TestKinds(t *testing.T) {
	for c := range 256 {
		k := uint8(c)
		if k < 1 || k > 7 {
			checkMayNotBe(t, api.Answer{Kind: k})
			checkMayNotBe(t, api.Answer{Kind: k, Of: 2, Result: api.Result{Kind: 1}})
			checkMayNotBe(t, api.Answer{Kind: k, Key: "k"})
			checkMayNotBe(t, api.Answer{Kind: k, Yes: true})
		}
		for d := range 256 {
			checkWritten(t, result(k, uint8(d), 0))
		}
		if k < 1 || k > 11 {
			checkMayNotBe(t, result(k, 1, 0))
			checkMayNotBe(t, result(k, 7, 0))
		}
		if k < 1 || k > 7 {
			checkMayNotBe(t, result(1, k, 0))
			checkMayNotBe(t, result(11, k, 0))
		}
	}
}

// P17.1: every field that is not zero beside each kind that does not name it.
func TestFieldsOfOthers(t *testing.T) {
	x := api.Item{Key: "k"}
	for _, was := range each() {
		for _, more := range []api.Answer{
			{Of: 1}, {Of: 255}, {Yes: true}, {Key: "k"}, {Key: strings.Repeat("k", 33)},
			{Result: api.Result{Kind: 1}}, {Result: api.Result{Kind: 255}}, {Result: api.Result{Number: 1}}, {Result: api.Result{Number: all}},
			{Result: api.Result{Items: []api.Item{x}}}, {Result: api.Result{Items: []api.Item{{}}}}, {Result: api.Result{Items: someItems(9)}},
		} {
			a := was
			a.Of |= more.Of
			a.Yes = a.Yes || more.Yes
			a.Key += more.Key
			a.Result.Kind |= more.Result.Kind
			a.Result.Number += more.Result.Number
			a.Result.Items = more.Result.Items
			checkWritten(t, a)
			if wantCheck(a) != api.OK {
				checkMayNotBe(t, a)
			}
		}
	}
	for kind := uint8(2); kind <= 7; kind++ {
		key := strings.Repeat("k", int(kind/7))
		checkWrite(t, api.Answer{Kind: kind, Key: key}, packet(kind, bodyOf(api.Answer{Kind: kind, Key: key})), api.OK)
		checkMayNotBe(t, api.Answer{Kind: kind, Key: key, Of: 1})
		checkMayNotBe(t, api.Answer{Kind: kind, Key: key, Result: api.Result{Kind: 1}})
		checkMayNotBe(t, api.Answer{Kind: kind, Key: key, Result: api.Result{Number: 1}})
		checkMayNotBe(t, api.Answer{Kind: kind, Key: key, Result: api.Result{Items: []api.Item{x}}})
		if kind > 3 {
			checkMayNotBe(t, api.Answer{Kind: kind, Key: key, Yes: true})
		}
		if kind < 7 {
			checkMayNotBe(t, api.Answer{Kind: kind, Key: "k"})
		}
	}
	for of := uint8(1); of <= 11; of++ {
		for kind := uint8(1); kind <= 7; kind++ {
			if of != 1 || kind != 1 {
				checkMayNotBe(t, result(of, kind, 0, x))
			}
			if kind != 1 || of != 6 && of != 7 && of != 10 {
				checkMayNotBe(t, result(of, kind, 1))
			}
			a := result(of, kind, 0)
			a.Yes = true
			checkMayNotBe(t, a)
			a.Yes, a.Key = false, "k"
			checkMayNotBe(t, a)
		}
	}
}

// longer are answers to gets of eight items, of which one thing is a byte longer than before, each in another way.
func longer(a api.Answer) []api.Answer {
	change := func(f func(x *api.Item)) api.Answer {
		b := copied(a)
		f(&b.Result.Items[7])
		return b
	}
	return []api.Answer{
		change(func(x *api.Item) { x.Value += "v" }),
		change(func(x *api.Item) { x.Key += "k" }),
		change(func(x *api.Item) { x.Flags = 128 }),
		change(func(x *api.Item) { x.Until = 128 }),
		change(func(x *api.Item) { x.Unique = 128 }),
	}
}

// P17.1: a body of 4096 bytes is written, and one of 4097 is ErrText, whatever makes it so long.
func TestLongestBodies(t *testing.T) {
	for many := 4000; many <= 4096; many++ {
		a := eight(many)
		if n := len(bodyOf(a)); n != many {
			t.Fatalf("a body of %d bytes, want %d", n, many)
		}
		checkWrite(t, a, packet(1, bodyOf(a)), api.OK)
		checkRead(t, packet(1, bodyOf(a))+"x", a, 6+many, api.OK)
	}
	for _, a := range longer(eight(4095)) {
		s := packet(1, bodyOf(a))
		if len(s) != 6+4096 || s[4:6] != "\x10\x00" {
			t.Fatal("the model is wrong", len(s))
		}
		checkWrite(t, a, s, api.OK)
		checkRead(t, s, a, 4102, api.OK)
	}
	for _, a := range longer(eight(4096)) {
		if len(bodyOf(a)) != 4097 {
			t.Fatal("the model is wrong")
		}
		checkWrite(t, a, "", api.ErrText)
		if b, e := packed.Write(a); len(b) != 0 || e != api.ErrText {
			t.Fatal(b, e)
		}
	}
	for many := 4097; many <= 4156; many++ {
		checkWrite(t, eight(many), "", api.ErrText)
	}
	checkWrite(t, got(slices.Repeat([]api.Item{richItem()}, 8)...), "", api.ErrText)
	a := got(slices.Repeat([]api.Item{richItem()}, 7)...)
	checkWrite(t, a, packet(1, bodyOf(a)), api.OK)
	a.Result.Items = append(a.Result.Items, api.Item{Key: strings.Repeat("k", maxKey), Value: strings.Repeat("v", 70)})
	checkWrite(t, a, packet(1, bodyOf(a)), api.OK)
}

// P17.1: that an answer may not be counts ahead of its body's length.
func TestWhichCounts(t *testing.T) {
	long := slices.Repeat([]api.Item{richItem()}, 8)
	for i := range 8 {
		for _, x := range []api.Item{{}, {Key: strings.Repeat("k", 33)}, {Key: "k", Value: strings.Repeat("v", 513)}, {Key: "k", Until: -1}, {Key: "k", Until: maxClock + 1}} {
			a := got(slices.Clone(long)...)
			checkWrite(t, a, "", api.ErrText)
			a.Result.Items[i] = x
			checkWrite(t, a, "", api.ErrBad)
		}
	}
	checkWrite(t, got(slices.Repeat([]api.Item{richItem()}, 9)...), "", api.ErrBad)
	for of := uint8(0); of <= 12; of++ {
		for kind := uint8(0); kind <= 8; kind++ {
			if of != 1 || kind != 1 {
				checkWrite(t, result(of, kind, 0, long...), "", api.ErrBad)
			}
		}
	}
	a := got(long...)
	a.Yes = true
	checkWrite(t, a, "", api.ErrBad)
	a.Yes, a.Key = false, "k"
	checkWrite(t, a, "", api.ErrBad)
	a.Key, a.Result.Number = "", 1
	checkWrite(t, a, "", api.ErrBad)
	checkWrite(t, push(strings.Repeat("k", 4097)), "", api.ErrBad)
	checkWrite(t, push(strings.Repeat("k", 1<<20)), "", api.ErrBad)
	checkWrite(t, got(api.Item{Key: "k", Value: strings.Repeat("v", 1<<20)}), "", api.ErrBad)
	for kind := range 9 {
		a := got(long...)
		a.Kind = uint8(kind)
		checkWritten(t, a)
	}
}

// P17.1: answers of all sorts, some of which may not be.
func TestManyAnswers(t *testing.T) {
	r := rand.New(rand.NewSource(171))
	told := map[api.Errno]int{}
	for range 30000 {
		a := randomAnswer(r)
		for range r.Intn(3) {
			a = spoilt(r, a)
		}
		checkWritten(t, a)
		_, e := wantWrite(a)
		told[e]++
		if wantCheck(a) != api.OK {
			checkMayNotBe(t, a)
		}
	}
	if told[api.OK] < 5000 || told[api.ErrBad] < 5000 {
		t.Error("too few", told)
	}
}
