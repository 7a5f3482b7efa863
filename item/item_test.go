package item_test

import (
	"math/rand"
	"strings"
	"testing"
	"unsafe"

	"cloakroom/api"
	"cloakroom/item"
)

// The chapter's examples.
func TestExamples(t *testing.T) {
	if n, e := item.Size(api.Item{Key: "k", Value: "abc"}); n != 12 || e != api.OK {
		t.Error("Size", n, e)
	}
	checkUntil(t, 5, 0, 0, api.OK)
	checkUntil(t, 5, 7, 12, api.OK)
	checkUntil(t, api.MaxClock, 1, 0, api.OK)

	checkNumber(t, "0", 0, true)
	checkNumber(t, "00", 0, false)
	checkNumber(t, "18446744073709551615", 1<<64-1, true)
	checkNumber(t, "18446744073709551616", 0, false)
	checkNumber(t, "", 0, false)

	checkCount(t, "10", 3, false, "13", 13, true)
	checkCount(t, "10", 3, true, "7", 7, true)
	checkCount(t, "10", 11, true, "0", 0, true)
	checkCount(t, "x", 3, false, "", 0, false)
}

// The limits are the document's.
func TestLimits(t *testing.T) {
	if api.MaxKey != maxKey || api.MaxValue != maxValue || api.Over != over || api.MaxClock != maxClock {
		t.Error(api.MaxKey, api.MaxValue, api.Over, api.MaxClock)
	}
}

// P9.1: keys and values of all lengths, up to some that may not be.
func TestCheckOfLengths(t *testing.T) {
	for key := range maxKey + 3 {
		for value := range maxValue + 3 {
			checkItem(t, api.Item{Key: strings.Repeat("k", key), Value: strings.Repeat("v", value)})
		}
	}
}

// P9.1: the edges of lengths, written out.
func TestCheckAtTheEdges(t *testing.T) {
	for _, c := range []struct {
		key, value, until, size int
		want                    api.Errno
	}{
		{1, 0, 0, 9, api.OK},
		{1, 1, 0, 10, api.OK},
		{32, 0, 0, 40, api.OK},
		{1, 512, 0, 521, api.OK},
		{32, 512, 1099511627776, 552, api.OK},
		{32, 216, 0, 256, api.OK},
		{32, 217, 0, 257, api.OK}, // more than a chunk has: an item may be so large, and finds no room
		{0, 0, 0, 0, api.ErrText},
		{0, 512, 0, 0, api.ErrText},
		{33, 0, 0, 0, api.ErrText},
		{33, 512, 0, 0, api.ErrText},
		{1, 513, 0, 0, api.ErrText},
		{32, 513, 0, 0, api.ErrText},
		{0, 513, 0, 0, api.ErrText},
		{1, 0, -1, 0, api.ErrArg},
		{1, 0, 1099511627777, 0, api.ErrArg},
	} {
		x := api.Item{Key: strings.Repeat("k", c.key), Value: strings.Repeat("v", c.value), Until: c.until}
		checkErrno(t, c, item.Check(x), c.want)
		if n, e := item.Size(x); n != c.size || e != c.want {
			t.Fatalf("%v: %d, error %d", c, n, e)
		}
	}
}

// P9.1: lengths far beyond, which would do if they were cut to a byte, or to two.
func TestCheckOfLongTexts(t *testing.T) {
	for _, long := range []int{64, 255, 256, 257, 1 << 16, 1<<16 + 1, 1 << 20, 1<<20 + 1} {
		text := strings.Repeat("x", long)
		checkItem(t, api.Item{Key: text})
		checkItem(t, api.Item{Key: "k", Value: text})
		checkItem(t, api.Item{Key: text, Value: text})
	}
}

// P9.1: bytes are counted, not letters, and any ones may be.
func TestCheckOfAnyBytes(t *testing.T) {
	r := rand.New(rand.NewSource(90))
	for _, text := range []string{"\x00", "\xff", " ", "\n", "é", "€", "\U0001f9e5", "\xe2\x82", "\xed\xa0\x80"} {
		for many := range maxKey + 2 {
			checkItem(t, api.Item{Key: strings.Repeat(text, many)})
		}
		for many := 100; many <= maxValue+2; many++ {
			checkItem(t, api.Item{Key: "k", Value: strings.Repeat(text, many)})
		}
	}
	for range 2000 {
		checkItem(t, api.Item{Key: randomBytes(r, r.Intn(maxKey+3)), Value: randomBytes(r, r.Intn(maxValue+30))})
	}
}

// P9.1: moments in and beside what may be.
func TestCheckOfUntil(t *testing.T) {
	for _, until := range edgeMoments() {
		for _, key := range []int{0, 1, maxKey, maxKey + 1} {
			for _, value := range []int{0, maxValue, maxValue + 1} {
				checkItem(t, api.Item{Key: strings.Repeat("k", key), Value: strings.Repeat("v", value), Until: until})
			}
		}
	}
	for until, want := range map[int]api.Errno{-1: api.ErrArg, 0: api.OK, 1: api.OK, 1 << 40: api.OK, 1<<40 + 1: api.ErrArg} {
		checkErrno(t, until, item.Check(api.Item{Key: "k", Until: until}), want)
	}
}

// P9.1: flags and Unique may be any, and tell nothing of an item's size.
func TestCheckOfAnyFlags(t *testing.T) {
	for _, flags := range []uint32{0, 1, 1 << 31, 1<<32 - 1} {
		for _, unique := range edgeNumbers() {
			checkItem(t, api.Item{Key: "k", Value: "abc", Flags: flags, Unique: unique})
			checkItem(t, api.Item{Flags: flags, Unique: unique})
			checkItem(t, api.Item{Key: "k", Until: -1, Flags: flags, Unique: unique})
		}
	}
	r := rand.New(rand.NewSource(91))
	for range 2000 {
		checkItem(t, randomItem(r))
	}
}

// P9.1: the key's and the value's error stands ahead of that of Until.
func TestCheckTellsTextsFirst(t *testing.T) {
	long := strings.Repeat("x", maxValue+1)
	for _, until := range []int{-1, least, maxClock + 1, top} {
		for _, x := range []api.Item{{}, {Key: long}, {Key: "k", Value: long}, {Value: long}} {
			x.Until = until
			checkErrno(t, x, item.Check(x), api.ErrText)
			if n, e := item.Size(x); n != 0 || e != api.ErrText {
				t.Fatalf("Size(%s): %d, error %d", short(x), n, e)
			}
		}
	}
}

// P9.1: just ahead of Until, at it, and behind it.
func TestDue(t *testing.T) {
	for _, until := range []int{1, 2, 5, 1 << 32, maxClock - 1, maxClock} {
		x := api.Item{Key: "k", Until: until}
		checkDue(t, x, 0, false)
		checkDue(t, x, until-1, false)
		checkDue(t, x, until, true)
		checkDue(t, x, until+1, true)
		checkDue(t, x, maxClock, true)
	}
}

// P9.1: an item that is for good is due by no moment.
func TestDueOfAnItemForGood(t *testing.T) {
	for _, now := range edgeMoments() {
		checkDue(t, api.Item{Key: "k"}, now, false)
		checkDue(t, api.Item{}, now, false)
	}
}

// P9.1: of any item, and of any moment: also of those that may not be.
func TestDueOfAnyItem(t *testing.T) {
	long := strings.Repeat("x", maxValue+1)
	for _, until := range edgeMoments() {
		for _, now := range edgeMoments() {
			due := until != 0 && until <= now
			for _, x := range []api.Item{{}, {Key: "k", Value: "v"}, {Key: long, Value: long}, {Key: "k", Flags: 1<<32 - 1, Unique: all}} {
				x.Until = until
				checkDue(t, x, now, due)
			}
		}
	}
	checkDue(t, api.Item{Until: -1}, -2, false)
	checkDue(t, api.Item{Until: -1}, -1, true)
	checkDue(t, api.Item{Until: -1}, 0, true)
	checkDue(t, api.Item{Until: least}, least, true)
	checkDue(t, api.Item{Until: top}, top-1, false)
}

// P9.2: all small ones.
func TestUntilOfSmallOnes(t *testing.T) {
	for now := -1; now < 100; now++ {
		for many := -1; many < 100; many++ {
			want, wantE := wantUntil(now, many)
			checkUntil(t, now, many, want, wantE)
		}
	}
}

// P9.2: each of them in and beside its bounds, with any other one.
func TestUntilAtTheEdges(t *testing.T) {
	for _, now := range edgeMoments() {
		for _, many := range edgeMoments() {
			want, wantE := wantUntil(now, many)
			checkUntil(t, now, many, want, wantE)
		}
	}
	for _, c := range []struct {
		now, many, want int
		wantE           api.Errno
	}{
		{0, 0, 0, api.OK},
		{0, 1, 1, api.OK},
		{0, 1 << 40, 1 << 40, api.OK},
		{1, 1 << 40, 0, api.OK},
		{1 << 40, 0, 0, api.OK},
		{1 << 40, 1 << 40, 0, api.OK},
		{1<<40 - 1, 1, 1 << 40, api.OK},
		{1<<40 - 1, 2, 0, api.OK},
		{-1, 0, 0, api.ErrArg},
		{-1, 1, 0, api.ErrArg},
		{0, -1, 0, api.ErrArg},
		{2, -1, 0, api.ErrArg},
		{-1, -1, 0, api.ErrArg},
		{1<<40 + 1, 0, 0, api.ErrArg},
		{1<<40 + 1, -1, 0, api.ErrArg},
		{0, 1<<40 + 1, 0, api.ErrArg},
		{-1, 1<<40 + 1, 0, api.ErrArg},
	} {
		checkUntil(t, c.now, c.many, c.want, c.wantE)
	}
}

// P9.2: both together are one less than MaxClock, MaxClock, and one more.
func TestUntilTheEndOfTheClock(t *testing.T) {
	r := rand.New(rand.NewSource(92))
	for range 2000 {
		now := 1 + r.Intn(maxClock-3)
		left := maxClock - now
		checkUntil(t, now, left-1, maxClock-1, api.OK)
		checkUntil(t, now, left, maxClock, api.OK)
		checkUntil(t, now, left+1, 0, api.OK)
	}
}

// P9.4: values of many lengths, up to more than may be.
func TestJoin(t *testing.T) {
	a, b := strings.Repeat("a", maxValue+1), strings.Repeat("b", maxValue+1)
	for i := range maxValue + 2 {
		for _, j := range []int{0, 1, 2, maxValue - i - 1, maxValue - i, maxValue - i + 1, maxValue - 1, maxValue, maxValue + 1} {
			if j >= 0 {
				checkJoin(t, a[:i], b[:j])
			}
		}
	}
}

// P9.4: the edges, written out; beside an error stands no value.
func TestJoinAtTheEdges(t *testing.T) {
	for _, c := range []struct {
		a, b string
		want api.Errno
	}{
		{"", "", api.OK},
		{"", "b", api.OK},
		{"a", "", api.OK},
		{"a", "b", api.OK},
		{strings.Repeat("a", 512), "", api.OK},
		{"", strings.Repeat("b", 512), api.OK},
		{strings.Repeat("a", 511), "b", api.OK},
		{"a", strings.Repeat("b", 511), api.OK},
		{strings.Repeat("a", 256), strings.Repeat("b", 256), api.OK},
		{strings.Repeat("a", 512), "b", api.ErrText},
		{"a", strings.Repeat("b", 512), api.ErrText},
		{strings.Repeat("a", 257), strings.Repeat("b", 256), api.ErrText},
		{strings.Repeat("a", 513), "", api.ErrText},
		{"", strings.Repeat("b", 513), api.ErrText},
		{strings.Repeat("a", 1<<20), strings.Repeat("b", 1<<20), api.ErrText},
	} {
		want := c.a + c.b
		if c.want != api.OK {
			want = ""
		}
		if s, e := item.Join(c.a, c.b); s != want || e != c.want {
			t.Fatalf("%d and %d bytes: %s, error %d", len(c.a), len(c.b), short(s), e)
		}
	}
}

// P9.4: bytes are counted, not letters, and any ones are joined: also those that together are a letter.
func TestJoinOfAnyBytes(t *testing.T) {
	for _, c := range [][2]string{{"\xe2\x82", "\xac"}, {"\xff", "\xfe"}, {"a\x00", "\x00b"}, {"\xe2", "\x82\xac"}, {" ", "\n"}, {strings.Repeat("é", 256), ""}, {strings.Repeat("é", 256), "x"}} {
		checkJoin(t, c[0], c[1])
	}
	r := rand.New(rand.NewSource(93))
	for range 2000 {
		checkJoin(t, randomBytes(r, r.Intn(maxValue/2+30)), randomBytes(r, r.Intn(maxValue/2+30)))
	}
}

// P9.4: what is answered is new memory, also where one of the two is empty: a long text, of which a value is a piece, isn't kept with it.
func TestJoinIsNewMemory(t *testing.T) {
	long := strings.Repeat("long", 100)
	for _, c := range [][2]string{{long, ""}, {"", long}, {long[:1], ""}, {"", long[:1]}, {long[:4], long[4:8]}} {
		s, e := item.Join(c[0], c[1])
		checkErrno(t, c, e, api.OK)
		first, at := uintptr(unsafe.Pointer(unsafe.StringData(long))), uintptr(unsafe.Pointer(unsafe.StringData(s)))
		if s != c[0]+c[1] || at >= first && at < first+uintptr(len(long)) {
			t.Fatalf("Join(%s, %s) is a piece of what was handed in", short(c[0]), short(c[1]))
		}
	}
}
