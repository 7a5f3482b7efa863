package lru_test

import (
	"fmt"
	"math/rand"
	"slices"
	"strings"
	"testing"

	"cloakroom/api"
	"cloakroom/lru"
)

// P7.2
func TestAdd(t *testing.T) {
	for _, c := range []struct {
		try, keep string
		want      api.Order
	}{
		{"", "", orderOf("x", "")},
		{"a", "", orderOf("xa", "")},
		{"ab", "", orderOf("xab", "")},
		{"", "a", orderOf("x", "a")},
		{"a", "b", orderOf("xa", "b")},
		{"ab", "cd", orderOf("xab", "cd")},
		{"a", "bc", orderOf("xa", "bc")},
		{"ab", "cde", orderOf("xab", "cde")},
	} {
		left, e := lru.Add(orderOf(c.try, c.keep), "x")
		checkOrder(t, c, left, e, c.want)
	}
}

// P7.2: a key of the try row, and of the kept one, first, last and between; levelled behind it, or not.
func TestHit(t *testing.T) {
	for _, c := range []struct {
		try, keep, key string
		want           api.Order
	}{
		{"a", "", "a", orderOf("", "a")},
		{"", "a", "a", orderOf("", "a")},
		{"ab", "", "a", orderOf("b", "a")},
		{"ab", "", "b", orderOf("a", "b")},
		{"a", "b", "a", orderOf("b", "a")},
		{"a", "b", "b", orderOf("a", "b")},
		{"ab", "c", "a", orderOf("b", "ac")},
		{"ab", "c", "b", orderOf("a", "bc")},
		{"ab", "c", "c", orderOf("ab", "c")},
		{"a", "bc", "a", orderOf("c", "ab")},
		{"a", "bc", "b", orderOf("a", "bc")},
		{"a", "bc", "c", orderOf("a", "cb")},
		{"abcd", "ef", "a", orderOf("bcd", "aef")},
		{"abcd", "ef", "c", orderOf("abd", "cef")},
		{"abcd", "ef", "d", orderOf("abc", "def")},
		{"abc", "def", "a", orderOf("fbc", "ade")},
		{"abc", "def", "b", orderOf("fac", "bde")},
		{"abc", "def", "c", orderOf("fab", "cde")},
		{"abc", "def", "d", orderOf("abc", "def")},
		{"abc", "def", "e", orderOf("abc", "edf")},
		{"abc", "def", "f", orderOf("abc", "fde")},
		{"abc", "defg", "a", orderOf("gbc", "adef")},
		{"abc", "defg", "c", orderOf("gab", "cdef")},
		{"abc", "defg", "f", orderOf("abc", "fdeg")},
		{"abcd", "efg", "d", orderOf("abc", "defg")},
	} {
		left, e := lru.Hit(orderOf(c.try, c.keep), c.key)
		checkOrder(t, c, left, e, c.want)
	}
}

// P7.2: a key of either row, first, last and between; levelled behind it, or not.
func TestDel(t *testing.T) {
	for _, c := range []struct {
		try, keep, key string
		want           api.Order
	}{
		{"a", "", "a", api.Order{}},
		{"", "a", "a", api.Order{}},
		{"ab", "", "a", orderOf("b", "")},
		{"ab", "", "b", orderOf("a", "")},
		{"a", "b", "a", orderOf("", "b")},
		{"a", "b", "b", orderOf("a", "")},
		{"a", "bc", "a", orderOf("c", "b")},
		{"a", "bc", "b", orderOf("a", "c")},
		{"a", "bc", "c", orderOf("a", "b")},
		{"ab", "cd", "a", orderOf("b", "cd")},
		{"ab", "cd", "b", orderOf("a", "cd")},
		{"ab", "cd", "c", orderOf("ab", "d")},
		{"abc", "d", "b", orderOf("ac", "d")},
		{"ab", "cde", "a", orderOf("eb", "cd")},
		{"ab", "cde", "b", orderOf("ea", "cd")},
		{"ab", "cde", "c", orderOf("ab", "de")},
		{"ab", "cde", "d", orderOf("ab", "ce")},
		{"ab", "cde", "e", orderOf("ab", "cd")},
		{"abc", "defg", "a", orderOf("gbc", "def")},
		{"abc", "defg", "b", orderOf("gac", "def")},
		{"abc", "defg", "c", orderOf("gab", "def")},
		{"abc", "defg", "e", orderOf("abc", "dfg")},
	} {
		left, e := lru.Del(orderOf(c.try, c.keep), c.key)
		checkOrder(t, c, left, e, c.want)
	}
}

// P7.2: each key of each small order, and one that is not there.
func TestTurnsOfSmallOrders(t *testing.T) {
	for _, o := range smallOrders() {
		for _, u := range turns {
			for _, key := range append(sorted(o), "x") {
				u.both(t, o, key)
				u.both(t, roomy(o), key)
				u.both(t, oneMemory(o), key)
			}
		}
	}
}

// P7.2
func TestTurnsOfRandomOrders(t *testing.T) {
	r := rand.New(rand.NewSource(73))
	for range 3000 {
		turns[r.Intn(len(turns))].both(t, randomOrder(r), keyOf(r.Intn(12)))
	}
}

// P7.1, P7.2: keys of 1 and of MaxKey bytes, any ones, come and go as all do.
func TestTurnsOfEdgeKeys(t *testing.T) {
	for _, key := range edgeKeys() {
		for _, o := range []api.Order{{}, orderOf("ab", "c"), orderOf("a", "bc")} {
			left, e := lru.Add(o, key)
			checkOrder(t, key, left, e, api.Order{Try: slices.Insert(slices.Clone(o.Try), 0, key), Keep: o.Keep})
			for _, u := range turns[1:] {
				u.both(t, left, key)
			}
		}
	}
}

// P7.1: of orders with keys in no row, in one and in both, full ones too.
func TestWrongKeys(t *testing.T) {
	for _, key := range wrongKeys() {
		for _, o := range []api.Order{{}, orderOf("ab", ""), orderOf("", "a"), orderOf("ab", "c"), numbered(256, 0), numbered(128, 128)} {
			for _, u := range turns {
				left, e := u.call(o, key)
				checkRefused(t, []any{u.name, many(o), len(key)}, e, api.ErrText, left)
			}
		}
	}
}

// P7.2: a key that is there already, in either row, first, last and between.
func TestAddOfAKeyThatIsThere(t *testing.T) {
	for _, o := range append(smallOrders(), numbered(130, 125)) {
		for _, key := range sorted(o) {
			left, e := lru.Add(o, key)
			checkRefused(t, key, e, api.ErrArg, left)
		}
	}
}

// P7.2: a key that is not there, though others are nearly the same.
func TestHitAndDelOfAKeyThatIsNotThere(t *testing.T) {
	long := strings.Repeat("k", maxKey-1)
	near := api.Order{Try: []string{"a", "ab", "b\x00"}, Keep: []string{"A", long + "a"}}
	for _, key := range []string{"aa", "b", "a\x00", "B", "\x00", long, long + "b", " a"} {
		for _, o := range []api.Order{near, {}, orderOf("xy", "z"), numbered(256, 0), numbered(128, 128), roomy(near)} {
			for _, u := range turns[1:] {
				left, e := u.call(o, key)
				checkRefused(t, key, e, api.ErrNone, left)
			}
		}
	}
	// What stands in the spare room is not there.
	for _, key := range []string{"spare", "spare try", "spare keep"} {
		for _, u := range turns[1:] {
			left, e := u.call(roomy(near), key)
			checkRefused(t, key, e, api.ErrNone, left)
		}
		left, e := lru.Add(roomy(near), key)
		checkErrno(t, left, e, api.OK)
	}
}

// P7.2: the 256th key fits, the 257th doesn't; with one taken out, another one does again.
func TestAddUpToTheLimit(t *testing.T) {
	for _, s := range [][2]int{{255, 0}, {254, 1}, {128, 127}, {127, 128}} {
		o := numbered(s[0], s[1])
		left, e := lru.Add(o, "x")
		checkOrder(t, s, left, e, api.Order{Try: slices.Insert(slices.Clone(o.Try), 0, "x"), Keep: o.Keep})
		over, e := lru.Add(left, "y")
		checkRefused(t, s, e, api.ErrFull, over)
		less, e := lru.Del(left, keyOf(0))
		checkErrno(t, s, e, api.OK)
		_, e = lru.Add(less, "y")
		checkErrno(t, s, e, api.OK)
	}
}

// P7.2: of full orders each key may be hit, and taken out.
func TestTurnsOfFullOrders(t *testing.T) {
	for _, s := range [][2]int{{256, 0}, {255, 1}, {129, 127}, {128, 128}} {
		o := numbered(s[0], s[1])
		for i := range mostKeys {
			for _, u := range turns {
				u.both(t, o, keyOf(i))
			}
		}
		for _, u := range turns {
			u.both(t, o, "x")
		}
	}
}

// P7.1, P7.2: an order that may not be, then a wrong key, then one that is there or not, then no room.
func TestWhichErrorStandsFirst(t *testing.T) {
	full, many, long := numbered(128, 128), numbered(257, 0), strings.Repeat("k", maxKey+1)
	for _, c := range []struct {
		o              api.Order
		key            string
		add, hit, take api.Errno
	}{
		{orderOf("aa", ""), "", api.ErrBad, api.ErrBad, api.ErrBad},
		{orderOf("aa", ""), long, api.ErrBad, api.ErrBad, api.ErrBad},
		{orderOf("aa", ""), "a", api.ErrBad, api.ErrBad, api.ErrBad},
		{orderOf("", "ab"), "x", api.ErrBad, api.ErrBad, api.ErrBad},
		{api.Order{Try: []string{""}}, "", api.ErrBad, api.ErrBad, api.ErrBad},
		{api.Order{Try: []string{long}}, long, api.ErrBad, api.ErrBad, api.ErrBad},
		{many, "", api.ErrBad, api.ErrBad, api.ErrBad},
		{many, keyOf(0), api.ErrBad, api.ErrBad, api.ErrBad},
		{many, "x", api.ErrBad, api.ErrBad, api.ErrBad},
		{full, "", api.ErrText, api.ErrText, api.ErrText},
		{full, long, api.ErrText, api.ErrText, api.ErrText},
		{api.Order{}, "", api.ErrText, api.ErrText, api.ErrText},
		{full, keyOf(0), api.ErrArg, api.OK, api.OK},
		{full, keyOf(255), api.ErrArg, api.OK, api.OK},
		{full, "x", api.ErrFull, api.ErrNone, api.ErrNone},
		{numbered(127, 128), "x", api.OK, api.ErrNone, api.ErrNone},
	} {
		for i, want := range []api.Errno{c.add, c.hit, c.take} {
			_, e := turns[i].call(c.o, c.key)
			checkErrno(t, fmt.Sprint(turns[i].name, c.o, c.key), e, want)
		}
	}
}

// P7.4: neither what is handed in changes, nor the room behind its rows, be it well or refused.
func TestTurnsOnlyRead(t *testing.T) {
	for _, o := range append(smallOrders(), wrongOrders()[:40]...) {
		for _, o := range []api.Order{roomy(o), oneMemory(o)} {
			was := wholes(o)
			for _, u := range turns {
				for _, key := range append(sorted(o), "x", "") {
					u.call(o, key)
					if !same(wholes(o), was) {
						t.Fatalf("%s, %s: was %s, is %s", u.name, short(key), short(was), short(wholes(o)))
					}
				}
			}
		}
	}
}

// P7.4: what is answered shares no memory with what was handed in, nor with another answer, nor one row with the other.
func TestTurnsAnswerNewMemory(t *testing.T) {
	for _, first := range smallOrders() {
		for _, u := range turns {
			for _, key := range append(sorted(first), "x") {
				for _, o := range []api.Order{roomy(first), oneMemory(first)} {
					u.checkApart(t, o, key)
				}
			}
		}
	}
}

// checkApart changes what is answered, its spare room too, then what was handed in, and looks at what else changes.
func (u turn) checkApart(t *testing.T, o api.Order, key string) {
	t.Helper()
	what := fmt.Sprintf("%s(%v, %q)", u.name, o, key)
	first, _ := u.call(o, key)
	second, _ := u.call(o, key)
	want, was := clone(first), wholes(o)
	keep := slices.Clone(second.Keep)
	spoil(second.Try)
	second.Try = append(second.Try, "more", "more")
	if !slices.Equal(second.Keep, keep) {
		t.Errorf("%s: the rows share memory", what)
	}
	try := slices.Clone(second.Try)
	spoil(second.Keep)
	second.Keep = append(second.Keep, "more", "more")
	if !slices.Equal(second.Try, try) {
		t.Errorf("%s: the rows share memory", what)
	}
	if !same(wholes(o), was) {
		t.Errorf("%s: what was handed in changed with the answer", what)
	}
	if !same(first, want) {
		t.Errorf("%s: two answers share memory", what)
	}
	spoil(o.Try)
	spoil(o.Keep)
	if !same(first, want) {
		t.Errorf("%s: the answer changed with what was handed in", what)
	}
}
