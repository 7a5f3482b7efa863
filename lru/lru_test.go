package lru_test

import (
	"math/rand"
	"slices"
	"strings"
	"testing"

	"cloakroom/api"
	"cloakroom/lru"
)

// The chapter's examples.
func TestExamples(t *testing.T) {
	var o api.Order
	e := api.OK
	for _, key := range letters("abc") {
		o, e = lru.Add(o, key)
		checkErrno(t, key, e, api.OK)
	}
	victim, e := lru.Victim(o)
	checkKeys(t, "Victim of a, b, c", []string{victim}, e, letters("a"))
	l, e := lru.All(o)
	checkKeys(t, "All of a, b, c", l, e, letters("abc"))

	o, e = lru.Hit(o, "a")
	checkOrder(t, "Hit a", o, e, orderOf("cb", "a"))
	victim, e = lru.Victim(o)
	checkKeys(t, "Victim behind Hit a", []string{victim}, e, letters("b"))
	o, e = lru.Hit(o, "b")
	checkOrder(t, "Hit b", o, e, orderOf("c", "ba"))
	o, e = lru.Hit(o, "c")
	checkOrder(t, "Hit c", o, e, orderOf("a", "cb"))
	o, e = lru.Del(o, "c")
	checkOrder(t, "Del c", o, e, orderOf("a", "b"))

	o, e = lru.Del(api.Order{}, "a")
	checkRefused(t, "Del(nothing, a)", e, api.ErrNone, o)
	o, e = lru.Add(orderOf("a", ""), "a")
	checkRefused(t, "Add(try a, a)", e, api.ErrArg, o)
	victim, e = lru.Victim(api.Order{})
	checkRefused(t, "Victim(nothing)", e, api.ErrNone, api.Order{}, victim)
}

// P7.1
func TestCheckOfWhatMayBe(t *testing.T) {
	for _, o := range append(smallOrders(), api.Order{Try: []string{}, Keep: []string{}}, api.Order{Try: []string{}}, api.Order{Keep: []string{}}) {
		checkErrno(t, o, lru.Check(o), api.OK)
		checkErrno(t, o, lru.Check(roomy(o)), api.OK)
	}
	r := rand.New(rand.NewSource(71))
	for range 1000 {
		o := randomOrder(r)
		checkErrno(t, o, lru.Check(o), api.OK)
	}
}

// P7.1: of each number of keys, any number of kept ones up to the half, rounded up, and no more.
func TestCheckOfTheHalf(t *testing.T) {
	for many := range mostKeys + 1 {
		for keep := range many + 1 {
			want := api.OK
			if 2*keep > many+1 {
				want = api.ErrBad
			}
			o := numbered(many-keep, keep)
			if e := lru.Check(o); e != want {
				t.Fatalf("%d try, %d kept: error %d, want %d", many-keep, keep, e, want)
			}
		}
	}
}

// P7.1
func TestCheckOfManyKeys(t *testing.T) {
	for _, c := range []struct {
		try, keep int
		want      api.Errno
	}{
		{255, 0, api.OK}, {256, 0, api.OK}, {257, 0, api.ErrBad}, {255, 1, api.OK}, {256, 1, api.ErrBad},
		{128, 128, api.OK}, {129, 128, api.ErrBad}, {128, 129, api.ErrBad}, {127, 128, api.OK}, {127, 129, api.ErrBad},
		{0, 1, api.OK}, {0, 2, api.ErrBad}, {1, 2, api.OK}, {1, 3, api.ErrBad}, {2, 2, api.OK}, {2, 3, api.OK}, {2, 4, api.ErrBad},
	} {
		checkErrno(t, c, lru.Check(numbered(c.try, c.keep)), c.want)
	}
}

// P7.1: a key has from 1 to MaxKey bytes, any ones, in either row.
func TestCheckOfKeys(t *testing.T) {
	for _, key := range edgeKeys() {
		for _, o := range []api.Order{{Try: []string{key}}, {Keep: []string{key}}, {Try: []string{"a", key}, Keep: []string{"b"}}, {Try: []string{"a"}, Keep: []string{key, "b"}}, {Try: []string{"a"}, Keep: []string{"b", key}}} {
			checkErrno(t, key, lru.Check(o), api.OK)
		}
	}
	checkErrno(t, "all of them", lru.Check(api.Order{Try: edgeKeys()}), api.OK)
	for _, key := range wrongKeys() {
		for _, o := range []api.Order{{Try: []string{key}}, {Keep: []string{key}}, {Try: []string{"a", key}, Keep: []string{"b"}}, {Try: []string{"a"}, Keep: []string{key, "b"}}, {Try: []string{"a"}, Keep: []string{"b", key}}} {
			checkErrno(t, len(key), lru.Check(o), api.ErrBad)
		}
	}
}

// P7.1: keys that differ in their last byte alone, in their length or in how they are written, are no two of one.
func TestCheckOfKeysThatAreNearlyTheSame(t *testing.T) {
	long := strings.Repeat("k", maxKey-1)
	for _, l := range [][]string{{"a", "A"}, {"a", "aa"}, {"a", "a\x00"}, {"a", " a"}, {"a", "a "}, {long + "a", long + "b"}, {long, long + "k"}, {"é", "e\u0301"}, {"\xff", "\ufffd"}} {
		checkErrno(t, l, lru.Check(api.Order{Try: l}), api.OK)
		checkErrno(t, l, lru.Check(api.Order{Try: l[:1], Keep: l[1:]}), api.OK)
	}
}

// P7.1: a key that stands twice is found wherever it stands, in one row or in both.
func TestCheckOfAKeyTwice(t *testing.T) {
	for _, s := range [][2]int{{7, 0}, {4, 3}, {3, 4}, {128, 128}} {
		for i := range s[0] + s[1] {
			for _, j := range []int{0, 1, s[0] - 1, s[0], s[0] + s[1] - 1} {
				if i == j || j >= s[0]+s[1] {
					continue
				}
				all := numbered(s[0]+s[1], 0).Try
				all[i] = all[j]
				o := api.Order{Try: all[:s[0]], Keep: all[s[0]:]}
				if e := lru.Check(o); e != api.ErrBad {
					t.Fatalf("%v, %d is %d: error %d", s, i, j, e)
				}
			}
		}
	}
}

// P7.1: an order that may not be stands ahead of all else, whatever the key.
func TestWrongOrders(t *testing.T) {
	long := strings.Repeat("k", maxKey+1)
	for i, o := range wrongOrders() {
		checkErrno(t, i, lru.Check(o), api.ErrBad)
		victim, e := lru.Victim(o)
		checkRefused(t, i, e, api.ErrBad, api.Order{}, victim)
		l, e := lru.All(o)
		checkRefused(t, i, e, api.ErrBad, api.Order{}, l...)
		for _, u := range turns {
			for _, key := range []string{"a", "x", keyOf(0), keyOf(1), "", long} {
				left, e := u.call(o, key)
				checkRefused(t, i, e, api.ErrBad, left)
			}
		}
	}
}

// P7.3
func TestVictim(t *testing.T) {
	for _, c := range []struct{ try, keep, want string }{
		{"a", "", "a"}, {"ab", "", "b"}, {"abc", "", "c"},
		{"", "a", "a"},
		{"a", "b", "a"}, {"ab", "c", "b"}, {"a", "bc", "a"}, {"abc", "de", "c"}, {"ab", "cde", "b"},
	} {
		victim, e := lru.Victim(orderOf(c.try, c.keep))
		checkKeys(t, c, []string{victim}, e, []string{c.want})
	}
	for _, o := range []api.Order{{}, {Try: []string{}}, {Keep: []string{}}, {Try: []string{}, Keep: []string{}}, roomy(api.Order{})} {
		victim, e := lru.Victim(o)
		checkRefused(t, "of nothing", e, api.ErrNone, api.Order{}, victim)
	}
}

// P7.3
func TestAll(t *testing.T) {
	for _, c := range []struct{ try, keep, want string }{
		{"", "", ""},
		{"a", "", "a"}, {"ab", "", "ba"}, {"abcd", "", "dcba"},
		{"", "a", "a"},
		{"a", "b", "ab"}, {"ab", "c", "bac"}, {"a", "bc", "acb"}, {"abc", "de", "cbaed"}, {"ab", "cde", "baedc"},
	} {
		l, e := lru.All(orderOf(c.try, c.keep))
		checkKeys(t, c, l, e, letters(c.want))
	}
	for _, o := range []api.Order{{}, {Try: []string{}, Keep: []string{}}, roomy(api.Order{})} {
		l, e := lru.All(o)
		checkKeys(t, "of nothing", l, e, nil)
	}
}

// P7.3, P7.5: All is what comes of taking out the victim again and again, each key once.
func TestAllIsWhatGoesOneByOne(t *testing.T) {
	l := append(smallOrders(), numbered(256, 0), numbered(255, 1), numbered(129, 127), numbered(128, 128), numbered(127, 128))
	r := rand.New(rand.NewSource(72))
	for range 200 {
		l = append(l, randomOrder(r))
	}
	for _, o := range l {
		all, e := lru.All(o)
		checkKeys(t, o, all, e, drained(t, o))
		slices.Sort(all)
		checkKeys(t, o, all, e, sorted(o))
		askBoth(t, o)
	}
}

// P7.4
func TestAskingOnlyReads(t *testing.T) {
	for _, o := range append(smallOrders(), wrongOrders()[:40]...) {
		for _, o := range []api.Order{roomy(o), oneMemory(o)} {
			was := wholes(o)
			lru.Check(o)
			lru.Victim(o)
			lru.All(o)
			if !same(wholes(o), was) {
				t.Errorf("%s was %s", short(wholes(o)), short(was))
			}
		}
	}
}

// P7.4: what All answers changes neither with what was handed in, nor with another answer.
func TestAllIsNewMemory(t *testing.T) {
	for _, o := range smallOrders() {
		for _, o := range []api.Order{roomy(o), oneMemory(o)} {
			first, _ := lru.All(o)
			second, _ := lru.All(o)
			want, was := slices.Clone(first), wholes(o)
			spoil(second)
			second = append(second, "more")
			if !same(wholes(o), was) {
				t.Errorf("%s: what was handed in changed with the answer", short(was))
			}
			checkKeys(t, "two answers share memory", first, api.OK, want)
			spoil(o.Try)
			spoil(o.Keep)
			checkKeys(t, "the answer changed with what was handed in", first, api.OK, want)
		}
	}
}
