package order_test

import (
	"math/rand"
	"slices"
	"testing"

	"cloakroom/api"
)

// done is a result with items.
func done(items ...api.Item) api.Result { return api.Result{Kind: api.ResDone, Items: items} }

// keyed are items of these keys, each its own.
func keyed(keys ...string) []api.Item {
	var l []api.Item
	for i, key := range keys {
		l = append(l, itemOf(key, i+1))
	}
	return l
}

// P10.3: of get the items, in the order of the keys: of all keys, of some, of none. Of tenant 0 and two shards a, c, e are the first one's, b, d, f the second one's.
func TestMergeOfGet(t *testing.T) {
	x := keyed("a", "b", "c", "d")
	c := get(0, "d", "a", "c", "b")
	for _, w := range []struct {
		l    []api.Result
		want api.Result
	}{
		{[]api.Result{done(x[0], x[2]), done(x[3], x[1])}, done(x[3], x[0], x[2], x[1])},
		{[]api.Result{done(x[2], x[0]), done(x[1], x[3])}, done(x[3], x[0], x[2], x[1])},
		{[]api.Result{done(x[2]), done(x[1])}, done(x[2], x[1])},
		{[]api.Result{done(x[0], x[2]), done()}, done(x[0], x[2])},
		{[]api.Result{done(), done(x[3])}, done(x[3])},
		{[]api.Result{done(), done()}, done()},
		{[]api.Result{{}, {}}, done()},
		{[]api.Result{{Kind: api.ResNone, Items: x[:1], Number: 5}, {Kind: 255, Items: x[3:4], Number: 6}}, done(x[3], x[0])},
	} {
		checkMerge(t, c, 2, w.l, w.want, api.OK)
	}
	// In more shards, whose order is not that of the keys: b is in shard 3, a in 2, d in 1, c in 0.
	c = get(0, "b", "a", "d", "c")
	checkMerge(t, c, 4, []api.Result{done(x[2]), done(x[3]), done(x[0]), done(x[1])}, done(x[1], x[0], x[3], x[2]), api.OK)
	// In two of more: b is in shard 3, c in shard 0.
	checkMerge(t, get(0, "b", "c"), 4, []api.Result{done(x[2]), done(x[1])}, done(x[1], x[2]), api.OK)
}

// P10.3: of several items of a key the first one is told, all of it as it is.
func TestMergeOfSeveralItemsOfAKey(t *testing.T) {
	first, second, other := itemOf("a", 1), itemOf("a", 2), itemOf("b", 3)
	c := get(0, "a", "b")
	checkMerge(t, c, 2, []api.Result{done(first, second, first), done(other)}, done(first, other), api.OK)
	checkMerge(t, c, 2, []api.Result{done(second, first), done()}, done(second), api.OK)
	checkMerge(t, c, 2, []api.Result{done(itemOf("c", 4), first, second), done(itemOf("x", 5), other, itemOf("b", 6))}, done(first, other), api.OK)
	long := slices.Repeat([]api.Item{second}, 1<<12)
	checkMerge(t, c, 2, []api.Result{done(append([]api.Item{first}, long...)...), done()}, done(first), api.OK)
}

// P10.3: items of a key that another shard has, and of no key of the command, are not told.
func TestMergeOfOthersItems(t *testing.T) {
	a, b := itemOf("a", 1), itemOf("b", 2)
	c := get(0, "a", "b")
	checkMerge(t, c, 2, []api.Result{done(b), done(a)}, done(), api.OK)
	checkMerge(t, c, 2, []api.Result{done(b, a), done()}, done(a), api.OK)
	checkMerge(t, c, 2, []api.Result{done(), done(a, b)}, done(b), api.OK)
	checkMerge(t, c, 2, []api.Result{done(itemOf("b", 7), a), done(itemOf("a", 8), b)}, done(a, b), api.OK)
	checkMerge(t, c, 2, []api.Result{done(keyed("c", "e", "", "aa")...), done(keyed("d", "f", "B")...)}, done(), api.OK)
}

// P10.3: of delete the sum of the numbers; without any none.
func TestMergeOfDelete(t *testing.T) {
	c := del(0, letters()...)
	for _, w := range []struct {
		numbers []uint64
		want    uint64
	}{
		{[]uint64{0, 0}, 0}, {[]uint64{1, 0}, 1}, {[]uint64{0, 1}, 1}, {[]uint64{2, 3}, 5}, {[]uint64{4, 4}, 8},
		{[]uint64{0, 0, 0}, 0}, {[]uint64{0, 0, 3}, 3}, {[]uint64{1, 2, 3}, 6},
		{[]uint64{0, 0, 0, 0}, 0}, {[]uint64{0, 0, 0, 1}, 1}, {[]uint64{2, 2, 2, 2}, 8}, {[]uint64{1, 0, 2, 0}, 3},
		{[]uint64{1 << 40, 1}, 1<<40 + 1}, {[]uint64{all, 0}, all}, {[]uint64{top, top}, all - 1},
	} {
		for kind := range api.ResRefused {
			var l []api.Result
			for _, n := range w.numbers {
				l = append(l, api.Result{Kind: kind, Number: n, Items: keyed("a", "b")})
			}
			want := api.Result{Kind: api.ResDone, Number: w.want}
			if w.want == 0 {
				want.Kind = api.ResNone
			}
			checkMerge(t, c, len(l), l, want, api.OK)
		}
	}
}

// P10.3: a flush is done, whatever else its parts tell.
func TestMergeOfFlush(t *testing.T) {
	for n := 2; n <= maxShards; n++ {
		for kind := range api.ResRefused {
			l := slices.Repeat([]api.Result{{Kind: kind, Number: 3, Items: keyed("a")}}, n)
			checkMerge(t, flush(1), n, l, api.Result{Kind: api.ResDone}, api.OK)
		}
	}
}

// P10.3: one shard's result is told as it is, of whichever kind the command, the result and its items are.
func TestMergeOfOneShard(t *testing.T) {
	for _, rule := range rules() {
		for _, c := range []api.Command{plain(rule), rich(rule)} {
			for kind := range 256 {
				if kind == 7 {
					continue
				}
				r := api.Result{Kind: uint8(kind), Number: uint64(kind) << 50, Items: keyed("x", "x", "k", "")}
				checkMerge(t, c, 1, []api.Result{r}, r, api.OK)
				checkMerge(t, c, 1, []api.Result{{Kind: uint8(kind)}}, api.Result{Kind: uint8(kind)}, api.OK)
			}
		}
	}
	// One of more shards, too: a and e are both in shard 2 of four.
	r := api.Result{Kind: api.ResThere, Number: 9, Items: keyed("e", "b", "a", "e")}
	checkMerge(t, get(0, "a", "e"), 4, []api.Result{r}, r, api.OK)
	checkMerge(t, del(0, "a", "e"), 4, []api.Result{r}, r, api.OK)
	none := api.Result{Kind: api.ResDone} // of delete: not changed into ResNone
	checkMerge(t, del(0, "a"), 4, []api.Result{none}, none, api.OK)
}

// P10.3: where one is refused, all is, and nothing else is told.
func TestMergeOfARefusedOne(t *testing.T) {
	refused := api.Result{Kind: api.ResRefused}
	for n := 1; n <= maxShards; n++ {
		for _, c := range []api.Command{get(0, letters()...), del(0, letters()...), flush(2)} {
			for bits := 1; bits < 1<<n; bits++ {
				l := slices.Repeat([]api.Result{{Kind: api.ResDone, Number: 2, Items: keyed(letters()...)}}, n)
				for place := range l {
					if bits>>place&1 != 0 {
						l[place].Kind = api.ResRefused
					}
				}
				checkMerge(t, c, n, l, refused, api.OK)
			}
			plain := make([]api.Result, n)
			plain[n-1] = refused
			checkMerge(t, c, n, plain, refused, api.OK)
		}
	}
	checkMerge(t, api.Command{Kind: api.CmdSet, Keys: []string{"k"}}, 3, []api.Result{refused}, refused, api.OK)
}

// P10.3: no result, one too few, one too many, and many; those that are refused are not told then.
func TestMergeOfTooFewAndTooMany(t *testing.T) {
	for n := 1; n <= maxShards; n++ {
		for _, c := range []api.Command{get(0, "a"), get(0, "a", "e"), get(0, "a", "b"), get(0, letters()...), del(1, "b", "c", "d"), flush(0), {Kind: api.CmdTouch, Keys: []string{"k"}}} {
			shards, _ := wantShards(c, n)
			for _, many := range []int{0, 1, 2, 3, 4, 5, 8, 256, 257, 1 << 16} {
				for _, r := range []api.Result{{}, {Kind: api.ResDone, Number: 1}, {Kind: api.ResRefused}} {
					l := slices.Repeat([]api.Result{r}, many)
					if many != len(shards) {
						checkMerge(t, c, n, l, api.Result{}, api.ErrMany)
					}
					checkMerged(t, c, n, l)
				}
			}
			checkMerge(t, c, n, nil, api.Result{}, api.ErrMany)
		}
	}
	// There are results of all shards of the house, but not all of them are the command's.
	checkMerge(t, get(0, "a", "b"), 4, make([]api.Result, 4), api.Result{}, api.ErrMany)
}

// P10.3: any commands and results.
func TestAnyMerges(t *testing.T) {
	r := rand.New(rand.NewSource(106))
	for range 10000 {
		c := randomCommand(r)
		n := 1 + r.Intn(maxShards)
		l := randomResults(r, c, n)
		checkMerged(t, c, n, l)
		if len(l) > 1 {
			checkMerge(t, c, n, l[1:], api.Result{}, api.ErrMany)
		}
		checkMerge(t, c, n, append(l, api.Result{}), api.Result{}, api.ErrMany)
		checkMerged(t, spoilt(r, c), n, l)
	}
}
