package order_test

import (
	"math/rand"
	"slices"
	"strings"
	"testing"

	"cloakroom/api"
	"cloakroom/order"
)

// letters are eight keys.
func letters() []string { return strings.Split("a b c d e f g h", " ") }

// P10.2, P10.3: the shards and the parts of eight keys, written out.
func TestPartsWrittenOut(t *testing.T) {
	for _, w := range []struct {
		tenant, n int
		parts     []string // by shards
	}{
		{0, 1, []string{"abcdefgh"}},
		{0, 2, []string{"aceg", "bdfh"}},
		{0, 3, []string{"beh", "adg", "cf"}},
		{0, 4, []string{"cg", "dh", "ae", "bf"}},
		{1, 1, []string{"abcdefgh"}},
		{1, 2, []string{"bdfh", "aceg"}},
		{1, 3, []string{"ce", "afh", "bdg"}},
		{1, 4, []string{"dh", "cg", "bf", "ae"}},
		{2, 3, []string{"cef", "abdh", "g"}},
		{2, 4, []string{"ae", "bf", "cg", "dh"}},
		{3, 3, []string{"cefh", "g", "abd"}},
		{3, 4, []string{"bf", "ae", "dh", "cg"}},
	} {
		for _, c := range []api.Command{get(w.tenant, letters()...), del(w.tenant, letters()...)} {
			shards := []int{0, 1, 2, 3}[:w.n]
			checkShards(t, c, w.n, shards, api.OK)
			for shard, keys := range w.parts {
				want := api.Command{Kind: c.Kind, Tenant: w.tenant, Keys: strings.Split(keys, "")}
				checkPart(t, c, shard, w.n, want, api.OK)
			}
		}
	}
}

// P10.2: shards rise, and stand once, whatever the keys' order; those without a key are not there.
func TestShardsRise(t *testing.T) {
	checkShards(t, get(0, "a"), 4, []int{2}, api.OK)
	checkShards(t, get(0, "b", "a"), 4, []int{2, 3}, api.OK)
	checkShards(t, get(0, "a", "e"), 4, []int{2}, api.OK)
	checkShards(t, get(0, "b", "f", "c", "g"), 4, []int{0, 3}, api.OK)
	checkShards(t, del(0, "b", "d", "c"), 4, []int{0, 1, 3}, api.OK)
	checkShards(t, del(0, "d", "h"), 4, []int{1}, api.OK)
	checkShards(t, del(0, "d", "c"), 3, []int{1, 2}, api.OK)
	checkShards(t, get(0, "b", "a", "d", "c"), 4, []int{0, 1, 2, 3}, api.OK)
	checkShards(t, get(0, "b", "d"), 2, []int{1}, api.OK)
	for _, key := range []string{"a", "b"} { // one tenant's key is not where another one's is
		zero, _ := order.Shards(get(0, key), 2)
		one, _ := order.Shards(get(1, key), 2)
		if slices.Equal(zero, one) {
			t.Error(key, zero, one)
		}
	}
}

// P10.2: a flush needs all shards, of whichever tenant.
func TestShardsOfFlush(t *testing.T) {
	for tenant := range maxTenants {
		for n := 1; n <= maxShards; n++ {
			all := []int{0, 1, 2, 3}[:n]
			checkShards(t, flush(tenant), n, all, api.OK)
			for _, shard := range all {
				checkPart(t, flush(tenant), shard, n, flush(tenant), api.OK)
			}
			checkParts(t, flush(tenant), n)
		}
	}
}

// P10.2, P10.3: each choice of shards, with one key in each and with two.
func TestEachChoiceOfShards(t *testing.T) {
	for n := 1; n <= maxShards; n++ {
		for bits := 1; bits < 1<<n; bits++ {
			var shards []int
			for shard := range n {
				if bits>>shard&1 != 0 {
					shards = append(shards, shard)
				}
			}
			for tenant := range maxTenants {
				for many := 1; many <= 2; many++ {
					keys := spread(tenant, many, n, shards...)
					for range 2 {
						for _, c := range []api.Command{get(tenant, keys...), del(tenant, keys...)} {
							checkShards(t, c, n, shards, api.OK)
							checkParts(t, c, n)
						}
						slices.Reverse(keys)
					}
				}
			}
		}
	}
}

// P10.2, P10.3: commands of one key, of all kinds: the part is all of it.
func TestPartOfOneKey(t *testing.T) {
	for _, r := range rules() {
		if r.from == 0 {
			continue
		}
		for n := 1; n <= maxShards; n++ {
			for tenant := range maxTenants {
				for _, key := range append(letters(), longKeys(8)...) {
					c := rich(r)
					c.Tenant, c.Keys = tenant, []string{key}
					shard := homeOf(tenant, key, n)
					checkShards(t, c, n, []int{shard}, api.OK)
					checkPart(t, c, shard, n, c, api.OK)
					checkParts(t, c, n)
				}
			}
		}
	}
}

// P10.2, P10.3: numbers of shards that may not be.
func TestWrongNumbersOfShards(t *testing.T) {
	for _, n := range edgeNumbers() {
		for _, r := range rules() {
			for _, c := range []api.Command{plain(r), rich(r)} {
				if n >= 1 && n <= maxShards {
					checkParts(t, c, n)
					continue
				}
				checkShards(t, c, n, nil, api.ErrArg)
				for _, shard := range append(edgeNumbers(), n-1, n) {
					checkPart(t, c, shard, n, api.Command{}, api.ErrArg)
				}
				for _, l := range [][]api.Result{nil, {}, {{Kind: api.ResDone}}, {{Kind: api.ResRefused}}, make([]api.Result, 5)} {
					checkMerge(t, c, n, l, api.Result{}, api.ErrArg)
				}
			}
		}
	}
}

// P10.3: shards that are none of the command's: below, beyond, and those without its keys.
func TestWrongShards(t *testing.T) {
	for n := 1; n <= maxShards; n++ {
		for _, c := range []api.Command{get(0, "a"), get(1, "a", "e"), del(2, letters()...), flush(1), {Kind: api.CmdSet, Tenant: 3, Keys: []string{"x"}, Value: "v"}} {
			shards, _ := wantShards(c, n)
			for _, shard := range append(edgeNumbers(), n-1, n, n+1) {
				if slices.Contains(shards, shard) {
					want, _ := wantPart(c, shard, n)
					checkPart(t, c, shard, n, want, api.OK)
				} else {
					checkPart(t, c, shard, n, api.Command{}, api.ErrArg)
				}
			}
		}
	}
	checkPart(t, get(0, "a"), 3, 4, api.Command{}, api.ErrArg)
	checkPart(t, get(0, "a"), 0, 4, api.Command{}, api.ErrArg)
	checkPart(t, get(0, "a"), 2, 4, get(0, "a"), api.OK)
}

// P10.2, P10.3: a command that may not be is told ahead of a number of shards, of a shard, and of results.
func TestWhichErrorStandsFirst(t *testing.T) {
	for _, c := range wrongCommands() {
		for _, n := range edgeNumbers() {
			checkShards(t, c, n, nil, api.ErrOrder)
			for _, shard := range []int{-1, 0, 1, 4, 9} {
				checkPart(t, c, shard, n, api.Command{}, api.ErrOrder)
			}
			for _, l := range [][]api.Result{nil, {{Kind: api.ResDone}}, {{Kind: api.ResRefused}, {Number: 1}}} {
				checkMerge(t, c, n, l, api.Result{}, api.ErrOrder)
			}
		}
	}
	checkMerge(t, get(0, "a"), 5, nil, api.Result{}, api.ErrArg)
	checkMerge(t, get(0, "a"), 1, nil, api.Result{}, api.ErrMany)
}

// P10.2, P10.3: any commands, of any number of shards.
func TestAnyParts(t *testing.T) {
	r := rand.New(rand.NewSource(105))
	for range 5000 {
		c := randomCommand(r)
		for n := -1; n <= maxShards+1; n++ {
			checkParts(t, c, n)
			checkParts(t, spoilt(r, c), n)
		}
	}
}
