package shards_test

import (
	"math/rand"
	"slices"
	"strconv"
	"strings"
	"testing"

	"cloakroom/api"
	"cloakroom/shards"
)

// wrongTickets may not be.
func wrongTickets() []api.Ticket {
	k := []string{"k"}
	l := []api.Ticket{
		{}, {Kind: 4}, {Kind: 255, To: 5}, {Kind: 0, Command: get(0, "k").Command},
		clock(-1), clock(least), clock(maxClock + 1), clock(top), {Kind: api.TickClock, Tenant: 1, To: 5}, {Kind: api.TickClock, Command: get(0, "k").Command, To: 5}, {Kind: api.TickClock, Command: api.Command{Keys: k}},
		quota(-1, 1), quota(maxTenants, 1), quota(top, 1), quota(0, -1), quota(0, maxPages+1), quota(0, least), {Kind: api.TickQuota, Command: flush(0).Command, To: 1},
		get(0), get(0, "a", "a"), get(0, "a", ""), get(-1, "a"), get(maxTenants, "a"), get(0, strings.Repeat("k", maxKey+1)), get(0, strings.Split("abcdefghi", "")...),
		set(0, "k", strings.Repeat("v", 513)), lasts(set(0, "k", "v"), -1), lasts(set(0, "k", "v"), maxClock+1), lasts(get(0, "k"), 1), of(12, get(0, "k")), of(0, get(0, "k")), of(api.CmdFlush, get(0, "k")), flush(maxTenants), of(api.CmdSet, get(0, "a", "b")),
	}
	for _, x := range []api.Ticket{get(0, "k"), flush(0)} {
		x.Tenant = 1
		l = append(l, x)
		x.Tenant, x.To = 0, 1
		l = append(l, x)
	}
	return l
}

// P13.2: tickets that may not be are refused, and have no number; nothing has changed.
func TestPutOfWrongTickets(t *testing.T) {
	r := rand.New(rand.NewSource(133))
	for n := 1; n <= maxShards; n++ {
		w := newTwin(t, n, 4, []int{2, 2}, 5)
		for i, x := range wrongTickets() {
			x.Number = i
			checkNotPut(t, w.h, x, api.ErrBad)
			w.check(x)
			if i%5 == 0 {
				w.put(randomTicket(r, w.m))
			}
			if i%9 == 0 {
				w.drain(r)
			}
		}
		w.drain(r)
	}
}

// P13.2: tickets are numbered as they are put, from 0 on, whatever number they bring; what is refused takes none.
func TestNumbersRise(t *testing.T) {
	h := made(t, 3, 4, []int{2, 2}, 0)
	for i, x := range []api.Ticket{get(0, "a"), flush(1), clock(0), quota(3, 16), set(2, "k", "v"), get(3, "x", "y", "z")} {
		x.Number = 40 - 20*i
		if number, f := h.Put(x); number != i || f != api.OK {
			t.Fatalf("Put(%s): %d, error %d, want %d", short(x), number, f, i)
		}
		checkNotPut(t, h, api.Ticket{}, api.ErrBad)
		checkWaiting(t, x, h, i+1)
	}
}

// P13.2: an inbox has at most MaxBox tickets; who needs no full one can still be put; ErrBad stands ahead of ErrFull.
func TestFullInboxes(t *testing.T) {
	for n := 1; n <= maxShards; n++ {
		h := made(t, n, 2, []int{2}, 0)
		keys := keysAt(n, []int{0, 1, 2, 3}[:n]...)
		for i := range maxBox {
			if number, f := h.Put(get(0, keys[0])); number != i || f != api.OK {
				t.Fatal(i, number, f)
			}
		}
		for _, x := range []api.Ticket{get(0, keys[0]), get(0, keys...), set(0, keys[0], "v"), flush(0), flush(1), clock(1), quota(0, 1), quota(3, 16)} {
			checkNotPut(t, h, x, api.ErrFull)
		}
		checkNotPut(t, h, clock(-1), api.ErrBad)
		checkNotPut(t, h, get(0), api.ErrBad)
		checkWaiting(t, "full", h, maxBox)
		if n > 1 {
			if number, f := h.Put(set(0, keys[1], "v")); number != maxBox || f != api.OK {
				t.Fatal(number, f)
			}
			checkReady(t, "full", h, 0, 1)
			if number, r, l, f := h.Step(1); number != maxBox || !sameResult(r, only(api.ResDone)) || told(l) != "+0"+keys[1]+":1" || f != api.OK {
				t.Fatal(number, r, told(l), f)
			}
		}
		if number, _, _, f := h.Step(0); number != 0 || f != api.OK {
			t.Fatal(number, f)
		}
		if number, f := h.Put(clock(1)); f != api.OK || number != maxBox+min(n-1, 1) {
			t.Fatal(number, f)
		}
		checkNotPut(t, h, clock(2), api.ErrFull)
	}
}

// P13.2: an inbox that is full of tickets of all shards; each waits once.
func TestFullOfAll(t *testing.T) {
	h := made(t, 4, 2, []int{2}, 0)
	for i := range maxBox {
		if number, f := h.Put(clock(i)); number != i || f != api.OK {
			t.Fatal(i, number, f)
		}
	}
	checkWaiting(t, "full", h, maxBox)
	keys := keysAt(4, 0, 1, 2, 3)
	for _, key := range keys {
		checkNotPut(t, h, get(0, key), api.ErrFull)
	}
	if number, r, l, f := h.Step(3); number != 0 || !sameResult(r, only(api.ResDone)) || told(l) != "at0" || f != api.OK {
		t.Fatal(number, r, told(l), f)
	}
	for i, key := range keys {
		if number, f := h.Put(get(0, key)); number != maxBox+i || f != api.OK {
			t.Fatal(number, f)
		}
		checkNotPut(t, h, get(0, key), api.ErrFull)
		checkNotPut(t, h, clock(3), api.ErrFull)
	}
	checkWaiting(t, "full again", h, maxBox-1+len(keys))
	checkReady(t, "full again", h, 0, 1, 2, 3)
}

// P13.2: who is ready, written out: a ticket of several shards lets the others wait.
func TestReadyAndWaiting(t *testing.T) {
	h := made(t, 3, 4, []int{4}, 0)
	k := keysAt(3, 0, 1, 2)
	for _, x := range []api.Ticket{get(0, k[0]), get(0, k[1], k[0]), get(0, k[1]), set(0, k[2], "v"), clock(4), get(0, k[2])} {
		if _, f := h.Put(x); f != api.OK {
			t.Fatal(f)
		}
	}
	for _, c := range []struct {
		ready          []int
		waiting        int
		wait           []int
		shard, number  int
		result, change string
	}{
		{[]int{0, 2}, 6, []int{1}, 0, 0, "", ""},
		{[]int{0, 1, 2}, 5, nil, 1, 1, "", ""},
		{[]int{1, 2}, 4, []int{0}, 2, 3, "", "+0" + k[2] + ":1"},
		{[]int{1}, 3, []int{0, 2}, 1, 2, "", ""},
		{[]int{0, 1, 2}, 2, nil, 1, 4, "", "at4"},
		{[]int{2}, 1, []int{0, 1}, 2, 5, "v", ""},
		{nil, 0, []int{0, 1, 2}, -1, 0, "", ""},
	} {
		checkReady(t, c.number, h, c.ready...)
		checkWaiting(t, c.number, h, c.waiting)
		for _, shard := range c.wait {
			checkRefused(t, c.number, h, shard, api.ErrNone)
		}
		for _, shard := range []int{least, -1, 3, 4, top} {
			checkRefused(t, c.number, h, shard, api.ErrArg)
		}
		checkWaiting(t, "refused", h, c.waiting)
		if c.shard < 0 {
			continue
		}
		number, r, l, f := h.Step(c.shard)
		values := ""
		for _, x := range r.Items {
			values += x.Value
		}
		if number != c.number || r.Kind != api.ResDone || r.Number != 0 || values != c.result || told(l) != c.change || f != api.OK {
			t.Fatalf("Step(%d): %d, %s, %s, error %d, want %d", c.shard, number, short(r), told(l), f, c.number)
		}
	}
}

// P13.3: a step that is refused changes nothing, whatever waits.
func TestRefusedStepsChangeNothing(t *testing.T) {
	r := rand.New(rand.NewSource(134))
	for round := range 40 {
		w := randomTwin(t, r, 1+round%maxShards)
		for range 40 {
			w.randomTurn(r, 9)
			ready := w.m.ready()
			for shard := -2; shard < 7; shard++ {
				if slices.Contains(ready, shard) {
					continue
				}
				want := api.ErrNone
				if shard < 0 || shard >= len(w.m.shards) {
					want = api.ErrArg
				}
				checkRefused(t, "not ready", w.h, shard, want)
			}
			w.check("refused")
		}
	}
}

// stocked is a house with an item i0, i1, .. of each of so many keys in each shard, put shard by shard from the last one on.
func stocked(t *testing.T, n, pages int, quotas []int, many int) (*shards.House, [][]string) {
	t.Helper()
	h, keys := made(t, n, pages, quotas, 0), make([][]string, n)
	for shard := n - 1; shard >= 0; shard-- {
		for i := range many {
			key := keyAt(0, shard, n, i)
			keys[shard] = append(keys[shard], key)
			comes(t, h, set(0, key, "i"+strconv.Itoa(i)), only(api.ResDone), "+0"+key+":"+strconv.Itoa(i+1))
		}
	}
	return h, keys
}

// P13.3: a get of several shards tells the items in the order of the keys, and changes nothing.
func TestGetOfSeveral(t *testing.T) {
	h, k := stocked(t, 3, 4, []int{4}, 2)
	item := func(shard, i int) api.Item { return kept(0, k[shard][i], "i"+strconv.Itoa(i), 0, uint64(i+1)).Item }
	comes(t, h, get(0, k[2][1], k[0][0], k[1][1], k[2][0], k[0][1]), found(item(2, 1), item(0, 0), item(1, 1), item(2, 0), item(0, 1)), "")
	comes(t, h, get(0, k[1][0], "none", k[0][0]), found(item(1, 0), item(0, 0)), "")
	comes(t, h, get(0, "none", "no"), found(), "")
	comes(t, h, get(0, k[1][1]), found(item(1, 1)), "")
}

// P13.3: a delete of several shards counts all; what it drops stands shard by shard, rising, and within one in the order of the keys.
func TestDeleteOfSeveral(t *testing.T) {
	h, k := stocked(t, 3, 4, []int{4}, 3)
	comes(t, h, del(0, k[2][1], k[0][2], k[1][1], k[2][0], k[0][0]), counted(5), "-0"+strings.Join([]string{k[0][2], k[0][0], k[1][1], k[2][1], k[2][0]}, " -0"))
	comes(t, h, del(0, k[2][1], k[2][2], k[0][2], k[1][1]), counted(1), "-0"+k[2][2])
	comes(t, h, del(0, k[2][1], k[0][2], k[1][1]), only(api.ResNone), "")
	if got := keysOf(imageOf(h)); got != "0"+k[0][1]+" 0"+k[1][0]+" 0"+k[1][2] {
		t.Error(got)
	}
}

// P13.3: a flush empties all shards of one tenant; ChClear stands once, be there items in one shard, in all, or in none.
func TestFlush(t *testing.T) {
	for n := 1; n <= maxShards; n++ {
		h, k := stocked(t, n, 4, []int{2, 2}, 2)
		for shard := range n {
			comes(t, h, set(1, keyAt(1, shard, n, 0), "v"), only(api.ResDone), "+1"+keyAt(1, shard, n, 0)+":3")
		}
		comes(t, h, flush(0), only(api.ResDone), "all0")
		if i := imageOf(h); len(i.Items) != n || slices.ContainsFunc(i.Items, func(k api.Kept) bool { return k.Tenant != 1 }) {
			t.Fatal(short(i))
		}
		comes(t, h, flush(0), only(api.ResDone), "all0")
		comes(t, h, set(0, k[n-1][0], "v"), only(api.ResDone), "+0"+k[n-1][0]+":4")
		comes(t, h, flush(0), only(api.ResDone), "all0")
		comes(t, h, flush(1), only(api.ResDone), "all1")
		checkImage(t, "flushed", h, api.Image{Quotas: []int{2, 2}})
	}
}

// P13.3: a tenant without a quota is refused, be its command of one shard, of several, or of all; nothing changes.
func TestTenantsWithoutAQuota(t *testing.T) {
	for n := 1; n <= maxShards; n++ {
		h, k := stocked(t, n, 4, []int{2, 2}, 2)
		was := imageOf(h)
		for tenant := 2; tenant < maxTenants; tenant++ {
			for _, x := range []api.Ticket{get(tenant, k[0][0]), get(tenant, "a", "b", "c", "d", "e", "f"), del(tenant, "a", "b", "c", "d", "e", "f"), set(tenant, "a", "v"), flush(tenant), quota(tenant, 0), quota(tenant, 1)} {
				comes(t, h, x, only(api.ResRefused), "")
			}
		}
		checkImage(t, "refused", h, was)
	}
}

// P13.3: a clock goes on in all shards; ChClock stands once, with the clock that is then, be it asked for an earlier moment, the same or a later one.
func TestClock(t *testing.T) {
	for n := 1; n <= maxShards; n++ {
		h := made(t, n, 4, []int{4}, 10)
		for shard := range n {
			key := keyAt(0, shard, n, shard)
			comes(t, h, lasts(set(0, key, "v"), 5+shard), only(api.ResDone), "+0"+key+":1")
		}
		for _, c := range []struct {
			to, at, left int
		}{{10, 10, n}, {0, 10, n}, {9, 10, n}, {14, 14, n}, {3, 14, n}, {15, 15, n - 1}, {14, 15, n - 1}, {15, 15, n - 1}, {19, 19, 0}, {maxClock, maxClock, 0}, {0, maxClock, 0}, {maxClock, maxClock, 0}, {maxClock - 1, maxClock, 0}} {
			comes(t, h, clock(c.to), only(api.ResDone), "at"+strconv.Itoa(c.at))
			if i := imageOf(h); i.Clock != c.at || len(i.Items) != c.left {
				t.Fatalf("%d shards, clock %d: %s", n, c.to, short(i))
			}
		}
	}
}

// P13.3: what was put before the clock went on lasts by the clock that was then, whatever else was asked in between.
func TestCommandsBetweenClocks(t *testing.T) {
	w := newTwin(t, 4, 4, []int{4}, 0)
	for i, to := range []int{5, 3, 5, 8, 0, 30} {
		w.put(clock(to))
		for shard := range 4 {
			w.put(lasts(set(0, keyAt(0, shard, 4, i), "v"), 4))
		}
	}
	r := rand.New(rand.NewSource(135))
	w.drain(r)
	untils := map[int]int{}
	for _, k := range imageOf(w.h).Items {
		untils[k.Item.Until]++
	}
	if untils[34] != 4 || len(untils) != 1 {
		t.Error(untils)
	}
}

// P13.3: a quota is set in all shards; what is evicted stands shard by shard, rising, and ChQuota once behind all of it.
func TestQuota(t *testing.T) {
	for n := 1; n <= maxShards; n++ {
		h := made(t, n, 4, []int{2, 1}, 0)
		var gone []string
		for shard := range n {
			for i := range 2 {
				key := keyAt(0, shard, n, i)
				comes(t, h, set(0, key, fill(key, maxItem)), only(api.ResDone), "+0"+key+":"+strconv.Itoa(i+1))
			}
			gone = append(gone, "!0"+keyAt(0, shard, n, 1))
		}
		comes(t, h, quota(0, 3), only(api.ResDone), "quota0:3")
		comes(t, h, quota(0, 1), only(api.ResDone), strings.Join(gone, " ")+" quota0:1")
		comes(t, h, quota(0, 1), only(api.ResDone), "quota0:1")
		comes(t, h, quota(1, 3), only(api.ResDone), "quota1:3")
		if i := imageOf(h); !slices.Equal(i.Quotas, []int{1, 3}) || len(i.Items) != n {
			t.Fatal(short(i))
		}
		for shard := range n {
			gone[shard] = "!0" + keyAt(0, shard, n, 0)
		}
		comes(t, h, quota(0, 0), only(api.ResDone), strings.Join(gone, " ")+" quota0:0")
		checkImage(t, "none left", h, api.Image{Quotas: []int{0, 3}})
	}
}

// P13.3: quotas that are refused, for the sum's sake, or of a tenant that has none: nothing changes, in no shard, and none of them is told.
func TestRefusedQuotas(t *testing.T) {
	for n := 1; n <= maxShards; n++ {
		h, k := stocked(t, n, 4, []int{2, 1}, 2)
		was := imageOf(h)
		for _, x := range []api.Ticket{quota(0, 4), quota(0, 16), quota(1, 3), quota(1, 16), quota(2, 0), quota(2, 1), quota(3, 0), quota(3, 16)} {
			comes(t, h, x, only(api.ResRefused), "")
			checkImage(t, x, h, was)
		}
		comes(t, h, quota(0, 3), only(api.ResDone), "quota0:3")
		comes(t, h, quota(1, 2), only(api.ResRefused), "")
		comes(t, h, quota(0, 2), only(api.ResDone), "quota0:2")
		comes(t, h, quota(1, 2), only(api.ResDone), "quota1:2")
		for shard := range n {
			comes(t, h, del(0, k[shard]...), counted(2), "-0"+k[shard][0]+" -0"+k[shard][1])
		}
	}
}

// P13.3: evictions are of the shard alone that has no room; the change behind them is the item's.
func TestEvictionsOfOneShard(t *testing.T) {
	h := made(t, 2, 1, []int{1}, 0)
	for i := range 6 {
		for shard := range 2 {
			key, want := keyAt(0, shard, 2, i), ""
			if i > 1 {
				want = "!0" + keyAt(0, shard, 2, i-2) + " "
			}
			comes(t, h, set(0, key, fill(key, 100)), only(api.ResDone), want+"+0"+key+":"+strconv.Itoa(i+1))
		}
	}
	key := keyAt(0, 1, 2, 9)
	comes(t, h, set(0, key, "v"), only(api.ResMemory), "")
	comes(t, h, set(0, key, strings.Repeat("v", 500)), only(api.ResLarge), "")
	if many := len(imageOf(h).Items); many != 4 {
		t.Error(many)
	}
}

// P13.3: a command of each kind comes to what its shard tells.
func TestEachKindOfCommand(t *testing.T) {
	for n := 1; n <= maxShards; n++ {
		w := newTwin(t, n, 4, []int{2, 2}, 3)
		for shard := range n {
			k := keyAt(1, shard, n, 2)
			one := func(c api.Command) api.Ticket {
				c.Tenant, c.Keys = 1, []string{k}
				return command(c)
			}
			for _, c := range []struct {
				x    api.Ticket
				want api.Result
				told string
			}{
				{one(api.Command{Kind: api.CmdReplace, Value: "0"}), only(api.ResNone), ""},
				{one(api.Command{Kind: api.CmdAdd, Value: "7", Flags: 5, For: 9}), only(api.ResDone), "+1" + k + ":1"},
				{one(api.Command{Kind: api.CmdAdd, Value: "8"}), only(api.ResThere), ""},
				{incr(1, k, 5), counted(12), "+1" + k + ":2"},
				{of(api.CmdDecr, incr(1, k, 3)), counted(9), "+1" + k + ":3"},
				{one(api.Command{Kind: api.CmdCas, Value: "x", Unique: 2}), only(api.ResThere), ""},
				{one(api.Command{Kind: api.CmdAppend, Value: "1"}), only(api.ResDone), "+1" + k + ":4"},
				{get(1, k), found(api.Item{Key: k, Value: "91", Flags: 5, Until: 12, Unique: 4}), ""},
				{one(api.Command{Kind: api.CmdCas, Value: "x", Unique: 4}), only(api.ResDone), "+1" + k + ":5"},
				{incr(1, k, 5), only(api.ResNumber), ""},
				{one(api.Command{Kind: api.CmdTouch, For: 1}), only(api.ResDone), "+1" + k + ":5"},
				{get(1, k), found(api.Item{Key: k, Value: "x", Until: 4, Unique: 5}), ""},
				{one(api.Command{Kind: api.CmdReplace, Value: "z"}), only(api.ResDone), "+1" + k + ":6"},
				{del(1, k), counted(1), "-1" + k},
				{del(1, k), only(api.ResNone), ""},
			} {
				if r, l := w.do(c.x); !sameResult(r, c.want) || told(l) != c.told {
					t.Fatalf("shard %d of %d: %s: %s, %s, want %s, %s", shard, n, short(c.x), short(r), told(l), short(c.want), c.told)
				}
			}
		}
	}
}
