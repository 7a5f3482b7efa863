package shards_test

import (
	"math/rand"
	"slices"
	"strconv"
	"strings"
	"testing"

	"cloakroom/api"
	"cloakroom/engine"
	"cloakroom/shards"
)

// P13.1 to P13.3: the chapter's examples: one shard of 2 pages, quotas 1, at 0.
func TestExamples(t *testing.T) {
	h := made(t, 1, 2, []int{1}, 0)
	for i, x := range []api.Ticket{set(0, "k", "v"), clock(5)} {
		if number, f := h.Put(x); number != i || f != api.OK {
			t.Fatal(number, f)
		}
	}
	checkReady(t, "two wait", h, 0)
	checkWaiting(t, "two wait", h, 2)
	for i, want := range []string{"+0k:1", "at5"} {
		if number, r, l, f := h.Step(0); number != i || !sameResult(r, only(api.ResDone)) || told(l) != want || f != api.OK {
			t.Fatal(number, r, told(l), f)
		}
	}
	comes(t, h, quota(0, 3), only(api.ResRefused), "")
	checkImage(t, "behind all", h, api.Image{Clock: 5, Quotas: []int{1}, Items: []api.Kept{kept(0, "k", "v", 0, 1)}})
}

// wantNew is what New is to tell.
func wantNew(n, pages int, quotas []int, now int) api.Errno {
	if n < 1 || n > maxShards || pages < 1 || pages > maxPages {
		return api.ErrArg
	}
	sum := 0
	for _, q := range quotas {
		if q < 0 || q > pages {
			return api.ErrQuota
		}
		sum += q
	}
	if len(quotas) < 1 || len(quotas) > maxTenants || sum > pages {
		return api.ErrQuota
	}
	if now < 0 || now > maxClock {
		return api.ErrArg
	}
	return api.OK
}

// wantLoad is what Load is to tell: what a shard can't have, the layer below tells.
func wantLoad(n, pages int, i api.Image) api.Errno {
	if f := wantNew(n, pages, i.Quotas, i.Clock); f != api.OK {
		return f
	}
	for _, k := range i.Items {
		if k.Tenant < 0 || k.Tenant >= maxTenants || k.Item.Key == "" || len(k.Item.Key) > maxKey {
			return api.ErrBad
		}
	}
	for shard := range n {
		if _, f := engine.Load(pages, imageAt(i, shard, n)); f != api.OK {
			return f
		}
	}
	return api.OK
}

// checkMade ends the test unless a house was made just where it may be, and is without items and tickets then.
func checkMade(t *testing.T, what any, h *shards.House, f, want api.Errno, empty api.Image, n int) {
	t.Helper()
	if f != want || (h == nil) != (want != api.OK) {
		t.Fatalf("%s: error %d, want %d", short(what), f, want)
	}
	if want != api.OK {
		return
	}
	checkImage(t, what, h, empty)
	checkWaiting(t, what, h, 0)
	checkReady(t, what, h)
	for shard := -1; shard <= n; shard++ {
		want := api.ErrNone
		if shard < 0 || shard == n {
			want = api.ErrArg
		}
		checkRefused(t, what, h, shard, want)
	}
}

// P13.1: shards, pages, quotas and moments at their edges, and which error stands first.
func TestNewAtTheEdges(t *testing.T) {
	quotas := [][]int{nil, {}, {0}, {1}, {2}, {3}, {16}, {17}, {1, 1}, {2, 1}, {0, 0, 0, 0}, {4, 4, 4, 4}, {4, 4, 4, 5}, {0, 0, 0, 0, 0}, {2, -1}, {-1}, {least}, {top}, {top, top}, {top, 1, least}, slices.Repeat([]int{0}, 1000)}
	for _, n := range []int{least, -1 << 32, -4, -1, 0, 1, 2, 3, 4, 5, 8, 1 << 32, 1<<32 + 1, top} {
		for _, pages := range []int{least, -1, 0, 1, 2, 15, 16, 17, 1 << 32, top} {
			for _, q := range quotas {
				for _, now := range []int{least, -1, 0, 1, maxClock - 1, maxClock, maxClock + 1, top} {
					what, want := []any{n, pages, q, now}, wantNew(n, pages, q, now)
					h, f := shards.New(n, pages, q, now)
					checkMade(t, what, h, f, want, api.Image{Clock: now, Quotas: q}, n)
					h, f = shards.Load(n, pages, api.Image{Clock: now, Quotas: q})
					checkMade(t, what, h, f, want, api.Image{Clock: now, Quotas: q}, n)
				}
			}
		}
	}
}

// P13.1: the errors that the limits name, one by one.
func TestNewIsRefused(t *testing.T) {
	for _, c := range []struct {
		n, pages int
		quotas   []int
		now      int
		want     api.Errno
	}{
		{0, 4, []int{4}, 0, api.ErrArg}, {1, 4, []int{4}, 0, api.OK}, {4, 4, []int{4}, 0, api.OK}, {5, 4, []int{4}, 0, api.ErrArg}, {-1, 4, []int{4}, 0, api.ErrArg},
		{2, 0, []int{0}, 0, api.ErrArg}, {2, 1, []int{1}, 0, api.OK}, {2, 16, []int{4, 4, 4, 4}, maxClock, api.OK}, {2, 17, []int{1}, 0, api.ErrArg},
		{2, 4, nil, 0, api.ErrQuota}, {2, 4, []int{1, 1, 1, 1, 0}, 0, api.ErrQuota}, {2, 4, []int{2, 3}, 0, api.ErrQuota}, {2, 4, []int{5, -1}, 0, api.ErrQuota},
		{2, 4, []int{4}, -1, api.ErrArg}, {2, 4, []int{4}, maxClock + 1, api.ErrArg},
		{0, 4, nil, 0, api.ErrArg}, {5, 4, []int{5}, 0, api.ErrArg}, {1, 0, nil, 0, api.ErrArg}, {4, 4, nil, -1, api.ErrQuota}, {4, 4, []int{5}, maxClock + 1, api.ErrQuota},
	} {
		if h, f := shards.New(c.n, c.pages, c.quotas, c.now); f != c.want || (h == nil) != (c.want != api.OK) {
			t.Errorf("New(%d, %d, %v, %d): error %d, want %d", c.n, c.pages, c.quotas, c.now, f, c.want)
		}
	}
}

// checkNil ends the test unless all methods tell that the house is none.
func checkNil(t *testing.T, what string, h *shards.House) {
	t.Helper()
	for _, x := range []api.Ticket{{}, get(0, "k"), set(0, "k", "v"), flush(0), clock(5), quota(0, 1), clock(-1)} {
		checkNotPut(t, h, x, api.ErrNil)
	}
	for _, shard := range []int{least, -1, 0, 1, 4, top} {
		checkRefused(t, what, h, shard, api.ErrNil)
	}
	if l, f := h.Ready(); f != api.ErrNil || len(l) != 0 {
		t.Fatalf("%s: Ready: %v, error %d", what, l, f)
	}
	if many, f := h.Waiting(); f != api.ErrNil || many != 0 {
		t.Fatalf("%s: Waiting: %d, error %d", what, many, f)
	}
	if i, f := h.Image(); f != api.ErrNil || !sameImage(i, api.Image{}) {
		t.Fatalf("%s: Image: %s, error %d", what, short(i), f)
	}
}

// P13.1: a house that is nil, or that neither New nor Load made; a copy of one was made by neither, and is not asked in its place.
func TestHousesThatNoCallMade(t *testing.T) {
	checkNil(t, "nil", nil)
	checkNil(t, "zero", &shards.House{})
	h := made(t, 2, 2, []int{2}, 0)
	comes(t, h, set(0, "k", "v"), only(api.ResDone), "+0k:1")
	copied := *h
	checkNil(t, "copy", &copied)
	*h = shards.House{}
	checkNil(t, "emptied", h)
	for _, c := range []struct {
		n, pages int
		i        api.Image
	}{{0, 1, api.Image{Quotas: []int{0}}}, {1, 0, api.Image{Quotas: []int{0}}}, {1, 1, api.Image{}}, {1, 1, api.Image{Quotas: []int{0}, Items: []api.Kept{kept(0, "k", "", 0, 1)}}}, {1, 1, api.Image{Quotas: []int{0}, Items: []api.Kept{kept(0, "", "", 0, 1)}}}} {
		h, _ := shards.Load(c.n, c.pages, c.i)
		checkNil(t, "refused", h)
	}
}

// wrongNames may be in no image, each by one thing.
func wrongNames() map[string]api.Kept {
	return map[string]api.Kept{
		"tenant 4":  kept(maxTenants, "b", "v", 0, 1),
		"below 0":   kept(-1, "b", "v", 0, 1),
		"far below": kept(least, "b", "v", 0, 1),
		"far above": kept(top, "b", "v", 0, 1),
		"256":       kept(256, "b", "v", 0, 1),
		"no key":    kept(0, "", "v", 0, 1),
		"long key":  kept(0, strings.Repeat("k", maxKey+1), "v", 0, 1),
		"much":      kept(0, strings.Repeat("k", 1<<16), "v", 0, 1),
		"both":      kept(9, "", "v", 0, 1),
	}
}

// P13.1: names that may not be stand ahead of all that a shard tells, wherever they are; quotas, clock and n ahead of them.
func TestLoadAsksForNamesFirst(t *testing.T) {
	well, full := kept(0, "k", "v", 0, 4), []api.Kept{kept(1, "f", "v", 0, 1), kept(1, "g", "v", 0, 1), kept(1, "h", "v", 0, 1), kept(1, "i", "v", 0, 1)}
	for what, k := range wrongNames() {
		for n := 1; n <= maxShards; n++ {
			for _, l := range [][]api.Kept{{k}, {well, k}, {k, well}, append(slices.Clone(full), k), append([]api.Kept{k}, full...), {well, well, k}} {
				i := api.Image{Clock: 10, Quotas: []int{3, 0}, Items: l}
				for _, c := range []struct {
					n, pages int
					quotas   []int
					now      int
					want     api.Errno
				}{
					{n, 4, i.Quotas, 10, api.ErrBad}, {0, 4, i.Quotas, 10, api.ErrArg}, {5, 4, i.Quotas, 10, api.ErrArg}, {n, 0, i.Quotas, 10, api.ErrArg}, {n, 17, i.Quotas, 10, api.ErrArg},
					{n, 4, nil, 10, api.ErrQuota}, {n, 4, []int{5}, -1, api.ErrQuota}, {n, 4, i.Quotas, -1, api.ErrArg}, {n, 4, i.Quotas, maxClock + 1, api.ErrArg},
				} {
					i.Quotas, i.Clock = c.quotas, c.now
					if h, f := shards.Load(c.n, c.pages, i); h != nil || f != c.want {
						t.Fatalf("%s: Load(%d, %d, %s): error %d, want %d", what, c.n, c.pages, short(i), f, c.want)
					}
				}
			}
		}
	}
}

// P13.1: what no shard can have is told shard by shard, and within one item by item.
func TestLoadShardByShard(t *testing.T) {
	bad := map[string]func(key string) api.Kept{
		"no quota":  func(key string) api.Kept { return kept(3, key, "v", 0, 1) },
		"value":     func(key string) api.Kept { return kept(0, key, strings.Repeat("v", 513), 0, 1) },
		"too large": func(key string) api.Kept { return kept(0, key, fill(key, maxItem+1), 0, 1) },
		"until -1":  func(key string) api.Kept { return kept(0, key, "v", -1, 1) },
		"beyond":    func(key string) api.Kept { return kept(0, key, "v", maxClock+1, 1) },
		"due":       func(key string) api.Kept { return kept(0, key, "v", 10, 1) },
	}
	at := func(tenant, shard, n int, of func(string) api.Kept) api.Kept { return of(keyAt(tenant, shard, n, 1)) }
	full := func(key string) api.Kept { return kept(1, key, "v", 0, 1) }
	for what, of := range bad {
		tenant := of("k").Tenant
		for n := 2; n <= maxShards; n++ {
			for first := range n - 1 {
				well := kept(0, keyAt(0, first, n, 0), "v", 0, 3)
				for _, c := range []struct {
					items []api.Kept
					want  api.Errno
				}{
					{[]api.Kept{well, at(tenant, n-1, n, of)}, api.ErrBad}, {[]api.Kept{well, at(1, n-1, n, full)}, api.ErrFull},
					{[]api.Kept{at(1, n-1, n, full), at(tenant, first, n, of), well}, api.ErrBad}, {[]api.Kept{at(tenant, n-1, n, of), well, at(1, first, n, full)}, api.ErrFull},
					{[]api.Kept{at(1, first, n, full), at(tenant, first, n, of), well}, api.ErrFull}, {[]api.Kept{at(tenant, first, n, of), well, at(1, first, n, full)}, api.ErrBad},
					{[]api.Kept{well, at(1, n-1, n, full), well}, api.ErrBad},
				} {
					i := api.Image{Clock: 10, Quotas: []int{3, 0}, Items: c.items}
					if h, f := shards.Load(n, 4, i); h != nil || f != c.want {
						t.Fatalf("%s, shard %d of %d: %s: error %d, want %d", what, first, n, short(i), f, c.want)
					}
				}
			}
		}
	}
}

// P13.1: edges at which an item may still be; the epoch, the number and whose it is count for nothing.
func TestLoadAtTheEdges(t *testing.T) {
	long := strings.Repeat("k", maxKey)
	items := []api.Kept{
		kept(0, "a", "", 0, 0), kept(0, "b", fill("b", maxItem), 11, all), kept(0, long, fill(long, maxItem), maxClock, 7), kept(1, "a", "x", 0, 7), kept(1, "\x00", "\xff", 11, 7),
		{Tenant: 3, Item: api.Item{Key: "f", Flags: 1<<32 - 1, Unique: 3}}, kept(3, "\xff", "", 0, 3),
	}
	for n := 1; n <= maxShards; n++ {
		for _, i := range []api.Image{{}, {Epoch: 1}, {Number: 1}, {Primary: true}, {Epoch: -1, Number: top, Primary: true}} {
			i.Clock, i.Quotas, i.Items = 10, []int{3, 1, 0, 1}, items
			w := loadTwin(t, n, 5, i)
			w.do(set(1, "n", "v"))
			w.do(clock(11))
			w.do(clock(maxClock - 1))
			w.do(clock(maxClock))
			w.do(get(0, "a", "b", long))
			if many := len(imageOf(w.h).Items); many != 5 {
				t.Fatal(many, short(imageOf(w.h)))
			}
		}
	}
}

// P13.1: images that may be, and such that may not, by any number of shards.
func TestLoadOfAnyImage(t *testing.T) {
	r := rand.New(rand.NewSource(131))
	wrong := wrongNames()
	names := []string{"tenant 4", "below 0", "no key", "long key"}
	told := map[api.Errno]int{}
	for range 3000 {
		i := api.Image{Clock: 5, Quotas: []int{2, 1, 1}}
		for range r.Intn(14) {
			k := kept(r.Intn(3), randomKey(r), randomValue(r), []int{0, 0, 9, 6, 5}[r.Intn(5)%(1+r.Intn(5))], uint64(r.Intn(9)))
			if r.Intn(80) == 0 {
				k = wrong[names[r.Intn(len(names))]]
			}
			i.Items = append(i.Items, k)
		}
		n := 1 + r.Intn(maxShards)
		want := wantLoad(n, 4, i)
		told[want]++
		if h, f := shards.Load(n, 4, i); f != want || (h == nil) != (want != api.OK) {
			t.Fatalf("Load(%d, 4, %s): error %d, want %d", n, short(i), f, want)
		}
		if want == api.OK {
			loadTwin(t, n, 4, i)
		}
	}
	if told[api.OK] < 300 || told[api.ErrBad] < 300 || told[api.ErrFull] < 100 {
		t.Error("too few of one kind:", told)
	}
}

// P13.1, P13.3: items of shard 0 stand first, then those of shard 1, and so on, each shard's in the order in which they were put last.
func TestImageIsShardByShard(t *testing.T) {
	for n := 1; n <= maxShards; n++ {
		w := newTwin(t, n, 16, []int{8, 8}, 7)
		var want []string
		for i := range 3 {
			for shard := n - 1; shard >= 0; shard-- {
				w.do(set(0, keyAt(0, shard, n, i), strconv.Itoa(i)))
				w.do(set(1, keyAt(1, shard, n, i), strconv.Itoa(i)))
			}
		}
		for shard := range n {
			w.do(incr(0, keyAt(0, shard, n, 0), 1))
			w.do(get(0, keyAt(0, shard, n, 1)))
			w.do(lasts(of(api.CmdTouch, set(1, keyAt(1, shard, n, 1), "")), 9))
			for _, i := range []int{10, 1, 2, 12, 0, 11} {
				want = append(want, strconv.Itoa(i/10)+keyAt(i/10, shard, n, i%10))
			}
		}
		i := imageOf(w.h)
		if i.Clock != 7 || !slices.Equal(i.Quotas, []int{8, 8}) || i.Epoch != 0 || i.Number != 0 || i.Primary || keysOf(i) != strings.Join(want, " ") {
			t.Fatalf("%d shards: %s, want %q", n, short(i), want)
		}
	}
}

// P13.1, P13.3: what a house has is loaded again: by as many shards the image is the same; by more or fewer it has the same items, each in its shard, those of one shard in the order of the image.
func TestLoadedAgain(t *testing.T) {
	r := rand.New(rand.NewSource(132))
	many := 0
	for round := range 60 {
		n := 1 + round%maxShards
		w := newTwin(t, n, 4, [][]int{{1, 1}, {2, 2}, {4}, {1, 1, 1, 1}}[r.Intn(4)], 3)
		for range 60 {
			w.do(randomTicket(r, w.m))
		}
		i := imageOf(w.h)
		again := loadTwin(t, n, 4, i)
		checkImage(t, "loaded by as many", again.h, i)
		for range 20 {
			again.randomTurn(r, 9)
		}
		for other := 1; other <= maxShards; other++ {
			want := i
			want.Items = slices.Clone(i.Items)
			slices.SortStableFunc(want.Items, func(a, b api.Kept) int {
				return homeOf(a.Tenant, a.Item.Key, other) - homeOf(b.Tenant, b.Item.Key, other)
			})
			if wantLoad(other, maxPages, widened(i)) == api.OK {
				checkImage(t, "loaded by others", loaded(t, other, maxPages, widened(i)), widened(want))
				many++
			}
		}
	}
	if many < 200 {
		t.Error("too few", many)
	}
}

// widened is an image with quotas that have, mostly, room for all of it in one shard.
func widened(i api.Image) api.Image {
	i.Quotas = slices.Repeat([]int{maxPages / len(i.Quotas)}, len(i.Quotas))
	return i
}

// P13.1: what fits in some shards may be too much for fewer; then nothing is left out, but all is refused.
func TestLoadByTooFew(t *testing.T) {
	w := newTwin(t, 4, 1, []int{1}, 0)
	for shard := range 4 {
		for i := range 3 {
			key := keyAt(0, shard, 4, i)
			w.do(set(0, key, fill(key, maxItem)))
		}
	}
	i := imageOf(w.h)
	if len(i.Items) != 4 {
		t.Fatal(short(i))
	}
	for n, want := range []api.Errno{api.ErrArg, api.ErrFull, api.ErrFull, api.ErrFull, api.OK, api.ErrArg} {
		if h, f := shards.Load(n, 1, i); f != want || (h == nil) != (want != api.OK) {
			t.Errorf("%d shards: error %d, want %d", n, f, want)
		}
	}
}

// P13.1: each shard goes on behind the greatest number of its own items.
func TestNumbersOfLoaded(t *testing.T) {
	for n := 1; n <= maxShards; n++ {
		i := api.Image{Quotas: []int{2}}
		last := make([]uint64, n)
		for at, unique := range []uint64{4, 90, 7, 12, 5, 300, 1, 8} {
			key := keyAt(0, at%n, n, at)
			i.Items = append(i.Items, kept(0, key, "v", 0, unique))
			last[at%n] = max(last[at%n], unique)
		}
		h := loaded(t, n, 2, i)
		for shard := range n {
			key := keyAt(0, shard, n, 20)
			comes(t, h, set(0, key, "v"), only(api.ResDone), "+0"+key+":"+strconv.FormatUint(last[shard]+1, 10))
		}
	}
}

// P13.1 to P13.3: anything at any time, held against the model.
func TestAnythingAtAnyTime(t *testing.T) {
	r := rand.New(rand.NewSource(13))
	for round := range 60 {
		w := randomTwin(t, r, 1+round%maxShards)
		for range 120 {
			w.randomTurn(r, 12)
		}
		w = loadTwin(t, len(w.m.shards), w.m.pages, imageOf(w.h))
		for range 60 {
			w.randomTurn(r, 30)
		}
		w.drain(r)
	}
}
