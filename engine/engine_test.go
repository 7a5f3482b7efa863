package engine_test

import (
	"math/rand"
	"slices"
	"strconv"
	"strings"
	"testing"

	"cloakroom/api"
	"cloakroom/engine"
)

// P11.1, P11.3: the chapter's examples.
func TestExamples(t *testing.T) {
	e := made(t, 2, []int{1, 1}, 0)
	comes(t, e, set(0, "k", "v"), only(api.ResDone), "+0k:1")
	comes(t, e, incr(0, "k", 1), only(api.ResNumber), "")
	comes(t, e, set(2, "k", "v"), only(api.ResRefused), "")
	comes(t, e, set(0, "a", strings.Repeat("v", 230)), only(api.ResMemory), "")
	want := api.Image{Quotas: []int{1, 1}, Items: []api.Kept{{Item: api.Item{Key: "k", Value: "v", Unique: 1}}}}
	checkImage(t, "behind all", e, want)
	checkSlab(t, "behind all", e, api.Slab{Pages: []api.Page{{Used: 1}, {}}})
}

// wantNew is what New is to tell.
func wantNew(pages int, quotas []int, now int) api.Errno {
	if pages < 1 || pages > 16 {
		return api.ErrArg
	}
	left := pages
	for _, q := range quotas {
		if q < 0 || q > left {
			return api.ErrQuota
		}
		left -= q
	}
	switch {
	case len(quotas) < 1 || len(quotas) > 4:
		return api.ErrQuota
	case now < 0 || now > maxClock:
		return api.ErrArg
	}
	return api.OK
}

// edgePages, edgeQuotas and edgeMoments are in and beside what a shard may have.
func edgePages() []int { return []int{least, -1, 0, 1, 2, 15, 16, 17, 18, 1 << 32, top} }

func edgeQuotas() [][]int {
	return [][]int{
		nil, {}, {0}, {1}, {2}, {3}, {16}, {17}, {-1}, {0, 0, 0, 0}, {0, 0, 0, 0, 0}, {1, 1}, {1, 1, 1}, {0, 1, 0, 1}, {4, 4, 4, 4}, {4, 4, 4, 5}, {5, 4, 4, 4}, {16, 0, 0, 0}, {0, 0, 0, 16}, {16, 1},
		{1, 0, 0, 0, 0}, {2, -1}, {-1, 2}, {0, 0, 0, -1}, {least}, {top}, {top, top}, {top, 1, least}, {1 << 32}, slices.Repeat([]int{0}, 1000),
	}
}

func edgeMoments() []int {
	return []int{least, -2, -1, 0, 1, 5, maxClock - 1, maxClock, maxClock + 1, maxClock + 2, top}
}

// P11.1: pages, quotas and moments at their edges, and which error stands first.
func TestNewAtTheEdges(t *testing.T) {
	for _, pages := range edgePages() {
		for _, quotas := range edgeQuotas() {
			for _, now := range edgeMoments() {
				want := wantNew(pages, quotas, now)
				e, f := engine.New(pages, quotas, now)
				if f != want || (e == nil) != (want != api.OK) {
					t.Fatalf("New(%d, %v, %d): error %d, want %d", pages, quotas, now, f, want)
				}
				l, f := engine.Load(pages, api.Image{Clock: now, Quotas: quotas})
				if f != want || (l == nil) != (want != api.OK) {
					t.Fatalf("Load(%d, %v, %d): error %d, want %d", pages, quotas, now, f, want)
				}
				if want != api.OK {
					continue
				}
				empty := newModel(pages, quotas, now)
				for _, e := range []*engine.Engine{e, l} {
					checkImage(t, quotas, e, empty.image())
					checkSlab(t, quotas, e, empty.slab())
				}
			}
		}
	}
}

// P11.1: the errors that the limits name, one by one.
func TestNewIsRefused(t *testing.T) {
	for _, c := range []struct {
		pages  int
		quotas []int
		now    int
		want   api.Errno
	}{
		{0, []int{0}, 0, api.ErrArg}, {1, []int{1}, 0, api.OK}, {16, []int{4, 4, 4, 4}, maxClock, api.OK}, {17, []int{1}, 0, api.ErrArg},
		{4, nil, 0, api.ErrQuota}, {4, []int{1, 1, 1, 1}, 0, api.OK}, {4, []int{1, 1, 1, 1, 0}, 0, api.ErrQuota}, {4, []int{2, 2}, 0, api.OK}, {4, []int{2, 3}, 0, api.ErrQuota}, {4, []int{5, -1}, 0, api.ErrQuota},
		{4, []int{4}, -1, api.ErrArg}, {4, []int{4}, maxClock + 1, api.ErrArg},
		{0, nil, -1, api.ErrArg}, {17, []int{18}, 0, api.ErrArg}, {4, nil, -1, api.ErrQuota}, {4, []int{5}, maxClock + 1, api.ErrQuota},
	} {
		if _, f := engine.New(c.pages, c.quotas, c.now); f != c.want {
			t.Errorf("New(%d, %v, %d): error %d, want %d", c.pages, c.quotas, c.now, f, c.want)
		}
	}
}

// checkNil ends the test unless all methods tell that the shard is none.
func checkNil(t *testing.T, what string, e *engine.Engine) {
	t.Helper()
	for _, c := range []api.Command{{}, get(0, "k"), set(0, "k", "v"), flush(0), set(4, "k", "v")} {
		if r, l, f := e.Do(c); f != api.ErrNil || !sameResult(r, api.Result{}) || len(l) != 0 {
			t.Fatalf("%s: Do(%s): %s, %s, error %d", what, short(c), short(r), short(l), f)
		}
	}
	for _, now := range []int{-1, 0, 5, maxClock, maxClock + 1} {
		if l, f := e.Tick(now); f != api.ErrNil || len(l) != 0 {
			t.Fatalf("%s: Tick(%d): %s, error %d", what, now, short(l), f)
		}
	}
	for _, tenant := range []int{-1, 0, 4} {
		if l, f := e.Quota(tenant, tenant); f != api.ErrNil || len(l) != 0 {
			t.Fatalf("%s: Quota(%d): %s, error %d", what, tenant, short(l), f)
		}
	}
	if i, f := e.Image(); f != api.ErrNil || !sameImage(i, api.Image{}) {
		t.Fatalf("%s: Image: %s, error %d", what, short(i), f)
	}
	if s, f := e.Slab(); f != api.ErrNil || len(s.Pages) != 0 {
		t.Fatalf("%s: Slab: %v, error %d", what, s, f)
	}
}

// P11.1: a shard that is nil, or that neither New nor Load made; a copy of one was made by neither, and is not asked in its place.
func TestShardsThatNoCallMade(t *testing.T) {
	checkNil(t, "nil", nil)
	checkNil(t, "zero", &engine.Engine{})
	e := made(t, 2, []int{2}, 0)
	comes(t, e, set(0, "k", "v"), only(api.ResDone), "+0k:1")
	copied := *e
	checkNil(t, "copy", &copied)
	comes(t, e, set(0, "k", "w"), only(api.ResDone), "+0k:2")
	for _, c := range []struct {
		pages int
		i     api.Image
	}{{0, api.Image{Quotas: []int{0}}}, {1, api.Image{}}, {1, api.Image{Quotas: []int{0}, Items: []api.Kept{{Item: api.Item{Key: "k"}}}}}} {
		e, _ := engine.Load(c.pages, c.i)
		checkNil(t, "refused", e)
	}
}

func kept(tenant int, key, value string, until int, unique uint64) api.Kept {
	return api.Kept{Tenant: tenant, Item: api.Item{Key: key, Value: value, Until: until, Unique: unique}}
}

// P11.2: items that are well, and those that are not, item by item: the first error is told.
func TestLoadItemByItem(t *testing.T) {
	well, large := kept(0, "k", "v", 0, 4), kept(0, "l", fill("l", maxItem), 0, 5)
	bad := map[string]api.Kept{
		"no quota":   kept(2, "b", "v", 0, 1),
		"tenant 4":   kept(4, "b", "v", 0, 1),
		"below 0":    kept(-1, "b", "v", 0, 1),
		"far below":  kept(least, "b", "v", 0, 1),
		"far above":  kept(top, "b", "v", 0, 1),
		"no key":     kept(0, "", "v", 0, 1),
		"long key":   kept(0, strings.Repeat("k", maxKey+1), "v", 0, 1),
		"long value": kept(0, "b", strings.Repeat("v", 513), 0, 1),
		"too large":  kept(0, "b", strings.Repeat("v", 248), 0, 1),
		"much":       kept(0, "b", strings.Repeat("v", 512), 0, 1),
		"until -1":   kept(0, "b", "v", -1, 1),
		"beyond":     kept(0, "b", "v", maxClock+1, 1),
		"due":        kept(0, "b", "v", 10, 1),
		"long due":   kept(0, "b", "v", 1, 1),
		"twice":      well,
		"its name":   kept(0, "k", "w", 20, 9),
	}
	fulls := kept(1, "f", "v", 0, 1)
	for what, k := range bad {
		for _, c := range []struct {
			items []api.Kept
			want  api.Errno
		}{
			{[]api.Kept{well, k}, api.ErrBad}, {[]api.Kept{well, large, k}, api.ErrBad}, {[]api.Kept{well, k, fulls}, api.ErrBad}, {[]api.Kept{well, fulls, k}, api.ErrFull}, {[]api.Kept{well, k, bad["due"], well}, api.ErrBad},
		} {
			e, f := engine.Load(4, api.Image{Clock: 10, Quotas: []int{3, 0}, Items: c.items})
			if e != nil || f != c.want {
				t.Errorf("%s: error %d, want %d", what, f, c.want)
			}
		}
	}
}

// P11.2: New's errors stand first, whatever the items are.
func TestLoadAsksForQuotasFirst(t *testing.T) {
	l := []api.Kept{kept(7, "", "", -1, 0)}
	for _, c := range []struct {
		pages int
		i     api.Image
		want  api.Errno
	}{
		{0, api.Image{Quotas: []int{1}, Items: l}, api.ErrArg}, {17, api.Image{Items: l}, api.ErrArg}, {2, api.Image{Items: l}, api.ErrQuota}, {2, api.Image{Clock: -1, Quotas: []int{3}, Items: l}, api.ErrQuota},
		{2, api.Image{Clock: -1, Quotas: []int{2}, Items: l}, api.ErrArg}, {2, api.Image{Clock: maxClock + 1, Quotas: []int{2}, Items: l}, api.ErrArg}, {2, api.Image{Quotas: []int{2}, Items: l}, api.ErrBad},
	} {
		if e, f := engine.Load(c.pages, c.i); e != nil || f != c.want {
			t.Errorf("Load(%d, %s): error %d, want %d", c.pages, short(c.i), f, c.want)
		}
	}
}

// P11.2: edges at which an item may still be.
func TestLoadAtTheEdges(t *testing.T) {
	long := strings.Repeat("k", maxKey)
	items := []api.Kept{
		kept(0, "a", "", 0, 0), kept(0, "b", fill("b", maxItem), 11, all-1), kept(0, long, fill(long, maxItem), maxClock, 7), kept(1, "a", "x", 0, 7), kept(1, "\x00", "\xff", 11, 7),
		{Tenant: 3, Item: api.Item{Key: "f", Flags: 1<<32 - 1, Unique: 3}},
	}
	i := api.Image{Clock: 10, Quotas: []int{3, 1, 0, 1}, Items: items, Epoch: 9, Number: -4, Primary: true}
	w := loadTwin(t, 5, i)
	w.do(set(1, "n", "v"))
	if l := w.m.items; l[len(l)-1].Item.Unique != all {
		t.Error("the last number is not the greatest one:", l)
	}
	w.tick(11)
	w.tick(maxClock - 1)
	w.tick(maxClock)
	checkImage(t, "at the end", w.e, api.Image{Clock: maxClock, Quotas: i.Quotas, Items: []api.Kept{items[0], items[3], items[5], kept(1, "n", "v", 0, all)}})
}

// P11.2: the epoch, the number and whose it is count for nothing, and are not the image's.
func TestLoadTakesNoMoreThanItNeeds(t *testing.T) {
	plain := api.Image{Clock: 3, Quotas: []int{1}, Items: []api.Kept{kept(0, "k", "v", 0, 2)}}
	for _, i := range []api.Image{{Epoch: 1}, {Number: 1}, {Primary: true}, {Epoch: -1, Number: top, Primary: true}} {
		i.Clock, i.Quotas, i.Items = plain.Clock, plain.Quotas, plain.Items
		checkImage(t, i, loaded(t, 1, i), plain)
	}
}

// P11.2: nothing is evicted: as many items as there are chunks, and one more.
func TestLoadFillsAllChunks(t *testing.T) {
	for class, many := range []int{16, 8, 4, 2, 1} {
		for _, quota := range []int{0, 1, 2, 16} {
			var l []api.Kept
			for n := range many*quota + 1 {
				key := "k" + strconv.Itoa(100+n)
				l = append(l, kept(1, key, fill(key, 16<<class), 0, uint64(n)))
			}
			i := api.Image{Quotas: []int{0, quota}, Items: l[:many*quota]}
			w := loadTwin(t, 16, i)
			checkImage(t, class, w.e, i)
			i.Items = l
			if e, f := engine.Load(16, i); e != nil || f != api.ErrFull {
				t.Fatalf("class %d, quota %d: one more item: error %d", class, quota, f)
			}
		}
	}
}

// P11.2: who was put first goes first; the chunks are those that are taken one behind the other.
func TestLoadedItemsGoInTheirOrder(t *testing.T) {
	v := strings.Repeat("v", 100)
	w := loadTwin(t, 3, api.Image{Quotas: []int{2, 1}, Items: []api.Kept{kept(0, "b", v, 0, 9), kept(1, "b", v, 0, 2), kept(0, "a", v, 0, 3), kept(0, "d", v, 0, 5), kept(0, "c", v, 0, 4)}})
	checkSlab(t, "loaded", w.e, api.Slab{Pages: []api.Page{{Class: 3, Used: 3}, {Tenant: 1, Class: 3, Used: 1}, {Class: 3, Used: 3}}})
	for i, victim := range []string{"b", "a", "d", "c"} {
		n := strconv.Itoa(10 + i)
		comes(t, w.e, set(0, "n"+n, v), only(api.ResDone), "!0"+victim+" +0n"+n+":"+n)
	}
}

// P11.2: the last number is the greatest one of the items, whatever their order; 0, if there are none.
func TestLastNumberOfLoaded(t *testing.T) {
	for _, c := range []struct {
		uniques []uint64
		want    uint64
	}{{nil, 1}, {[]uint64{0}, 1}, {[]uint64{1}, 2}, {[]uint64{3, 9, 4}, 10}, {[]uint64{9, 4, 9}, 10}, {[]uint64{1 << 40, 1<<40 - 1}, 1<<40 + 1}, {[]uint64{all - 1, 5}, all}} {
		i := api.Image{Quotas: []int{1}}
		for n, unique := range c.uniques {
			i.Items = append(i.Items, kept(0, strconv.Itoa(n), "v", 0, unique))
		}
		comes(t, loaded(t, 1, i), set(0, "n", "v"), only(api.ResDone), "+0n:"+strconv.FormatUint(c.want, 10))
	}
}

// P11.4: the image has items in the order in which they were put last, whatever else was done to them; the slab has its pages.
func TestImageAndSlab(t *testing.T) {
	w := newTwin(t, 3, []int{2, 1}, 7)
	for _, c := range []api.Command{set(0, "a", "1"), set(1, "b", "2"), set(0, "c", "3"), set(0, "b", fill("b", 200)), set(0, "a", "9"), get(0, "c", "b"), touch(1, "b", 3), incr(0, "c", 1), more(0, "b", "x"), of(api.CmdAdd, set(0, "a", "no")), del(0, "none"), set(1, "d", "d")} {
		w.do(c)
	}
	if l := keysOf(imageOf(w.e)); l != "0a 1b 0c 0b 1d" {
		t.Error(l)
	}
	checkSlab(t, "behind all", w.e, api.Slab{Pages: []api.Page{{Used: 3}, {Tenant: 1, Used: 3}, {Class: 4, Used: 1}}})
	w.do(flush(0))
	checkSlab(t, "flushed", w.e, api.Slab{Pages: []api.Page{{}, {Tenant: 1, Used: 3}, {}}})
	w.tick(10)
	if l := keysOf(imageOf(w.e)); l != "1d" {
		t.Error(l)
	}
}

// P11.1 to P11.4: anything at any time, held against the model.
func TestAnythingAtAnyTime(t *testing.T) {
	r := rand.New(rand.NewSource(11))
	for range 150 {
		w := randomTwin(t, r)
		for range 150 {
			w.randomStep(r)
		}
		w = loadTwin(t, len(w.m.pages), imageOf(w.e))
		for range 60 {
			w.randomStep(r)
		}
	}
}
