package shards_test

import (
	"cmp"
	"fmt"
	"math/rand"
	"slices"
	"testing"

	"cloakroom/api"
	"cloakroom/shards"
)

// roomy is a list with spare room behind it, in which something stands.
func roomy[T any](l []T, behind ...T) []T {
	return append(slices.Clone(l), behind...)[:len(l)]
}

// whole is a list with its spare room, as new memory.
func whole[T any](l []T) []T { return slices.Clone(l[:cap(l)]) }

// spoil changes each element of a list, and its spare room.
func spoil[T any](l []T, with T) {
	for i := range l[:cap(l)] {
		l[:cap(l)][i] = with
	}
}

// P13.4: quotas are only read, and not kept, their spare room neither; nor do the shards have them in common.
func TestQuotasAreNotKept(t *testing.T) {
	for n := 1; n <= maxShards; n++ {
		quotas := roomy([]int{1, 1}, 5, 6)
		was := whole(quotas)
		w, other := newTwin(t, n, 4, quotas, 0), newTwin(t, n, 4, quotas, 0)
		w.do(set(2, "k", "v"))
		other.do(quota(1, 3))
		if !slices.Equal(whole(quotas), was) {
			t.Error(whole(quotas))
		}
		spoil(quotas, 16)
		for _, w := range []*twin{w, other} {
			w.check("spoilt")
			w.do(set(0, "a", fill("a", 200)))
			w.do(set(0, "b", fill("b", 200)))
			w.do(quota(1, 2))
			w.do(quota(0, 0))
		}
	}
}

// P13.4: an image is only read, and not kept, also where it is refused.
func TestImagesAreNotKept(t *testing.T) {
	for n := 1; n <= maxShards; n++ {
		i := api.Image{Clock: 3, Quotas: roomy([]int{2, 1}, 9)}
		for at := range 10 {
			i.Items = append(i.Items, kept(at%2, string([]byte{'a' + byte(at)}), "1", 9*(at%3), uint64(at)))
		}
		i.Items = roomy(i.Items, kept(0, "spare", "4", 0, 8), kept(0, "", "", 0, 8))
		quotas, items := whole(i.Quotas), whole(i.Items)
		w, other := loadTwin(t, n, 3, i), loadTwin(t, n, 3, i)
		for _, x := range []api.Ticket{set(0, "c", fill("c", 100)), incr(0, "a", 1), get(0, "a", "spare"), del(0, "e", "g"), quota(1, 0)} {
			w.do(x)
		}
		wrong := api.Image{Quotas: i.Quotas, Items: i.Items[:11]}
		if _, f := shards.Load(n, 3, wrong); f != api.OK {
			t.Error(f)
		}
		wrong.Items = i.Items[:12]
		if _, f := shards.Load(n, 3, wrong); f != api.ErrBad {
			t.Error(f)
		}
		if !slices.Equal(whole(i.Quotas), quotas) || !slices.Equal(whole(i.Items), items) {
			t.Error(short(i))
		}
		spoil(i.Quotas, 16)
		spoil(i.Items, kept(1, "spoilt", "x", 1, 99))
		for _, w := range []*twin{w, other} {
			w.check("spoilt")
			w.do(get(0, "a", "b", "c", "spoilt"))
			w.do(clock(10))
		}
	}
}

// P13.4: a ticket is only read, and not kept: its keys may be changed while it waits.
func TestTicketsAreNotKept(t *testing.T) {
	r := rand.New(rand.NewSource(136))
	for round := range 40 {
		w := randomTwin(t, r, 1+round%maxShards)
		for range 80 {
			x := randomTicket(r, w.m)
			x.Command.Keys = roomy(x.Command.Keys, "spare", "room")
			was := whole(x.Command.Keys)
			w.put(x)
			if !slices.Equal(whole(x.Command.Keys), was) {
				t.Fatalf("%s: keys were %q", short(x), was)
			}
			spoil(x.Command.Keys, "spoilt")
			w.checkWaits("spoilt")
			for len(w.m.line) > r.Intn(8) {
				l := w.m.ready()
				w.step(l[r.Intn(len(l))])
			}
		}
		wrong := get(0, "a", "a")
		wrong.Command.Keys = roomy(wrong.Command.Keys, "spare")
		was := whole(wrong.Command.Keys)
		checkNotPut(t, w.h, wrong, api.ErrBad)
		if !slices.Equal(whole(wrong.Command.Keys), was) {
			t.Fatalf("%q, were %q", whole(wrong.Command.Keys), was)
		}
		w.drain(r)
	}
}

// P13.4: what is answered is new memory: changing it changes nothing of the house, nor of what it answers else, then or later.
func TestAnswersAreNewMemory(t *testing.T) {
	r := rand.New(rand.NewSource(137))
	wrong, spoilt := api.Change{Kind: 99, Key: "spoilt"}, kept(3, "spoilt", "x", 1, 99)
	for round := range 40 {
		w := randomTwin(t, r, 1+round%maxShards)
		for range 60 {
			for range r.Intn(4) {
				w.put(randomTicket(r, w.m))
			}
			i, again := imageOf(w.h), imageOf(w.h)
			ready, _ := w.h.Ready()
			wasI, wasReady := w.m.image(), w.m.ready()
			if len(ready) == 0 {
				continue
			}
			_, x, l := w.step(ready[r.Intn(len(ready))])
			wasX, wasL := slices.Clone(x.Items), slices.Clone(l)
			next, _ := w.h.Ready()
			if len(next) > 0 {
				_, x, l := w.step(next[0])
				spoil(x.Items, spoilt.Item)
				spoil(l, wrong)
			}
			if !sameImage(i, wasI) || !slices.Equal(ready, wasReady) || !slices.Equal(x.Items, wasX) || !slices.Equal(l, wasL) {
				t.Fatal("an earlier answer changed")
			}
			spoil(i.Quotas, 16)
			spoil(i.Items, spoilt)
			spoil(ready, 99)
			spoil(next, 99)
			spoil(l, wrong)
			spoil(x.Items, spoilt.Item)
			if w.check("spoilt"); !sameImage(again, wasI) {
				t.Fatal("two images share memory")
			}
		}
		w.drain(r)
	}
}

// P13.4, R2: what is answered hangs on the house's own calls alone, whatever other houses do meanwhile.
func TestHousesAreApart(t *testing.T) {
	r := rand.New(rand.NewSource(138))
	for n := 1; n <= maxShards; n++ {
		a, b := randomTwin(t, r, n), randomTwin(t, r, n)
		c := loadTwin(t, n, a.m.pages, imageOf(a.h))
		for range 120 {
			[]*twin{a, b, c}[r.Intn(3)].randomTurn(r, 9)
			for _, w := range []*twin{a, b, c} {
				w.check("meanwhile")
			}
		}
	}
}

// deed is what a ticket came to.
type deed struct {
	number  int
	result  api.Result
	changes []api.Change
}

// run is a house under way: the tickets that were put, by their numbers, and what was done, in order; of each of these how many had been put by then.
type run struct {
	h     *shards.House
	put   []api.Ticket
	deeds []deed
	by    []int
}

func (w *run) puts(t *testing.T, x api.Ticket) {
	t.Helper()
	if number, f := w.h.Put(x); f != api.OK || number != len(w.put) {
		t.Fatalf("Put(%s): %d, error %d", short(x), number, f)
	}
	w.put = append(w.put, x)
}

func (w *run) steps(t *testing.T, shard int) {
	t.Helper()
	number, r, l, f := w.h.Step(shard)
	if f != api.OK || number >= len(w.put) {
		t.Fatalf("Step(%d): %d, error %d", shard, number, f)
	}
	w.deeds = append(w.deeds, deed{number, r, l})
	w.by = append(w.by, len(w.put))
}

// checkOrder ends the test unless each ticket was done once; of two that need one shard the one that was put first is done first; what was done ahead of another one's being put is done ahead of it.
func (w *run) checkOrder(t *testing.T, n int) {
	t.Helper()
	at := map[int]int{}
	for i, d := range w.deeds {
		if _, twice := at[d.number]; twice || d.number >= w.by[i] {
			t.Fatalf("done were %v", w.deeds)
		}
		at[d.number] = i
	}
	for b := range w.put {
		for a := range b {
			if at[a] > at[b] && meet(w.put[a], w.put[b], n) || w.by[at[a]] <= b && at[a] > at[b] {
				t.Fatalf("%s is done ahead of %s", short(w.put[b]), short(w.put[a]))
			}
		}
	}
	if len(at) != len(w.put) {
		t.Fatalf("%d of %d were done", len(at), len(w.put))
	}
}

// checkOneByOne ends the test unless a house that does the same tickets one at a time, in the order in which they were done, comes to the same results, changes and image.
func (w *run) checkOneByOne(t *testing.T, one *shards.House) {
	t.Helper()
	for i, d := range w.deeds {
		x := w.put[d.number]
		number, f := one.Put(x)
		ready, _ := one.Ready()
		if f != api.OK || number != i || len(ready) == 0 {
			t.Fatalf("Put(%s): %d, error %d, ready are %v", short(x), number, f, ready)
		}
		number, r, l, f := one.Step(ready[i%len(ready)])
		if f != api.OK || number != i || !sameResult(r, d.result) || !slices.Equal(l, d.changes) {
			t.Fatalf("%s came to %s, %s, but one at a time to %s, %s", short(x), short(d.result), told(d.changes), short(r), told(l))
		}
	}
	checkImage(t, "one at a time", one, imageOf(w.h))
}

// P13.5, W1: long runs of any schedule.
func TestWhateverSchedule(t *testing.T) {
	turned := 0
	for seed := range int64(60) {
		r := rand.New(rand.NewSource(seed))
		n, pages := 1+int(seed)%maxShards, 1+r.Intn(5)
		quotas := randomQuotas(r, pages)
		w, m := &run{h: made(t, n, pages, quotas, 4)}, &model{pages: pages, now: 4, quotas: quotas}
		for len(w.deeds) < 120 {
			ready, _ := w.h.Ready()
			if len(w.put) < 120 && (len(ready) == 0 || r.Intn(100) < 55) {
				w.puts(t, randomTicket(r, m))
				m.now += r.Intn(10) / 9
				continue
			}
			w.steps(t, ready[r.Intn(len(ready))])
		}
		w.checkOrder(t, n)
		w.checkOneByOne(t, made(t, n, pages, quotas, 4))
		if !slices.IsSortedFunc(w.deeds, func(a, b deed) int { return cmp.Compare(a.number, b.number) }) {
			turned++
		}
	}
	if turned < 30 {
		t.Error("nearly all were done as they were put:", turned)
	}
}

// everyWay goes on in each way: the next put, if there is one, or a step of any shard that is ready. A house can't be gone on from twice: so each way is done from the start, by the turns that it took, -1 being a put. It tells how many ways there are.
func everyWay(t *testing.T, n int, l []api.Ticket, turns []int) int {
	t.Helper()
	w := &run{h: made(t, n, 2, []int{1, 1}, 3)}
	if len(turns) > 2*len(l) {
		t.Fatalf("%v, and there is no end of %s", turns, short(l))
	}
	for _, turn := range turns {
		if turn < 0 {
			w.puts(t, l[len(w.put)])
		} else {
			w.steps(t, turn)
		}
	}
	ready, _ := w.h.Ready()
	if len(ready) == 0 && len(w.put) == len(l) {
		w.checkOrder(t, n)
		w.checkOneByOne(t, made(t, n, 2, []int{1, 1}, 3))
		return 1
	}
	ways := 0
	if len(w.put) < len(l) {
		ways += everyWay(t, n, l, append(slices.Clone(turns), -1))
	}
	for _, shard := range ready {
		ways += everyWay(t, n, l, append(slices.Clone(turns), shard))
	}
	return ways
}

// P13.5, P13.6, W1, W2: all ways in which a few tickets may be put and done.
func TestEveryWay(t *testing.T) {
	k := keysAt(2, 0, 1)
	ways := 0
	for _, l := range [][]api.Ticket{
		{set(0, k[0], "1"), set(0, k[1], "2"), get(0, k[1], k[0]), clock(9)},
		{lasts(set(0, k[0], "1"), 2), clock(4), lasts(set(0, k[1], "2"), 2), get(0, k[0], k[1])},
		{set(0, k[0], "5"), incr(0, k[0], 2), incr(0, k[1], 2), del(0, k[1], k[0])},
		{set(0, k[0], fill(k[0], 100)), flush(0), set(0, k[1], fill(k[1], 200)), set(0, k[0], "v")},
		{set(0, k[1], "1"), quota(0, 0), set(0, k[1], "2"), set(0, k[0], "1")},
		{quota(0, 3), quota(1, 0), quota(0, 2), set(1, k[0], "v")},
	} {
		ways += everyWay(t, 2, l, nil)
	}
	if ways < 300 {
		t.Error("too few", ways)
	}
}

// P13.6, W2: as long as a ticket waits, a shard is ready, and can go on; where none waits, none is.
func TestSomebodyIsReady(t *testing.T) {
	r := rand.New(rand.NewSource(139))
	for round := range 120 {
		n := 1 + round%maxShards
		m := &model{pages: 4, quotas: []int{2, 2}}
		h := made(t, n, 4, m.quotas, 0)
		many := 1 + r.Intn(20)
		for range many {
			if _, f := h.Put(randomTicket(r, m)); f != api.OK {
				t.Fatal(f)
			}
		}
		for left := many; left > 0; left-- {
			checkWaiting(t, "draining", h, left)
			ready, f := h.Ready()
			if f != api.OK || len(ready) == 0 {
				t.Fatalf("%d tickets wait, and %v are ready, error %d", left, ready, f)
			}
			if _, _, _, f := h.Step(ready[r.Intn(len(ready))]); f != api.OK {
				t.Fatal(f)
			}
		}
		checkWaiting(t, "drained", h, 0)
		checkReady(t, "drained", h)
	}
}

// P13.7, W6: whenever nothing waits, each shard has the house's clock and quotas: what is put lasts by the one, and finds pages by the others.
func TestOneClockAndTheSameQuotas(t *testing.T) {
	r := rand.New(rand.NewSource(140))
	for round := range 60 {
		n := 1 + round%maxShards
		w := newTwin(t, n, 4, []int{2, 1}, 5)
		for range 30 {
			w.randomTurn(r, 9)
		}
		w.drain(r)
		w.do(flush(0))
		i := imageOf(w.h)
		for shard := range n {
			for at := range i.Quotas[0] + 1 {
				key := keyAt(0, shard, n, at)
				x, l := w.do(lasts(set(0, key, fill(key, maxItem)), 7))
				switch many := len(l); {
				case i.Quotas[0] == 0:
					if x.Kind != api.ResMemory || many != 0 {
						t.Fatalf("shard %d of %d, quotas %v: %s, %s", shard, n, i.Quotas, short(x), told(l))
					}
				case x.Kind != api.ResDone || l[many-1].Item.Until != i.Clock+7 || (many == 2) != (at == i.Quotas[0]):
					t.Fatalf("shard %d of %d, quotas %v, clock %d: %s, %s", shard, n, i.Quotas, i.Clock, short(x), short(l))
				}
			}
		}
	}
}

// likeOne is what a result tells that hangs on no shard's numbers.
func likeOne(r api.Result) string {
	items := slices.Clone(r.Items)
	for i := range items {
		items[i].Unique = 0
	}
	return fmt.Sprint(r.Kind, r.Number, items)
}

// names are an image's items by their names, without the numbers of their shards.
func names(i api.Image) []api.Kept {
	l := slices.Clone(i.Items)
	for at := range l {
		l[at].Item.Unique = 0
	}
	slices.SortFunc(l, func(a, b api.Kept) int {
		return cmp.Or(cmp.Compare(a.Tenant, b.Tenant), cmp.Compare(a.Item.Key, b.Item.Key))
	})
	return l
}

// P13.5, W1: all of it is as if one did it all: as long as there is room, a house of several shards answers what a house of one would.
func TestAsIfOneDidItAll(t *testing.T) {
	for seed := range int64(30) {
		r := rand.New(rand.NewSource(seed))
		n := 2 + int(seed)%(maxShards-1)
		m := &model{pages: maxPages, quotas: []int{8, 8}}
		w := &run{h: made(t, n, maxPages, m.quotas, 0)}
		one := made(t, 1, maxPages, m.quotas, 0)
		for len(w.deeds) < 80 {
			ready, _ := w.h.Ready()
			if x := randomTicket(r, m); len(w.put) < 80 && (len(ready) == 0 || r.Intn(2) == 0) {
				// Numbers of items are each shard's own, and these values are so short that a page has room for 16.
				if x.Command.Kind != api.CmdCas && x.Command.Kind != api.CmdAppend && x.Command.By>>9 == 0 && x.Kind != api.TickQuota {
					x.Command.Value = x.Command.Value[:min(len(x.Command.Value), 4)]
					w.puts(t, x)
				}
				m.now += r.Intn(10) / 9
				continue
			}
			w.steps(t, ready[r.Intn(len(ready))])
		}
		for _, d := range w.deeds {
			x := w.put[d.number]
			one.Put(x)
			_, alone, l, f := one.Step(0)
			if f != api.OK || likeOne(alone) != likeOne(d.result) || len(l) != len(d.changes) {
				t.Fatalf("%s: %s, %s, by one shard %s, %s", short(x), short(d.result), told(d.changes), short(alone), told(l))
			}
		}
		if got, want := imageOf(w.h), imageOf(one); got.Clock != want.Clock || !slices.Equal(got.Quotas, want.Quotas) || !slices.Equal(names(got), names(want)) {
			t.Fatalf("%s, by one shard %s", short(got), short(want))
		}
	}
}

// apply does changes to an image, as chapter 21 says.
func apply(i *api.Image, l []api.Change) {
	without := func(is func(api.Kept) bool) { i.Items = slices.DeleteFunc(slices.Clone(i.Items), is) }
	for _, c := range l {
		named := func(k api.Kept) bool { return k.Tenant == c.Tenant && k.Item.Key == c.Key+c.Item.Key }
		due := func(k api.Kept) bool { return k.Item.Until != 0 && k.Item.Until <= i.Clock }
		switch c.Kind {
		case api.ChPut:
			without(named)
			i.Items = append(i.Items, api.Kept{Tenant: c.Tenant, Item: c.Item})
		case api.ChDrop:
			without(named)
		case api.ChClear:
			without(func(k api.Kept) bool { return k.Tenant == c.Tenant })
		case api.ChClock:
			i.Clock = c.To
			without(due)
		case api.ChQuota:
			i.Quotas = slices.Clone(i.Quotas)
			i.Quotas[c.Tenant] = c.To
		}
	}
}

// P13.3, P13.5: the changes, one behind the other, make the image, but that the items of one shard stand together there.
func TestChangesMakeTheImage(t *testing.T) {
	r := rand.New(rand.NewSource(141))
	for round := range 60 {
		n := 1 + round%maxShards
		w := randomTwin(t, r, n)
		i := imageOf(w.h)
		for range 60 {
			w.put(randomTicket(r, w.m))
			for len(w.m.line) > r.Intn(6) {
				l := w.m.ready()
				_, _, changes := w.step(l[r.Intn(len(l))])
				apply(&i, changes)
			}
			want := i
			want.Items = slices.Clone(i.Items)
			slices.SortStableFunc(want.Items, func(a, b api.Kept) int {
				return homeOf(a.Tenant, a.Item.Key, n) - homeOf(b.Tenant, b.Item.Key, n)
			})
			checkImage(t, "by changes", w.h, want)
		}
	}
}

// FuzzShards looks for turns by which a house comes to something else than one line of tickets and shards that are asked key by key tell.
func FuzzShards(f *testing.F) {
	f.Add(int64(1), 2, 2, 1, 1, 0, 40)
	f.Add(int64(2), 4, 16, 4, 4, 1<<40-20, 90)
	f.Add(int64(3), 1, 1, 0, 1, 5, 20)
	f.Add(int64(4), 3, 3, 3, 0, 5, 200)
	f.Fuzz(func(t *testing.T, seed int64, n, pages, first, second, now, turns int) {
		quotas := []int{first, second}
		h, errno := shards.New(n, pages, quotas, now)
		if want := wantNew(n, pages, quotas, now); errno != want || (h == nil) != (want != api.OK) {
			t.Fatalf("New(%d, %d, %v, %d): error %d, want %d", n, pages, quotas, now, errno, want)
		}
		if errno != api.OK {
			return
		}
		r := rand.New(rand.NewSource(seed))
		w := &twin{t, h, loadModel(t, n, pages, api.Image{Clock: now, Quotas: quotas})}
		for range turns & 255 {
			w.randomTurn(r, 20)
		}
		w.drain(r)
		i := imageOf(h)
		checkImage(t, "loaded", loaded(t, n, pages, i), i)
	})
}
