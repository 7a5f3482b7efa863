package engine_test

import (
	"fmt"
	"math/rand"
	"slices"
	"strconv"
	"strings"
	"testing"

	"cloakroom/api"
	"cloakroom/engine"
)

// roomy is a list with spare room behind it, in which something stands.
func roomy[T any](l []T, behind ...T) []T {
	return append(slices.Clone(l), behind...)[:len(l)]
}

// whole is a list with its spare room, as new memory.
func whole[T any](l []T) []T { return slices.Clone(l[:cap(l)]) }

// spoil changes each element of a list, and its spare room.
func spoil[T any](l []T, with T) {
	for i := range l[:cap(l)] {
		l[:cap(l)][i] = with
	}
}

// P11.5: quotas are only read, and not kept, their spare room neither.
func TestQuotasAreNotKept(t *testing.T) {
	quotas := roomy([]int{1, 1}, 5, 6)
	was := whole(quotas)
	w, other := newTwin(t, 4, quotas, 0), newTwin(t, 4, quotas, 0)
	w.do(set(2, "k", "v"))
	other.quota(1, 3)
	if !slices.Equal(whole(quotas), was) {
		t.Error(whole(quotas))
	}
	spoil(quotas, 16)
	for _, w := range []*twin{w, other} {
		w.check("spoilt")
		w.do(set(0, "a", fill("a", 200)))
		w.do(set(0, "b", fill("b", 200)))
		w.quota(1, 2)
		w.quota(0, 0)
	}
}

// P11.5: an image is only read, and not kept.
func TestImagesAreNotKept(t *testing.T) {
	i := api.Image{Clock: 3, Quotas: roomy([]int{2, 1}, 9), Items: roomy([]api.Kept{kept(0, "a", "1", 9, 4), kept(1, "a", "2", 0, 2), kept(0, "b", "3", 0, 3)}, kept(0, "c", "4", 0, 8))}
	quotas, items := whole(i.Quotas), whole(i.Items)
	w, other := loadTwin(t, 3, i), loadTwin(t, 3, i)
	w.do(set(0, "b", fill("b", 100)))
	w.do(incr(0, "a", 1))
	w.do(get(0, "c"))
	w.quota(1, 0)
	if !slices.Equal(whole(i.Quotas), quotas) || !slices.Equal(whole(i.Items), items) {
		t.Error(short(i))
	}
	spoil(i.Quotas, 16)
	spoil(i.Items, kept(1, "spoilt", "x", 1, 99))
	for _, w := range []*twin{w, other} {
		w.check("spoilt")
		w.do(get(0, "a", "b", "spoilt"))
		w.tick(10)
	}
	if _, f := engine.Load(0, i); f != api.ErrArg || i.Items[0] != kept(1, "spoilt", "x", 1, 99) {
		t.Error("a refused image changed")
	}
}

// P11.5: a command is only read, and its keys are not kept.
func TestCommandsAreNotKept(t *testing.T) {
	r := rand.New(rand.NewSource(116))
	for range 20 {
		w := randomTwin(t, r)
		for range 100 {
			c := randomCommand(r, w.m)
			c.Keys = roomy(c.Keys, "spare", "room")
			was := whole(c.Keys)
			w.do(c)
			if !slices.Equal(whole(c.Keys), was) {
				t.Fatalf("%s: keys were %q", short(c), was)
			}
			spoil(c.Keys, "spoilt")
			w.check("spoilt")
		}
	}
}

// P11.5: what is answered is new memory: changing it changes nothing of the shard, nor of what it answers else, then or later.
func TestAnswersAreNewMemory(t *testing.T) {
	r := rand.New(rand.NewSource(117))
	wrong, spoilt := api.Change{Kind: 99, Key: "spoilt"}, kept(3, "spoilt", "x", 1, 99)
	for range 20 {
		w := randomTwin(t, r)
		for range 100 {
			i, s := imageOf(w.e), slabOf(w.e)
			wasI, wasS := w.m.image(), w.m.slab()
			x, l := w.do(randomCommand(r, w.m))
			wasL, wasX := slices.Clone(l), slices.Clone(x.Items)
			tenant := r.Intn(len(w.m.quotas))
			moved := w.quota(tenant, r.Intn(w.m.quotas[tenant]+1))
			wasMoved := slices.Clone(moved)
			gone, _ := w.e.Tick(w.m.now)
			if !sameImage(i, wasI) || !slices.Equal(s.Pages, wasS.Pages) || !slices.Equal(l, wasL) || !slices.Equal(x.Items, wasX) {
				t.Fatal("an earlier answer changed")
			}
			spoil(i.Quotas, 16)
			spoil(i.Items, spoilt)
			spoil(s.Pages, api.Page{Tenant: 3, Class: 4, Used: 1})
			spoil(x.Items, spoilt.Item)
			spoil(gone, wrong)
			spoil(l, wrong)
			w.check("spoilt")
			if !slices.Equal(moved, wasMoved) {
				t.Fatal("an answer shares memory with another one")
			}
			spoil(moved, wrong)
			w.check("spoilt")
			i, s = imageOf(w.e), slabOf(w.e)
			spoil(i.Items, spoilt)
			spoil(i.Quotas, -1)
			spoil(s.Pages, api.Page{Tenant: 9})
			w.check("spoilt")
			if r.Intn(10) == 0 {
				w.quota(tenant, w.m.quotas[tenant]+free(w.m))
			}
		}
	}
}

// free is how many pages are in nobody's quota.
func free(m *model) int {
	left := len(m.pages)
	for _, q := range m.quotas {
		left -= q
	}
	return left
}

// P11.5, R2: what is answered hangs on the shard's own calls alone, whatever other shards do meanwhile.
func TestShardsAreApart(t *testing.T) {
	r := rand.New(rand.NewSource(118))
	a, b := randomTwin(t, r), randomTwin(t, r)
	c := loadTwin(t, len(a.m.pages), imageOf(a.e))
	for range 300 {
		[]*twin{a, b, c}[r.Intn(3)].randomStep(r)
		for _, w := range []*twin{a, b, c} {
			w.check("meanwhile")
		}
	}
}

// apply does changes to an image, as chapter 21 says.
func apply(i *api.Image, l []api.Change) {
	without := func(is func(api.Kept) bool) { i.Items = slices.DeleteFunc(slices.Clone(i.Items), is) }
	for _, c := range l {
		named := func(k api.Kept) bool { return k.Tenant == c.Tenant && k.Item.Key == c.Key+c.Item.Key }
		due := func(k api.Kept) bool { return k.Item.Until != 0 && k.Item.Until <= i.Clock }
		switch c.Kind {
		case api.ChPut:
			without(named)
			i.Items = append(i.Items, api.Kept{Tenant: c.Tenant, Item: c.Item})
			without(due)
		case api.ChDrop:
			without(named)
		case api.ChClear:
			without(func(k api.Kept) bool { return k.Tenant == c.Tenant })
		case api.ChClock:
			i.Clock = c.To
			without(due)
		case api.ChQuota:
			i.Quotas = slices.Clone(i.Quotas)
			i.Quotas[c.Tenant] = c.To
		}
	}
}

// checkGets ends the test unless a get of each key answers what the image has. The orders change by it.
func checkGets(w *twin, i api.Image) {
	w.t.Helper()
	for tenant := range w.m.quotas {
		for key := range 20 {
			text := string([]byte{'a' + byte(key)})
			if text > "p" {
				text = strings.Repeat(text, 7)
			}
			var want []api.Item
			for _, k := range i.Items {
				if k.Tenant == tenant && k.Item.Key == text {
					want = append(want, k.Item)
				}
			}
			if r, _ := w.do(get(tenant, text)); !slices.Equal(r.Items, want) {
				w.t.Fatalf("get %d %s: %s, the image has %s", tenant, text, short(r), short(want))
			}
		}
	}
}

// P11.6, W3: the changes of all that was done make the image; what a get answers is what the image has.
func TestChangesMakeTheImage(t *testing.T) {
	r := rand.New(rand.NewSource(119))
	for range 60 {
		w := randomTwin(t, r)
		i := imageOf(w.e)
		for range 100 {
			apply(&i, w.randomStep(r))
			checkImage(t, "by changes", w.e, i)
		}
		checkGets(w, i)
		checkImage(t, "behind gets", w.e, i)
	}
}

// house is a map of names, as P11.7 has it: it has room for all.
type house struct {
	now, tenants int
	items        map[api.Name]api.Item
	last         uint64
}

func (h *house) put(n api.Name, x api.Item) api.Result {
	if 8+len(x.Key)+len(x.Value) > 256 {
		return api.Result{Kind: api.ResLarge}
	}
	h.last++
	x.Unique = h.last
	h.items[n] = x
	return api.Result{Kind: api.ResDone}
}

func (h *house) do(c api.Command) api.Result {
	r := api.Result{Kind: api.ResDone}
	if c.Tenant >= h.tenants {
		return api.Result{Kind: api.ResRefused}
	}
	for _, key := range c.Keys {
		n := api.Name{Tenant: c.Tenant, Key: key}
		x, is := h.items[n]
		switch {
		case c.Kind == api.CmdGet && is:
			r.Items = append(r.Items, x)
		case c.Kind == api.CmdDelete && is:
			delete(h.items, n)
			r.Number++
		case c.Kind != api.CmdGet && c.Kind != api.CmdDelete:
			return h.one(c, n, x, is)
		}
	}
	for n := range h.items {
		if c.Kind == api.CmdFlush && n.Tenant == c.Tenant {
			delete(h.items, n)
		}
	}
	if c.Kind == api.CmdDelete && r.Number == 0 {
		r.Kind = api.ResNone
	}
	return r
}

func (h *house) one(c api.Command, n api.Name, x api.Item, is bool) api.Result {
	new := api.Item{Key: n.Key, Value: c.Value, Flags: c.Flags}
	until := 0
	if c.For > 0 && h.now+c.For <= maxClock {
		until = h.now + c.For
	}
	new.Until = until
	switch {
	case c.Kind == api.CmdSet, c.Kind == api.CmdAdd && !is:
		return h.put(n, new)
	case c.Kind == api.CmdAdd:
		return api.Result{Kind: api.ResThere}
	case !is:
		return api.Result{Kind: api.ResNone}
	case c.Kind == api.CmdReplace, c.Kind == api.CmdCas && c.Unique == x.Unique:
		return h.put(n, new)
	case c.Kind == api.CmdCas:
		return api.Result{Kind: api.ResThere}
	case c.Kind == api.CmdAppend:
		x.Value += c.Value
		return h.put(n, x)
	case c.Kind == api.CmdTouch:
		x.Until = until
		h.items[n] = x
		return api.Result{Kind: api.ResDone}
	}
	number, err := strconv.ParseUint(x.Value, 10, 64)
	if err != nil || strconv.FormatUint(number, 10) != x.Value {
		return api.Result{Kind: api.ResNumber}
	}
	if c.Kind == api.CmdDecr {
		number -= min(number, c.By)
	} else {
		number += c.By
	}
	x.Value = strconv.FormatUint(number, 10)
	r := h.put(n, x)
	r.Number = number
	return r
}

func (h *house) tick(now int) {
	h.now = now
	for n, x := range h.items {
		if x.Until != 0 && x.Until <= now {
			delete(h.items, n)
		}
	}
}

// P11.7, W1: without evictions, and nothing refused for memory, a shard answers what a map of names would.
func TestAnswersAsAMapWould(t *testing.T) {
	r := rand.New(rand.NewSource(120))
	steps := 0
	for range 150 {
		quotas := [][]int{{16}, {8, 8}, {6, 5, 5}, {4, 4, 4, 4}}[r.Intn(4)]
		now := []int{0, 7, maxClock - 30}[r.Intn(3)]
		e, h := made(t, 16, quotas, now), &house{now: now, tenants: len(quotas), items: map[api.Name]api.Item{}}
		m := newModel(16, quotas, now)
		for range 200 {
			if r.Intn(10) == 0 {
				now := min(h.now+r.Intn(8), maxClock)
				e.Tick(now)
				h.tick(now)
				m.tick(now)
			}
			c := randomCommand(r, m)
			c.Tenant = (c.Tenant + r.Intn(40)/39) % maxTenants
			_, l := m.do(c)
			got, _, f := e.Do(c)
			if slices.ContainsFunc(l, func(c api.Change) bool { return c.Why == api.WhyEvicted }) || got.Kind == api.ResMemory {
				break
			}
			if want := h.do(c); f != api.OK || !sameResult(got, want) {
				t.Fatalf("%s: %s, error %d, a map answers %s", short(c), short(got), f, short(want))
			}
			steps++
		}
	}
	if steps < 5000 {
		t.Error("too few", steps)
	}
}

// checkPages ends the test unless no tenant has more pages than its quota, no page is another one's, and there is a chunk for each item of its class, and no other one.
func checkPages(t *testing.T, what any, e *engine.Engine) {
	t.Helper()
	i, s := imageOf(e), slabOf(e)
	pages, chunks := map[int]int{}, map[[2]int]int{}
	for _, p := range s.Pages {
		if p.Used == 0 {
			if p != (api.Page{}) {
				t.Fatalf("%s: page %v", short(what), p)
			}
			continue
		}
		pages[p.Tenant]++
		for used := p.Used; used != 0; used &= used - 1 {
			chunks[[2]int{p.Tenant, p.Class}]++
		}
	}
	for tenant, many := range pages {
		if tenant < 0 || tenant >= len(i.Quotas) || many > i.Quotas[tenant] {
			t.Fatalf("%s: tenant %d has %d pages of quotas %v", short(what), tenant, many, i.Quotas)
		}
	}
	for _, k := range i.Items {
		chunks[[2]int{k.Tenant, classFor(k.Item)}]--
	}
	for of, left := range chunks {
		if left != 0 {
			t.Fatalf("%s: of tenant and class %v there are %d chunks more than items", short(what), of, left)
		}
	}
}

// ofOthers are the items of all tenants but one.
func ofOthers(i api.Image, tenant int) []api.Kept {
	return slices.DeleteFunc(slices.Clone(i.Items), func(k api.Kept) bool { return k.Tenant == tenant })
}

// pagesOfOthers are the pages of all tenants but one, by their numbers.
func pagesOfOthers(s api.Slab, tenant int) string {
	text := ""
	for i, p := range s.Pages {
		if p.Used != 0 && p.Tenant != tenant {
			text += fmt.Sprint(i, p)
		}
	}
	return text
}

// sizeOf is how many bytes a command's item would have; 0, if it puts none.
func sizeOf(c api.Command, i api.Image) int {
	var x api.Item
	for _, k := range i.Items {
		if k.Tenant == c.Tenant && k.Item.Key == firstOf(c.Keys) {
			x = k.Item
		}
	}
	switch c.Kind {
	case api.CmdSet, api.CmdAdd, api.CmdReplace, api.CmdCas:
		return 8 + len(c.Keys[0]) + len(c.Value)
	case api.CmdAppend:
		return 8 + len(x.Key) + len(x.Value) + len(c.Value)
	case api.CmdIncr, api.CmdDecr:
		n, _ := strconv.ParseUint(x.Value, 10, 64)
		n += c.By
		if c.Kind == api.CmdDecr {
			n -= c.By
			n -= min(n, c.By)
		}
		return 8 + len(x.Key) + len(strconv.FormatUint(n, 10))
	}
	return 0
}

// P11.8, W6: the slab keeps the quotas at all times; ResMemory comes only to a tenant that has all its pages and nothing of that class; others' items and pages stay.
func TestPagesAreKept(t *testing.T) {
	r := rand.New(rand.NewSource(121))
	refused := 0
	for range 120 {
		w := randomTwin(t, r)
		for range 100 {
			if r.Intn(4) == 0 {
				w.randomStep(r)
				checkPages(t, "a step", w.e)
				continue
			}
			i, s, c := imageOf(w.e), slabOf(w.e), randomCommand(r, w.m)
			x, _ := w.do(c)
			checkPages(t, c, w.e)
			if !slices.Equal(ofOthers(imageOf(w.e), c.Tenant), ofOthers(i, c.Tenant)) || pagesOfOthers(slabOf(w.e), c.Tenant) != pagesOfOthers(s, c.Tenant) {
				t.Fatalf("%s changed others: %s, %s", short(c), short(i), short(imageOf(w.e)))
			}
			if x.Kind == api.ResMemory {
				refused++
				checkHasAll(t, c, i, s)
			}
		}
	}
	if refused < 300 {
		t.Error("too few", refused)
	}
}

// checkHasAll ends the test unless the tenant had all the pages of its quota, and no item of the class that it asked for.
func checkHasAll(t *testing.T, c api.Command, i api.Image, s api.Slab) {
	t.Helper()
	class := classFor(api.Item{Value: strings.Repeat("v", sizeOf(c, i)-8)})
	pages := 0
	for _, p := range s.Pages {
		if p.Used != 0 && p.Tenant == c.Tenant {
			pages++
		}
	}
	for _, k := range i.Items {
		if k.Tenant == c.Tenant && classFor(k.Item) == class {
			t.Fatalf("%s is refused, though %s is there, of its class", short(c), short(k))
		}
	}
	if pages != i.Quotas[c.Tenant] {
		t.Fatalf("%s is refused, though its tenant has %d of %v pages", short(c), pages, i.Quotas)
	}
}

// P11.8, W6: whoever has fewer pages than its quota finds one, though all others have all of theirs.
func TestNobodyIsRefusedForAnothersSake(t *testing.T) {
	for _, quotas := range [][]int{{4, 4, 4, 4}, {1, 5, 9, 1}, {15, 1}, {0, 16}, {13, 1, 1, 1}} {
		for last := range quotas {
			w := newTwin(t, 16, quotas, 0)
			for tenant, many := range quotas {
				for i := range many + 2 {
					if tenant != last {
						key := strconv.Itoa(i)
						w.do(set(tenant, key, fill(key, 200)))
					}
				}
			}
			others := w.m.image()
			for i := range quotas[last] {
				key := strconv.Itoa(i)
				if r, l := w.do(set(last, key, fill(key, 150))); r.Kind != api.ResDone || len(l) != 1 {
					t.Fatalf("%v: tenant %d, page %d: %s, %s", quotas, last, i, short(r), told(l))
				}
			}
			if !slices.Equal(ofOthers(imageOf(w.e), last), others.Items) {
				t.Fatalf("%v: others lost items by tenant %d", quotas, last)
			}
		}
	}
}

// P11.8, W6: another tenant's flush, its evictions, and its quota leave a tenant's items and their order as they are.
func TestOrdersOfOthersStay(t *testing.T) {
	r := rand.New(rand.NewSource(122))
	for range 40 {
		a, b := newTwin(t, 6, []int{2, 4}, 0), newTwin(t, 6, []int{2, 4}, 0)
		for range 120 {
			c := randomCommand(r, a.m)
			c.For = 0
			if c.Tenant == 1 {
				a.do(c)
				continue
			}
			if c.Kind == api.CmdCas {
				c = set(0, c.Keys[0], c.Value)
			}
			x, l := a.do(c)
			y, m := b.do(c)
			if x.Kind != y.Kind || x.Number != y.Number || len(x.Items) != len(y.Items) || withoutUniques(l) != withoutUniques(m) {
				t.Fatalf("%s: %s, %s, without another tenant %s, %s", short(c), short(x), told(l), short(y), told(m))
			}
			if r.Intn(10) == 0 {
				a.quota(1, r.Intn(5))
			}
		}
	}
}

// withoutUniques is changes but for the numbers, which all tenants of a shard have in common.
func withoutUniques(l []api.Change) string {
	l = slices.Clone(l)
	for i := range l {
		l[i].Item.Unique = 0
	}
	return told(l)
}

// P11.9: a shard that is loaded from another one's image has its image, and goes on with numbers that no item has.
func TestLoadedFromAnImage(t *testing.T) {
	r := rand.New(rand.NewSource(123))
	for range 200 {
		w := randomTwin(t, r)
		for range r.Intn(120) {
			w.randomStep(r)
		}
		i := imageOf(w.e)
		again := loadTwin(t, len(w.m.pages), i)
		checkImage(t, "loaded", again.e, i)
		checkPages(t, "loaded", again.e)
		for range 20 {
			for _, c := range again.randomStep(r) {
				if c.Kind == api.ChPut && slices.ContainsFunc(i.Items, func(k api.Kept) bool { return k.Item.Unique == c.Item.Unique && k.Item.Key != c.Item.Key }) {
					t.Fatalf("%s has another one's number", short(c))
				}
			}
		}
	}
}

// P11.9: also one whose pages were left half empty: each item finds a chunk again.
func TestLoadedFromHalfEmptyPages(t *testing.T) {
	w := newTwin(t, 16, []int{12, 4}, 0)
	for i := range 96 {
		key := strconv.Itoa(i)
		w.do(set(0, key, fill(key, 30)))
	}
	for i := range 96 {
		if i%8 != 3 {
			w.do(del(0, strconv.Itoa(i)))
		}
	}
	if l := slabOf(w.e).Pages; l[11].Used != 8 || l[0].Used != 8 {
		t.Fatal(l)
	}
	again := loadTwin(t, 16, imageOf(w.e))
	checkImage(t, "loaded", again.e, imageOf(w.e))
	checkSlab(t, "loaded", again.e, api.Slab{Pages: append([]api.Page{{Class: 1, Used: 255}, {Class: 1, Used: 15}}, make([]api.Page, 14)...)})
}

// A number behind the greatest comes round, as numbers of its type do.
func TestNumbersComeRound(t *testing.T) {
	w := loadTwin(t, 1, api.Image{Quotas: []int{1}, Items: []api.Kept{kept(0, "k", "v", 0, all)}})
	for i, want := range []uint64{0, 1, 2} {
		if _, l := w.do(set(0, "n"+strconv.Itoa(i), "v")); len(l) != 1 || l[0].Item.Unique != want {
			t.Error(want, told(l))
		}
	}
}

// Looks for steps by which a shard comes to something else than lists that are gone through tell.
func FuzzEngine(f *testing.F) {
	f.Add(int64(1), 2, 1, 1, 0, 40)
	f.Add(int64(2), 16, 4, 4, 1<<40-20, 90)
	f.Add(int64(3), 1, 0, 1, 5, 20)
	f.Fuzz(func(t *testing.T, seed int64, pages, first, second, now, steps int) {
		quotas := []int{first, second}
		e, errno := engine.New(pages, quotas, now)
		if want := wantNew(pages, quotas, now); errno != want || (e == nil) != (want != api.OK) {
			t.Fatalf("New(%d, %v, %d): error %d, want %d", pages, quotas, now, errno, want)
		}
		if errno != api.OK {
			return
		}
		r := rand.New(rand.NewSource(seed))
		w := &twin{t, e, newModel(pages, quotas, now)}
		i := imageOf(e)
		for range steps & 255 {
			apply(&i, w.randomStep(r))
			checkImage(t, "by changes", e, i)
			checkPages(t, "a step", e)
		}
		checkImage(t, "loaded", loaded(t, pages, i), i)
	})
}
