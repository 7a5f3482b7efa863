package engine_test

import (
	"math/rand"
	"slices"
	"strconv"
	"strings"
	"testing"

	"cloakroom/api"
	"cloakroom/quota"
)

// P11.3: the edges of Tick's now: from the clock to MaxClock; what is refused changes nothing.
func TestTickAtTheEdges(t *testing.T) {
	for _, now := range []int{0, 1, 10, maxClock - 1, maxClock} {
		w := newTwin(t, 1, []int{1}, now)
		w.do(lasts(set(0, "k", "v"), 1))
		for _, wrong := range []int{now - 1, now - 2, -1, least, maxClock + 1, maxClock + 2, top} {
			if l, f := w.e.Tick(wrong); f != api.ErrArg || len(l) != 0 {
				t.Fatalf("at %d: Tick(%d): %s, error %d", now, wrong, told(l), f)
			}
			w.check(wrong)
		}
		w.tick(now)
		w.tick(now)
		w.tick(min(now+1, maxClock))
		w.tick(maxClock)
		if l, f := w.e.Tick(maxClock - 1); f != api.ErrArg || len(l) != 0 {
			t.Fatalf("Tick goes back: %s, error %d", told(l), f)
		}
	}
}

// P11.3: steps by which none, one and many items are due; the change is the clock alone.
func TestWhatIsDueLeaves(t *testing.T) {
	w := newTwin(t, 8, []int{4, 4}, 100)
	for i := range 20 {
		w.do(lasts(set(i%2, "k"+strconv.Itoa(i), strings.Repeat("v", i)), 10+i/2))
	}
	w.do(lasts(set(0, "one", "v"), 5))
	w.do(set(0, "stays", "v"))
	w.do(lasts(set(1, "beyond", "v"), maxClock))
	for _, c := range []struct{ now, left int }{{104, 23}, {105, 22}, {105, 22}, {109, 22}, {110, 20}, {114, 12}, {1000, 2}, {maxClock, 2}} {
		l, f := w.e.Tick(c.now)
		if f != api.OK || !slices.Equal(l, []api.Change{{Kind: api.ChClock, To: c.now}}) {
			t.Fatalf("Tick(%d): %s, error %d", c.now, told(l), f)
		}
		w.m.tick(c.now)
		w.check(c.now)
		if i := imageOf(w.e); len(i.Items) != c.left {
			t.Fatalf("at %d: %s", c.now, keysOf(i))
		}
	}
}

// P11.3: the chunks of what is due are given back, and its page too.
func TestDueItemsGiveTheirChunksBack(t *testing.T) {
	w := newTwin(t, 1, []int{1}, 0)
	w.do(lasts(set(0, "a", fill("a", 200)), 3))
	if r, _ := w.do(set(0, "b", "v")); r.Kind != api.ResMemory {
		t.Fatal(r)
	}
	w.tick(2)
	if r, _ := w.do(set(0, "b", "v")); r.Kind != api.ResMemory {
		t.Fatal(r)
	}
	w.tick(3)
	checkSlab(t, "due", w.e, api.Slab{Pages: []api.Page{{}}})
	if r, _ := w.do(set(0, "b", "v")); r.Kind != api.ResDone {
		t.Fatal(r)
	}
}

// P11.3: an item's moment goes with it: one that was put or deleted meanwhile is not due by the former one.
func TestMomentsGoWithTheirItems(t *testing.T) {
	for _, c := range []struct {
		then []api.Command
		left string
	}{
		{nil, ""}, {[]api.Command{set(0, "k", "w")}, "0k"}, {[]api.Command{lasts(set(0, "k", "w"), 20)}, "0k"}, {[]api.Command{lasts(set(0, "k", "w"), 4)}, ""}, {[]api.Command{del(0, "k"), set(0, "k", "w")}, "0k"}, {[]api.Command{flush(0), set(0, "k", "w")}, "0k"},
		{[]api.Command{incr(0, "k", 1)}, ""}, {[]api.Command{more(0, "k", "0")}, ""}, {[]api.Command{cas(0, "k", "w", 1)}, "0k"}, {[]api.Command{touch(0, "k", 0)}, "0k"}, {[]api.Command{touch(0, "k", 5)}, ""}, {[]api.Command{touch(0, "k", 6)}, "0k"},
	} {
		w := newTwin(t, 1, []int{1}, 0)
		w.do(lasts(set(0, "k", "1"), 5))
		for _, then := range c.then {
			w.do(then)
		}
		w.tick(5)
		if l := keysOf(imageOf(w.e)); l != c.left {
			t.Errorf("%s: %q is left, want %q", short(c.then), l, c.left)
		}
	}
}

// P11.3: an evicted item's moment is gone with it, too.
func TestMomentsOfTheEvicted(t *testing.T) {
	w := newTwin(t, 2, []int{2}, 0)
	w.do(lasts(set(0, "a", fill("a", 200)), 5))
	w.do(lasts(set(0, "b", fill("b", 200)), 5))
	w.do(set(0, "c", fill("c", 200)))
	w.do(set(0, "a", fill("a", 200)))
	w.tick(9)
	w.quota(0, 1)
	w.do(set(0, "a", fill("a", 200)))
	w.tick(20)
	if l := keysOf(imageOf(w.e)); l != "0a" {
		t.Error(l)
	}
}

// P11.3, W1: in one step or in many, what is left goes in the same order: what leaves, leaves by its moment.
func TestHoweverTheClockGoes(t *testing.T) {
	r := rand.New(rand.NewSource(115))
	differ := 0
	for range 400 {
		a, b := newTwin(t, 4, []int{4}, 0), newTwin(t, 4, []int{4}, 0)
		keys := []string{"a", "b", "c", "d", "e", "f", "g", "h"}
		for _, key := range keys {
			c := lasts(set(0, key, fill(key, 100)), 1+r.Intn(8))
			a.do(c)
			b.do(c)
		}
		for range 6 {
			c := get(0, keys[r.Intn(8)])
			a.do(c)
			b.do(c)
		}
		end := 4 + r.Intn(4)
		for now := range end {
			a.tick(now)
		}
		a.tick(end)
		b.tick(end)
		if len(b.m.items) < 8 && len(b.m.items) > 0 {
			differ++
		}
		for i := range 12 {
			c := set(0, "n"+strconv.Itoa(i), fill("n"+strconv.Itoa(i), 100))
			_, l := a.do(c)
			if _, want := b.do(c); !slices.Equal(l, want) {
				t.Fatalf("%d: %s in many steps, %s in one", i, told(l), told(want))
			}
		}
	}
	if differ < 100 {
		t.Error("too few", differ)
	}
}

// P11.3: quota.Set's errors; what is refused changes nothing.
func TestQuotaIsRefused(t *testing.T) {
	for _, quotas := range [][]int{{4}, {1, 1}, {0, 4}, {1, 0, 2, 1}} {
		w := newTwin(t, 4, quotas, 0)
		w.do(set(0, "k", "v"))
		for _, tenant := range []int{least, -1, 0, 1, 2, 3, 4, 5, top} {
			for _, pages := range []int{least, -1, 0, 1, 2, 3, 4, 5, 16, 17, top} {
				_, want := quota.Set(4, w.m.quotas, tenant, pages)
				if want == api.OK {
					continue
				}
				if l, f := w.e.Quota(tenant, pages); f != want || len(l) != 0 {
					t.Fatalf("%v: Quota(%d, %d): %s, error %d, want %d", quotas, tenant, pages, told(l), f, want)
				}
				w.check(pages)
			}
		}
	}
	e := made(t, 4, []int{2, 2}, 0)
	for _, c := range []struct {
		tenant, pages int
		want          api.Errno
	}{{-1, 0, api.ErrArg}, {2, 0, api.ErrArg}, {2, 17, api.ErrArg}, {0, -1, api.ErrArg}, {0, 17, api.ErrArg}, {0, 3, api.ErrQuota}, {0, 16, api.ErrQuota}, {0, 2, api.OK}, {0, 1, api.OK}, {1, 3, api.OK}, {0, 2, api.ErrQuota}} {
		if _, f := e.Quota(c.tenant, c.pages); f != c.want {
			t.Errorf("Quota(%d, %d): error %d, want %d", c.tenant, c.pages, f, c.want)
		}
	}
}

// P11.3: a lower quota evicts all items in the greatest of the tenant's pages, chunk by chunk; a higher one, or the same, nobody.
func TestQuotaIsSet(t *testing.T) {
	w := newTwin(t, 6, []int{4, 2}, 0)
	for _, c := range []api.Command{set(0, "b", fill("b", 100)), set(0, "a", fill("a", 100)), set(1, "k", fill("k", 256)), set(0, "s", "v"), set(0, "c", fill("c", 100)), set(0, "d", fill("d", 100)), set(0, "m", fill("m", 50)), set(0, "l", fill("l", 50)), get(0, "l", "d")} {
		w.do(c)
	}
	checkSlab(t, "filled", w.e, api.Slab{Pages: []api.Page{{Class: 3, Used: 3}, {Tenant: 1, Class: 4, Used: 1}, {Class: 0, Used: 1}, {Class: 3, Used: 3}, {Class: 2, Used: 3}, {}}})
	w.do(del(0, "c"))
	w.do(set(0, "e", fill("e", 100)))
	w.do(lasts(set(0, "m", fill("m", 40)), 50))
	for i, c := range []struct {
		tenant, pages int
		want          string
	}{
		{0, 4, "quota0:4"}, {1, 1, "quota1:1"}, {0, 5, "quota0:5"}, {0, 4, "quota0:4"}, {0, 3, "!0m !0l quota0:3"}, {0, 3, "quota0:3"}, {1, 3, "quota1:3"}, {0, 1, "!0e !0d !0s quota0:1"}, {1, 0, "!1k quota1:0"}, {0, 0, "!0b !0a quota0:0"}, {0, 0, "quota0:0"}, {0, 6, "quota0:6"},
	} {
		if l := told(w.quota(c.tenant, c.pages)); l != c.want {
			t.Errorf("%d: %s, want %s", i, l, c.want)
		}
	}
	w.tick(60)
	w.do(set(0, "m", "v"))
}

// P11.3: of a page some of whose chunks are not used, those that are go in the chunks' order, whenever they came.
func TestQuotaEmptiesChunkByChunk(t *testing.T) {
	w := newTwin(t, 1, []int{1}, 0)
	for i := range 16 {
		w.do(set(0, strconv.Itoa(i), "v"))
	}
	w.do(del(0, "3", "7", "0", "14"))
	w.do(set(0, "x", "v"))
	w.do(get(0, "1", "2"))
	if l := told(w.quota(0, 0)); l != "!0x !01 !02 !04 !05 !06 !08 !09 !010 !011 !012 !013 !015 quota0:0" {
		t.Error(l)
	}
	checkSlab(t, "emptied", w.e, api.Slab{Pages: []api.Page{{}}})
}

// P11.3: what the quota is then, the next put goes by.
func TestPutsGoByTheQuota(t *testing.T) {
	w := newTwin(t, 3, []int{1, 1}, 0)
	full := func(key string) api.Command { return set(0, key, fill(key, 200)) }
	w.do(full("a"))
	comesTo(w, full("b"), "!0a +0b:2")
	w.quota(0, 2)
	comesTo(w, full("c"), "+0c:3")
	comesTo(w, full("d"), "!0b +0d:4")
	if l := told(w.quota(0, 1)); l != "!0c quota0:1" && l != "!0d quota0:1" {
		t.Error(l)
	}
	w.quota(1, 2)
	w.quota(0, 0)
	if r, _ := w.do(full("e")); r.Kind != api.ResMemory {
		t.Error(r)
	}
	if r, _ := w.do(get(0, "a", "b", "c", "d")); r.Kind != api.ResDone || len(r.Items) != 0 {
		t.Error(r)
	}
}

func comesTo(w *twin, c api.Command, want string) {
	w.t.Helper()
	if _, l := w.do(c); told(l) != want {
		w.t.Fatalf("%s: %s, want %s", short(c), told(l), want)
	}
}
