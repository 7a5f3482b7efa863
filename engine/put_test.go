package engine_test

import (
	"math/rand"
	"slices"
	"strconv"
	"strings"
	"testing"

	"cloakroom/api"
	"cloakroom/engine"
)

// P11.3: items of all classes, each in pages of its own, at the sizes at which a class ends.
func TestItemsOfAllClasses(t *testing.T) {
	w := newTwin(t, 16, []int{8, 8}, 0)
	for tenant := range 2 {
		for class, sizes := range [][]int{{9, 15, 16}, {17, 31, 32}, {33, 63, 64}, {65, 127, 128}, {129, 255, 256}} {
			for i, size := range sizes {
				key := string([]byte{'a' + byte(3*class+i)})
				w.do(set(tenant, key, fill(key, size)))
			}
		}
	}
	want := []api.Page{{Class: 0, Used: 7}, {Class: 1, Used: 7}, {Class: 2, Used: 7}, {Class: 3, Used: 3}, {Class: 3, Used: 1}, {Class: 4, Used: 1}, {Class: 4, Used: 1}, {Class: 4, Used: 1}}
	for i := range 8 {
		p := want[i]
		p.Tenant = 1
		want = append(want, p)
	}
	checkSlab(t, "behind all", w.e, api.Slab{Pages: want})
}

// P11.3: an item that is put anew in another class leaves its chunk, its page, and its order.
func TestPutAnewInAnotherClass(t *testing.T) {
	w := newTwin(t, 2, []int{2}, 0)
	w.do(set(0, "k", fill("k", 16)))
	for _, size := range []int{32, 256, 64, 128, 129, 9, 256, 255} {
		w.do(set(0, "k", fill("k", size)))
		if s := slabOf(w.e); s.Pages[0].Used != 1 || s.Pages[1].Used != 0 {
			t.Fatal(size, s)
		}
	}
	w.do(set(0, "l", fill("l", 256)))
	// k would be the victim, were it still in the order of its class.
	w.do(set(0, "k", fill("k", 100)))
	w.do(set(0, "m", fill("m", 100)))
	comes(t, w.e, set(0, "n", fill("n", 256)), only(api.ResDone), "!0l +0n:"+strconv.Itoa(13))
	comes(t, w.e, set(0, "o", fill("o", 100)), only(api.ResDone), "!0k +0o:"+strconv.Itoa(14))
}

// P11.3: the one page that an item has is free for itself, of whatever class it comes to be.
func TestTheOnlyItemFindsItsOwnPage(t *testing.T) {
	w := newTwin(t, 1, []int{1}, 0)
	for i, c := range []api.Command{set(0, "kkkkkkk", "9"), incr(0, "kkkkkkk", 1), decr(0, "kkkkkkk", 1), more(0, "kkkkkkk", strings.Repeat("0", 50)), set(0, "kkkkkkk", fill("kkkkkkk", 256)), of(api.CmdReplace, set(0, "kkkkkkk", ""))} {
		r, l := w.do(c)
		if r.Kind != api.ResDone || told(l) != "+0kkkkkkk:"+strconv.Itoa(i+1) {
			t.Fatalf("%s: %s, %s", short(c), short(r), told(l))
		}
	}
}

// P11.3: with no hits, who came first goes first; an item that is put anew came last.
func TestEvictions(t *testing.T) {
	e, v := made(t, 2, []int{2}, 0), strings.Repeat("v", 100)
	for i, c := range []struct{ key, want string }{{"a", ""}, {"b", ""}, {"c", ""}, {"d", ""}, {"e", "!0a "}, {"b", ""}, {"f", "!0c "}, {"g", "!0d "}, {"h", "!0e "}, {"i", "!0b "}, {"a", "!0f "}} {
		comes(t, e, set(0, c.key, v), only(api.ResDone), c.want+"+0"+c.key+":"+strconv.Itoa(i+1))
	}
	if l := keysOf(imageOf(e)); l != "0g 0h 0i 0a" {
		t.Error(l)
	}
}

// P11.3: what was got or touched is kept; what was set, added, counted or appended is not for that.
func TestHitsKeep(t *testing.T) {
	long := strings.Repeat("0", 91)
	for _, c := range []struct {
		hit  []api.Command
		want string
	}{
		{nil, "a b c d"}, {[]api.Command{get(0, "a")}, "b c d n0"}, {[]api.Command{get(0, "a", "b")}, "c d n0 n1"}, {[]api.Command{get(0, "b", "a")}, "c d n0 n1"}, {[]api.Command{touch(0, "a", 0)}, "b c d n0"}, {[]api.Command{touch(0, "b", 9)}, "a c d n0"},
		{[]api.Command{get(0, "a", "b", "c")}, "d a n0 n1"}, {[]api.Command{get(0, "none", "d", "a")}, "b c n0 n1"}, {[]api.Command{set(0, "a", long)}, "b c d a"}, {[]api.Command{of(api.CmdAdd, set(0, "a", "v"))}, "a b c d"}, {[]api.Command{incr(0, "a", 1)}, "a b c d"},
		{[]api.Command{more(0, "a", "x")}, "b c d a"}, {[]api.Command{get(0, "a"), set(0, "a", long)}, "b c d a"}, {[]api.Command{get(0, "a"), del(0, "a"), set(0, "a", long)}, "b c d a"}, {[]api.Command{cas(0, "a", "v", 77)}, "a b c d"},
	} {
		w := newTwin(t, 2, []int{2}, 0)
		for _, key := range []string{"a", "b", "c", "d"} {
			w.do(set(0, key, long))
		}
		for _, h := range c.hit {
			w.do(h)
		}
		for i, victim := range strings.Fields(c.want) {
			_, l := w.do(set(0, "n"+strconv.Itoa(i), long))
			if !strings.HasPrefix(told(l), "!0"+victim+" +") {
				t.Errorf("%s: %d: %s, want %s", short(c.hit), i, told(l), c.want)
				break
			}
		}
	}
}

// P11.3: only items of the tenant and of the class go.
func TestVictimsAreOfTheTenantAndClass(t *testing.T) {
	w := newTwin(t, 4, []int{3, 1}, 0)
	for i := range 16 {
		w.do(set(0, "s"+strconv.Itoa(i), "v"))
	}
	w.do(set(0, "m", fill("m", 200)))
	w.do(set(0, "n", fill("n", 200)))
	w.do(set(1, "s", fill("s", 200)))
	for i, c := range []struct {
		c    api.Command
		want string
	}{
		{set(0, "t0", "v"), "!0s0 +0t0:20"}, {set(0, "o", fill("o", 256)), "!0m +0o:21"}, {set(1, "t", fill("t", 200)), "!1s +1t:22"}, {set(0, "p", fill("p", 129)), "!0n +0p:23"}, {set(0, "t1", "w"), "!0s1 +0t1:24"},
	} {
		if r, l := w.do(c.c); r.Kind != api.ResDone || told(l) != c.want {
			t.Errorf("%d: %s, %s, want %s", i, short(r), told(l), c.want)
		}
	}
	for _, c := range []api.Command{set(0, "x", fill("x", 64)), set(1, "x", "v")} {
		if r, l := w.do(c); r.Kind != api.ResMemory || len(l) != 0 {
			t.Error(short(r), told(l))
		}
	}
}

// P11.3: items that grow by counting and appending evict others of the class that they come to.
func TestGrowingEvicts(t *testing.T) {
	w := newTwin(t, 2, []int{2}, 0)
	for i := range 8 {
		w.do(set(0, "large"+strconv.Itoa(i), strings.Repeat("v", 10)))
	}
	w.do(set(0, "number7", "9"))
	w.do(set(0, "other", "1"))
	w.do(set(0, "small", "1"))
	if _, l := w.do(incr(0, "number7", 1)); told(l) != "!0large0 +0number7:12" {
		t.Error(told(l))
	}
	if _, l := w.do(more(0, "other", "00000")); told(l) != "!0large1 +0other:13" {
		t.Error(told(l))
	}
	checkSlab(t, "grown", w.e, api.Slab{Pages: []api.Page{{Class: 1, Used: 255}, {Used: 4}}})
	if _, l := w.do(decr(0, "number7", 1)); told(l) != "+0number7:14" {
		t.Error(told(l))
	}
	// The chunk is free that number7 had.
	if _, l := w.do(more(0, "small", "00000")); told(l) != "+0small:15" {
		t.Error(told(l))
	}
}

// refusals are puts that are refused for memory, by a tenant whose pages are all of classes 0 and 1: of new names, and of those that are there.
func refusals() []api.Command {
	large := strings.Repeat("v", 100)
	return []api.Command{
		set(0, "n", large), of(api.CmdAdd, set(0, "n", large)), set(0, "a", large), of(api.CmdReplace, set(0, "a", large)), cas(0, "a", large, 1), more(0, "a", large), set(0, "kept", large), more(0, "kept", large), lasts(set(0, "soon", large), 1), more(0, "soon", large),
		set(0, "p", fill("p", 33)), set(0, "p", fill("p", 256)),
	}
}

// beforeRefusals fills two pages of tenant 0, and one of tenant 1.
func beforeRefusals() []api.Command {
	l := []api.Command{set(0, "a", "1"), set(0, "kept", "v"), lasts(set(0, "soon", "v"), 5), set(1, "a", "1"), get(0, "kept")}
	for i := range 6 {
		l = append(l, set(0, "m"+strconv.Itoa(i), strings.Repeat("v", 20)))
	}
	return append(l, get(0, "m1"), touch(0, "m3", 9))
}

// behindRefusals show the orders, the moments and the last number: they must come to the same, be something refused ahead of them or not.
func behindRefusals() []api.Command {
	l := []api.Command{get(0, "a", "kept", "soon", "n")}
	for i := range 30 {
		l = append(l, set(0, "x"+strconv.Itoa(i), "v"), set(0, "y"+strconv.Itoa(i), strings.Repeat("v", 20)), set(1, "z"+strconv.Itoa(i), "v"))
	}
	return l
}

// P11.3: a put that is refused for memory changes nothing: not the item of its name, nobody else's, not the last number, no order.
func TestRefusedForMemory(t *testing.T) {
	for _, c := range refusals() {
		w, plain := newTwin(t, 3, []int{2, 1}, 0), made(t, 3, []int{2, 1}, 0)
		for _, b := range beforeRefusals() {
			w.do(b)
			plain.Do(b)
		}
		image, slab := imageOf(w.e), slabOf(w.e)
		for range 2 {
			if r, l := w.do(c); !sameResult(r, only(api.ResMemory)) || len(l) != 0 {
				t.Fatalf("%s: %s, %s", short(c), short(r), short(l))
			}
			checkImage(t, c, w.e, image)
			checkSlab(t, c, w.e, slab)
		}
		checkSame(t, w.e, plain, behindRefusals())
	}
}

// checkSame ends the test unless both shards come to the same by some commands and the clock's steps between them.
func checkSame(t *testing.T, a, b *engine.Engine, l []api.Command) {
	t.Helper()
	for i, c := range l {
		r, changes, _ := a.Do(c)
		want, wantChanges, _ := b.Do(c)
		if !sameResult(r, want) || !slices.Equal(changes, wantChanges) {
			t.Fatalf("%s: %s, %s, want %s, %s", short(c), short(r), told(changes), short(want), told(wantChanges))
		}
		a.Tick(i)
		b.Tick(i)
		checkImage(t, c, a, imageOf(b))
		checkSlab(t, c, a, slabOf(b))
	}
}

// P11.3: a count that is refused for memory: Number is 0.
func TestCountRefusedForMemory(t *testing.T) {
	w := newTwin(t, 1, []int{1}, 0)
	w.do(set(0, "number7", "9"))
	w.do(set(0, "b", "v"))
	if r, l := w.do(incr(0, "number7", 1)); !sameResult(r, only(api.ResMemory)) || len(l) != 0 {
		t.Error(short(r), told(l))
	}
	if r, l := w.do(decr(0, "number7", 1)); !sameResult(r, counted(8)) || told(l) != "+0number7:3" {
		t.Error(short(r), told(l))
	}
	w.do(del(0, "b"))
	if r, l := w.do(incr(0, "number7", 2)); !sameResult(r, counted(10)) || told(l) != "+0number7:4" {
		t.Error(short(r), told(l))
	}
}

// P11.3: too large is told ahead of no memory, and changes nothing either.
func TestLargeAheadOfMemory(t *testing.T) {
	w := newTwin(t, 1, []int{0}, 0)
	for _, c := range []struct {
		size int
		want uint8
	}{{256, api.ResMemory}, {257, api.ResLarge}, {9, api.ResMemory}} {
		if r, l := w.do(set(0, "k", fill("k", c.size))); !sameResult(r, only(c.want)) || len(l) != 0 {
			t.Error(c.size, short(r), told(l))
		}
	}
}

// P11.3: a shard that is full of the least chunks, of as many pages as there may be.
func TestFullOfLeastChunks(t *testing.T) {
	w := newTwin(t, 16, []int{16}, 0)
	for i := range 256 {
		if _, l := w.do(set(0, strconv.Itoa(i), "v")); len(l) != 1 {
			t.Fatal(i, told(l))
		}
	}
	for i := range 20 {
		if _, l := w.do(set(0, "n"+strconv.Itoa(i), "v")); len(l) != 2 || l[0].Key != strconv.Itoa(i) {
			t.Fatal(i, told(l))
		}
	}
	w.do(set(0, "200", "w"))
	w.do(flush(0))
	checkSlab(t, "flushed", w.e, api.Slab{Pages: make([]api.Page, 16)})
}

// P11.3: orders of few pages under many hits, puts and deletes, whose victims the model tells.
func TestVictimsUnderPressure(t *testing.T) {
	r := rand.New(rand.NewSource(114))
	evicted := 0
	for round := range 60 {
		pages := 1 + r.Intn(3)
		w := newTwin(t, pages, []int{pages}, 0)
		size := []int{20, 40, 100, 200}[round%4]
		for range 150 {
			key := string([]byte{'a' + byte(r.Intn(24>>(round%4)+4))})
			c := []api.Command{get(0, key), set(0, key, fill(key, size)), set(0, key, fill(key, size)), touch(0, key, r.Intn(9)), del(0, key)}[r.Intn(17)%5]
			_, l := w.do(c)
			evicted += len(l) / 2
			if r.Intn(12) == 0 {
				w.tick(w.m.now + r.Intn(4))
			}
		}
	}
	if evicted < 500 {
		t.Error("too few", evicted)
	}
}
