package engine_test

import (
	"math/rand"
	"slices"
	"strconv"
	"strings"
	"testing"

	"cloakroom/api"
	"cloakroom/engine"
)

// wrongCommands may not be, each by one thing.
func wrongCommands() []api.Command {
	k, long := []string{"k"}, strings.Repeat("k", maxKey+1)
	return []api.Command{
		{}, {Keys: k}, {Kind: 12, Keys: k}, {Kind: 255}, {Kind: 1}, {Kind: 10}, get(0, "a", "b", "c", "d", "e", "f", "g", "h", "i"), get(0, "a", "a"), del(0, "a", "b", "a"), get(0, ""), del(0, long), {Kind: 11, Keys: k},
		{Kind: 2, Keys: []string{"a", "b"}}, set(-1, "k", "v"), set(4, "k", "v"), set(least, "k", "v"), flush(4), flush(-1), get(4, "k"), set(0, "", "v"), set(0, long, "v"), set(0, "k", strings.Repeat("v", 513)),
		lasts(set(0, "k", "v"), -1), lasts(set(0, "k", "v"), maxClock+1), touch(0, "k", -1), {Kind: 1, Keys: k, By: 1}, {Kind: 9, Keys: k, Flags: 1}, {Kind: 2, Keys: k, Unique: 1}, {Kind: 8, Keys: k, For: 1}, {Kind: 6, Keys: k, Value: "v"},
	}
}

// P11.3: order.Check's error, of tenants with and without a quota; nothing stands beside it, and nothing changes.
func TestCommandsThatMayNotBe(t *testing.T) {
	for _, quotas := range [][]int{{2}, {1, 1}, {0, 0, 0, 2}} {
		w := newTwin(t, 2, quotas, 5)
		w.do(set(0, "k", "1"))
		for _, c := range wrongCommands() {
			if r, l, f := w.e.Do(c); f != api.ErrOrder || !sameResult(r, api.Result{}) || len(l) != 0 {
				t.Fatalf("Do(%s): %s, %s, error %d", short(c), short(r), short(l), f)
			}
			w.check(c)
		}
		w.do(set(0, "n", "v"))
	}
}

// ofAllKinds are commands of all eleven kinds of a tenant's key.
func ofAllKinds(tenant int, key string) []api.Command {
	return []api.Command{
		get(tenant, key), set(tenant, key, "v"), of(api.CmdAdd, set(tenant, key, "v")), of(api.CmdReplace, set(tenant, key, "v")), cas(tenant, key, "v", 1),
		incr(tenant, key, 1), decr(tenant, key, 1), more(tenant, key, "v"), touch(tenant, key, 1), del(tenant, key), flush(tenant),
	}
}

// P11.3: a tenant without a quota is refused, of all kinds; one with a quota of 0 is not: it has no room.
func TestTenantsWithoutQuota(t *testing.T) {
	for many := 1; many <= maxTenants; many++ {
		w := newTwin(t, 2, make([]int, many), 0)
		for tenant := range maxTenants {
			for i, c := range ofAllKinds(tenant, "k") {
				want := []uint8{api.ResDone, api.ResMemory, api.ResMemory, 2, 2, 2, 2, 2, 2, 2, api.ResDone}[i]
				if tenant >= many {
					want = api.ResRefused
				}
				if r, l := w.do(c); r.Kind != want || want == api.ResRefused && len(l) != 0 {
					t.Fatalf("%s: %s, %s", short(c), short(r), short(l))
				}
			}
		}
	}
}

// P11.3: commands of all kinds on an item that is there, that is not, and that is due.
func TestKindsOnWhatIsThereOrNot(t *testing.T) {
	changed := []string{"", "+0k:2", "", "+0k:2", "+0k:2", "+0k:2", "+0k:2", "+0k:2", "+0k:1", "-0k", "all0"}
	there := []api.Result{{Kind: 1, Items: []api.Item{{Key: "k", Value: "5", Flags: 3, Until: 12, Unique: 1}}}, {Kind: 1}, {Kind: 3}, {Kind: 1}, {Kind: 1}, {Kind: 1, Number: 6}, {Kind: 1, Number: 4}, {Kind: 1}, {Kind: 1}, {Kind: 1, Number: 1}, {Kind: 1}}
	for i, c := range ofAllKinds(0, "k") {
		before := api.Command{Kind: api.CmdSet, Keys: []string{"k"}, Value: "5", Flags: 3, For: 2}
		e := made(t, 2, []int{1, 1}, 10)
		comes(t, e, before, only(api.ResDone), "+0k:1")
		comes(t, e, c, there[i], changed[i])

		e = made(t, 2, []int{1, 1}, 10)
		comes(t, e, of(api.CmdSet, set(1, "k", "5")), only(api.ResDone), "+1k:1")
		checkMissing(t, e, i, c)

		e = made(t, 2, []int{1, 1}, 10)
		comes(t, e, before, only(api.ResDone), "+0k:1")
		if _, f := e.Tick(12); f != api.OK {
			t.Fatal(f)
		}
		checkMissing(t, e, i, c)
	}
}

// checkMissing ends the test unless the command of a kind comes to what it does where nothing is there; one number was given.
func checkMissing(t *testing.T, e *engine.Engine, i int, c api.Command) {
	t.Helper()
	kind := []uint8{1, 1, 1, 2, 2, 2, 2, 2, 2, 2, 1}[i]
	comes(t, e, c, only(kind), []string{"", "+0k:2", "+0k:2", "", "", "", "", "", "", "", "all0"}[i])
}

// P11.3: what is put has the command's value, flags and moment, whatever was there.
func TestWhatIsPut(t *testing.T) {
	for _, kind := range []uint8{api.CmdSet, api.CmdReplace, api.CmdCas} {
		w := newTwin(t, 2, []int{2}, 100)
		w.do(api.Command{Kind: api.CmdAdd, Keys: []string{"k"}, Value: "first", Flags: 7, For: 9})
		checkImage(t, kind, w.e, api.Image{Clock: 100, Quotas: []int{2}, Items: []api.Kept{{Item: api.Item{Key: "k", Value: "first", Flags: 7, Until: 109, Unique: 1}}}})
		c := api.Command{Kind: kind, Keys: []string{"k"}, Value: "second", Flags: 1<<32 - 1}
		if kind == api.CmdCas {
			c.Unique = 1
		}
		r, l := w.do(c)
		x := api.Item{Key: "k", Value: "second", Flags: 1<<32 - 1, Unique: 2}
		if r.Kind != api.ResDone || !slices.Equal(l, []api.Change{{Kind: api.ChPut, Item: x}}) {
			t.Fatal(kind, r, l)
		}
		if r, _ := w.do(get(0, "k")); !slices.Equal(r.Items, []api.Item{x}) {
			t.Fatal(kind, r)
		}
	}
}

// P11.3: cas asks for the number that was given last, and gives another one.
func TestCas(t *testing.T) {
	e := made(t, 2, []int{1, 1}, 0)
	comes(t, e, cas(0, "k", "v", 0), only(api.ResNone), "")
	comes(t, e, set(0, "k", "v"), only(api.ResDone), "+0k:1")
	comes(t, e, set(1, "k", "v"), only(api.ResDone), "+1k:2")
	for _, wrong := range []uint64{0, 2, 3, 1 << 32, all} {
		comes(t, e, cas(0, "k", "w", wrong), only(api.ResThere), "")
	}
	comes(t, e, cas(0, "k", "w", 1), only(api.ResDone), "+0k:3")
	comes(t, e, cas(0, "k", "w", 1), only(api.ResThere), "")
	comes(t, e, touch(0, "k", 0), only(api.ResDone), "+0k:3")
	comes(t, e, cas(0, "k", strings.Repeat("w", 300), 3), only(api.ResLarge), "")
	comes(t, e, cas(0, "k", strings.Repeat("w", 300), 2), only(api.ResThere), "")
	comes(t, e, cas(0, "k", "x", 3), only(api.ResDone), "+0k:4")
	// An image may have items that no shard gave a number.
	i := api.Image{Quotas: []int{1}, Items: []api.Kept{kept(0, "k", "v", 0, 0)}}
	comes(t, loaded(t, 1, i), cas(0, "k", "w", 0), only(api.ResDone), "+0k:1")
}

// P11.3: counting, up round 2^64 and down to 0; flags and moment stay.
func TestCounting(t *testing.T) {
	w := newTwin(t, 1, []int{1}, 5)
	w.do(api.Command{Kind: api.CmdSet, Keys: []string{"n"}, Value: "10", Flags: 4, For: 6})
	for i, c := range []struct {
		c    api.Command
		want uint64
	}{{incr(0, "n", 0), 10}, {incr(0, "n", 5), 15}, {decr(0, "n", 4), 11}, {decr(0, "n", 11), 0}, {decr(0, "n", 1), 0}, {incr(0, "n", all), all}, {incr(0, "n", 1), 0}, {incr(0, "n", all), all}, {incr(0, "n", all), all - 1}, {decr(0, "n", all), 0}} {
		r, l := w.do(c.c)
		x := api.Item{Key: "n", Value: strconv.FormatUint(c.want, 10), Flags: 4, Until: 11, Unique: uint64(i + 2)}
		if !sameResult(r, counted(c.want)) || !slices.Equal(l, []api.Change{{Kind: api.ChPut, Item: x}}) {
			t.Fatalf("%s: %s, %s", short(c.c), short(r), short(l))
		}
	}
}

// P11.3: values that are no number's text.
func TestCountingWhatIsNoNumber(t *testing.T) {
	for _, value := range []string{"", "x", "00", "01", " 1", "1 ", "+1", "-1", "1.0", "18446744073709551616", "184467440737095516150", "١"} {
		w := newTwin(t, 1, []int{1}, 0)
		w.do(set(0, "n", value))
		for _, c := range []api.Command{incr(0, "n", 0), decr(0, "n", 1)} {
			if r, l := w.do(c); !sameResult(r, only(api.ResNumber)) || len(l) != 0 {
				t.Fatalf("%q: %s, %s", value, short(r), short(l))
			}
		}
	}
}

// P11.3: what is appended stands behind; flags and moment stay; it is put anew, also by nothing.
func TestAppending(t *testing.T) {
	w := newTwin(t, 1, []int{1}, 5)
	w.do(api.Command{Kind: api.CmdSet, Keys: []string{"k"}, Value: "ab", Flags: 4, For: 6})
	w.do(set(0, "l", "x"))
	for i, c := range []struct{ more, want string }{{"c", "abc"}, {"", "abc"}, {"\x00\xff", "abc\x00\xff"}} {
		r, l := w.do(more(0, "k", c.more))
		x := api.Item{Key: "k", Value: c.want, Flags: 4, Until: 11, Unique: uint64(i + 3)}
		if !sameResult(r, only(api.ResDone)) || !slices.Equal(l, []api.Change{{Kind: api.ChPut, Item: x}}) {
			t.Fatalf("%q: %s, %s", c.more, short(r), short(l))
		}
	}
	if l := keysOf(imageOf(w.e)); l != "0l 0k" {
		t.Error(l)
	}
}

// P11.3: items of just MaxItem bytes, and of one more, however they come to it.
func TestTooLarge(t *testing.T) {
	for _, key := range []string{"k", strings.Repeat("k", maxKey)} {
		w := newTwin(t, 1, []int{1}, 0)
		full := fill(key, maxItem)
		for _, c := range []struct {
			c    api.Command
			want uint8
		}{
			{of(api.CmdAdd, set(0, key, full+"v")), api.ResLarge}, {of(api.CmdAdd, set(0, key, full)), api.ResDone}, {set(0, key, full+"v"), api.ResLarge}, {set(0, key, strings.Repeat("v", 512)), api.ResLarge}, {set(0, key, full), api.ResDone},
			{of(api.CmdReplace, set(0, key, full+"v")), api.ResLarge}, {cas(0, key, full+"v", 2), api.ResLarge}, {more(0, key, ""), api.ResDone}, {more(0, key, "v"), api.ResLarge}, {more(0, key, strings.Repeat("v", 512)), api.ResLarge},
			{of(api.CmdReplace, set(0, key, full[1:])), api.ResDone}, {more(0, key, "vv"), api.ResLarge}, {more(0, key, "v"), api.ResDone}, {of(api.CmdReplace, set(0, "none", full+"vvv")), api.ResNone}, {more(0, "none", strings.Repeat("v", 512)), api.ResNone},
		} {
			if r, l := w.do(c.c); !sameResult(r, only(c.want)) || (c.want == api.ResDone) != (len(l) == 1) {
				t.Fatalf("%s: %s, %s, want %d", short(c.c), short(r), short(l), c.want)
			}
		}
	}
}

// P11.3: For comes to a moment, or to none where it is beyond MaxClock.
func TestFor(t *testing.T) {
	for _, now := range []int{0, 1, 10, maxClock - 1, maxClock} {
		for _, many := range []int{0, 1, 2, maxClock - now - 1, maxClock - now, maxClock - now + 1, maxClock} {
			if many < 0 || many > maxClock {
				continue
			}
			want := now + many
			if many == 0 || want > maxClock {
				want = 0
			}
			for _, c := range []api.Command{lasts(set(0, "k", "v"), many), lasts(of(api.CmdReplace, set(0, "k", "v")), many), lasts(cas(0, "k", "v", 1), many), touch(0, "k", many)} {
				w := newTwin(t, 1, []int{1}, now)
				w.do(lasts(of(api.CmdAdd, set(0, "k", "v")), 1))
				w.do(c)
				if i := imageOf(w.e); i.Items[0].Item.Until != want {
					t.Fatalf("at %d: %s: %s", now, short(c), short(i))
				}
				w.tick(max(now, want-1))
				w.tick(maxClock)
				if i := imageOf(w.e); (len(i.Items) == 0) != (want > 0) {
					t.Fatalf("at %d: %s: %s is left", now, short(c), short(i))
				}
			}
		}
	}
}

// P11.3: touch changes the moment alone; what was due then is not, and the other way round.
func TestTouch(t *testing.T) {
	w := newTwin(t, 1, []int{1}, 10)
	w.do(api.Command{Kind: api.CmdSet, Keys: []string{"k"}, Value: "v", Flags: 5, For: 2})
	w.do(set(0, "l", "v"))
	for _, c := range []struct{ many, until int }{{5, 15}, {0, 0}, {9, 19}, {1, 11}, {8, 18}} {
		r, l := w.do(touch(0, "k", c.many))
		x := api.Item{Key: "k", Value: "v", Flags: 5, Until: c.until, Unique: 1}
		if !sameResult(r, only(api.ResDone)) || !slices.Equal(l, []api.Change{{Kind: api.ChPut, Item: x}}) {
			t.Fatalf("%d: %s, %s", c.many, short(r), short(l))
		}
		if l := keysOf(imageOf(w.e)); l != "0l 0k" {
			t.Fatal(l)
		}
		w.do(touch(0, "l", 0))
	}
	w.tick(17)
	if r, _ := w.do(get(0, "k")); len(r.Items) != 1 {
		t.Error(r)
	}
	w.tick(18)
	if r, _ := w.do(get(0, "k", "l")); len(r.Items) != 1 {
		t.Error(r)
	}
}

// P11.3: gets and deletes of several keys of which some are there, in the keys' order.
func TestSeveralKeys(t *testing.T) {
	w := newTwin(t, 2, []int{1, 1}, 0)
	for _, key := range []string{"a", "b", "c", "d"} {
		w.do(set(0, key, key))
		w.do(set(1, key, "other"))
	}
	w.do(lasts(set(0, "d", "d"), 1))
	w.tick(1)
	for _, c := range []struct {
		keys []string
		want string
	}{{[]string{"c", "x", "a", "d"}, "ca"}, {[]string{"x", "y"}, ""}, {[]string{"d"}, ""}, {[]string{"a", "b", "c", "d", "e", "f", "g", "h"}, "abc"}, {[]string{"h", "g", "c", "b", "a"}, "cba"}} {
		r, l := w.do(get(0, c.keys...))
		got := ""
		for _, x := range r.Items {
			got += x.Value
		}
		if r.Kind != api.ResDone || r.Number != 0 || got != c.want || len(l) != 0 {
			t.Fatalf("%v: %s, %s", c.keys, short(r), short(l))
		}
	}
	comes(t, w.e, del(0, "x", "d"), only(api.ResNone), "")
	comes(t, w.e, del(0, "c", "x", "a", "d"), counted(2), "-0c -0a")
	comes(t, w.e, del(0, "a", "b", "c"), counted(1), "-0b")
	comes(t, w.e, del(0, "a", "b", "c"), only(api.ResNone), "")
	comes(t, w.e, del(1, "d", "c", "b", "a"), counted(4), "-1d -1c -1b -1a")
}

// P11.3: flush takes all of a tenant, and nothing of another one; also where it has nothing.
func TestFlush(t *testing.T) {
	w := newTwin(t, 8, []int{4, 4}, 0)
	for range 2 {
		for class := range 5 {
			if class == 2 {
				continue
			}
			for tenant := range 2 {
				w.do(lasts(set(tenant, strconv.Itoa(class), fill("k", 16<<class)), class))
			}
		}
		w.do(get(0, "1", "3"))
		w.do(flush(0))
		if l := keysOf(imageOf(w.e)); l != "10 11 13 14" {
			t.Error(l)
		}
		w.do(flush(0))
		w.tick(w.m.now)
	}
	w.tick(100)
	if l := keysOf(imageOf(w.e)); l != "10" {
		t.Error(l)
	}
	comes(t, w.e, flush(1), only(api.ResDone), "all1")
	comes(t, w.e, flush(1), only(api.ResDone), "all1")
}

// P11.3: numbers rise by one with each item that is put, by whichever tenant and kind, and by nothing else.
func TestNumbersRise(t *testing.T) {
	r := rand.New(rand.NewSource(113))
	for range 30 {
		w, last := randomTwin(t, r), uint64(0)
		for range 150 {
			for _, c := range w.randomStep(r) {
				if c.Kind == api.ChPut && c.Item.Unique == last+1 {
					last++
				} else if c.Kind == api.ChPut && c.Item.Unique > last {
					t.Fatalf("%s, the last number was %d", short(c), last)
				}
			}
		}
	}
}
