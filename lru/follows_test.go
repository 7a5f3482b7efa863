package lru_test

import (
	"math/rand"
	"slices"
	"testing"

	"cloakroom/api"
	"cloakroom/lru"
)

// P7.5: what is answered may be, and no call loses a key, but Del the one that it takes out.
func TestNoKeyIsLost(t *testing.T) {
	r := rand.New(rand.NewSource(74))
	for _, o := range smallOrders() {
		for _, key := range append(sorted(o), "x") {
			checkKeysLeft(t, o, key)
		}
	}
	for range 500 {
		o := randomOrder(r)
		for range 5 {
			checkKeysLeft(t, o, keyOf(r.Intn(many(o)+1)))
		}
	}
}

func checkKeysLeft(t *testing.T, o api.Order, key string) {
	t.Helper()
	defer endIfFailed(t)
	was := sorted(o)
	without := slices.DeleteFunc(slices.Clone(was), func(k string) bool { return k == key })
	with := slices.Sorted(slices.Values(append(slices.Clone(without), key)))
	for i, want := range [][]string{with, was, without} {
		left, e := turns[i].call(o, key)
		if e == api.OK {
			checkKeys(t, []any{turns[i].name, o, key}, sorted(left), e, want)
			checkErrno(t, left, lru.Check(left), api.OK)
		}
	}
}

// P7.5: with no hits at all, who came first goes first, whoever is taken out meanwhile.
func TestWithoutHitsWhoCameFirstGoesFirst(t *testing.T) {
	r := rand.New(rand.NewSource(75))
	for _, often := range []int{1, 2, 10, 1000} {
		var o api.Order
		var came []string
		for i := range 400 {
			if len(came) > 0 && r.Intn(often) == 0 || len(came) == mostKeys {
				at := r.Intn(len(came))
				left, e := lru.Del(o, came[at])
				checkErrno(t, came[at], e, api.OK)
				o, came = left, slices.Delete(came, at, at+1)
			}
			left, e := lru.Add(o, keyOf(i))
			checkErrno(t, keyOf(i), e, api.OK)
			o, came = left, append(came, keyOf(i))
			all, e := lru.All(o)
			checkKeys(t, "who came first", all, e, came)
			victim, e := lru.Victim(o)
			checkKeys(t, "who goes first", []string{victim}, e, came[:1])
			endIfFailed(t)
		}
	}
}

// P7.5: a key that was hit goes behind all others, and is not the victim where there are others; so it is with keys that come behind the hit, and with any that are taken out.
func TestAKeyThatWasHitGoesLast(t *testing.T) {
	for _, o := range smallOrders() {
		for _, key := range sorted(o) {
			left, e := lru.Hit(o, key)
			checkErrno(t, key, e, api.OK)
			checkGoesLast(t, left, key)
			for i := range 5 {
				left, e = lru.Add(left, keyOf(100+i))
				checkErrno(t, key, e, api.OK)
				checkGoesLast(t, left, key)
			}
			for _, other := range sorted(left) {
				if other == key {
					continue
				}
				left, e = lru.Del(left, other)
				checkErrno(t, other, e, api.OK)
				checkGoesLast(t, left, key)
			}
		}
	}
}

func checkGoesLast(t *testing.T, o api.Order, key string) {
	t.Helper()
	all, e := lru.All(o)
	if e != api.OK || all[len(all)-1] != key {
		t.Errorf("%v: %q, error %d: %q was hit", o, all, e, key)
	}
	victim, e := lru.Victim(o)
	if e != api.OK || (victim == key) != (many(o) == 1) {
		t.Errorf("%v: the victim is %q, error %d: %q was hit", o, victim, e, key)
	}
}

// P7.5: whatever is done behind a hit, the key goes behind all that stood beside it then and were not hit since.
func TestAKeyThatWasHitGoesBehindThoseThatWereNot(t *testing.T) {
	for seed := range int64(100) {
		r := rand.New(rand.NewSource(seed))
		var o api.Order
		came, hit := map[string]int{}, map[string]int{}
		for now := 1; now <= 150; now++ {
			key := keyOf(r.Intn(10))
			if left, e := lru.Add(o, key); e == api.OK {
				o, came[key], hit[key] = left, now, 0
			} else if r.Intn(4) == 0 {
				o, _ = lru.Del(o, key)
			} else {
				o, _ = lru.Hit(o, key)
				hit[key] = now
			}
			all, e := lru.All(o)
			checkErrno(t, o, e, api.OK)
			for i, a := range all {
				for _, b := range all[i+1:] {
					// a goes ahead of b.
					if hit[a] > came[b] && hit[a] > hit[b] {
						t.Fatalf("%v: %q was hit at %d and goes ahead of %q, which came at %d and was hit at %d", o, a, hit[a], b, came[b], hit[b])
					}
				}
			}
		}
	}
}

// W6: what is done to one tenant's order takes nothing from another one's, though both came of the same.
func TestOrdersOfSeveralTenants(t *testing.T) {
	r := rand.New(rand.NewSource(76))
	for range 50 {
		first := roomy(randomOrder(r))
		var orders [4]api.Order
		var models [4]*model
		for i := range orders {
			orders[i], models[i] = first, modelOf(first)
		}
		for range 200 {
			i, u, key := r.Intn(4), turns[r.Intn(len(turns))], keyOf(r.Intn(20))
			want := u.model(models[i], key)
			left, e := u.call(orders[i], key)
			checkErrno(t, key, e, want)
			if e == api.OK {
				orders[i] = left
			}
			for i, o := range orders {
				checkOrder(t, i, o, api.OK, models[i].order())
			}
			endIfFailed(t)
		}
	}
}

// P7.2, P7.3, P7.5: long runs from nothing, held against the model; some come to full orders.
func TestLongRuns(t *testing.T) {
	most := 0
	for seed := range int64(30) {
		r := rand.New(rand.NewSource(seed))
		keys, dels := []int{3, 6, 20, 100, 400}[seed%5], int(seed%4)
		var o api.Order
		for range 1200 {
			u := turns[r.Intn(2)]
			if r.Intn(10) < dels {
				u = turns[2]
			}
			o, _ = u.both(t, o, keyOf(r.Intn(keys)))
			most = max(most, many(o))
		}
		askBoth(t, o)
		all, e := lru.All(o)
		checkKeys(t, seed, all, e, drained(t, o))
	}
	if most < mostKeys {
		t.Error("no order came to be full:", most)
	}
}

// FuzzLru looks for steps by which an order comes to something else than one line of keys tells.
func FuzzLru(f *testing.F) {
	f.Add([]byte("\x00a\x00b\x00c\x01a\x01b\x01c\x02c"))
	f.Add([]byte("\x00a\x01a\x00b\x01b\x00c\x01a\x00c\x01x\x02c\x02a\x02b\x02b"))
	f.Fuzz(func(t *testing.T, steps []byte) {
		var o api.Order
		for ; len(steps) >= 2; steps = steps[2:] {
			o, _ = turns[int(steps[0])%len(turns)].both(t, o, string(steps[1:2]))
			askBoth(t, o)
		}
	})
}
