package wheel_test

import (
	"strings"
	"testing"
	"unsafe"

	"cloakroom/api"
	"cloakroom/wheel"
)

// The chapter's examples.
func TestExamples(t *testing.T) {
	w := made(t, 10)
	checkErrno(t, "Add(0 a, 20)", w.Add(name(0, "a"), 20), api.OK)
	checkErrno(t, "Add(0 b, 12)", w.Add(name(0, "b"), 12), api.OK)
	checkErrno(t, "Add(1 a, 20)", w.Add(name(1, "a"), 20), api.OK)
	l, e := w.Tick(11)
	checkDue(t, "Tick(11)", l, e)
	l, e = w.Tick(20)
	checkDue(t, "Tick(20)", l, e, name(0, "b"), name(0, "a"), name(1, "a"))

	w = made(t, 10)
	checkErrno(t, "Add(0 a, 20)", w.Add(name(0, "a"), 20), api.OK)
	checkErrno(t, "Add(0 a, 30)", w.Add(name(0, "a"), 30), api.OK)
	l, e = w.Tick(25)
	checkDue(t, "Tick(25)", l, e)
	until, e := w.Until(name(0, "a"))
	checkNumber(t, "Until(0 a)", until, e, 30)

	w = made(t, 10)
	checkErrno(t, "Add(0 a, 10) at 10", w.Add(name(0, "a"), 10), api.ErrArg)
	checkErrno(t, "Del(0 a)", w.Del(name(0, "a")), api.ErrNone)
	l, e = w.Tick(9)
	checkRefused(t, "Tick(9)", e, api.ErrArg, 0, l)
	w, e = wheel.New(-1)
	checkErrno(t, "New(-1)", e, api.ErrArg)
	if w != nil {
		t.Error("beside ErrArg stands a wheel")
	}
}

// P4.1: at any moment that may be, without names.
func TestNew(t *testing.T) {
	for _, now := range []int{0, 1, 2, 63, 64, 4095, 4096, 1 << 39, maxClock - 1, maxClock} {
		w := made(t, now)
		newModel(now).check(t, now, w)
		for tenant := range maxTenants {
			until, e := w.Until(name(tenant, "a"))
			checkRefused(t, now, e, api.ErrNone, until, nil)
		}
		for _, later := range []int{now, maxClock} {
			l, e := w.Tick(later)
			checkDue(t, []any{now, later}, l, e)
		}
	}
}

// P4.1
func TestNewOfWrongMoments(t *testing.T) {
	for _, now := range []int{-1, -2, -1 << 40, least, maxClock + 1, maxClock + 2, 1 << 41, 1 << 62, top} {
		w, e := wheel.New(now)
		checkErrno(t, now, e, api.ErrArg)
		if w != nil {
			t.Error(now, "beside the error stands a wheel")
		}
	}
}

// P4.1: every method of a wheel that New did not make, be the other arguments right or wrong.
func TestNotMadeByNew(t *testing.T) {
	copied := *made(t, 0)
	refused, _ := wheel.New(-1)
	for what, w := range map[string]*wheel.Wheel{"nil": nil, "new": new(wheel.Wheel), "a literal": {}, "a copy": &copied, "refused": refused} {
		for _, n := range append(wrongNames(), name(0, "a"), name(3, "b"), api.Name{}) {
			for _, until := range []int{1, 0, -1, least, maxClock, maxClock + 1, top} {
				checkErrno(t, []any{what, "Add", n, until}, w.Add(n, until), api.ErrNil)
			}
			checkErrno(t, []any{what, "Del", n}, w.Del(n), api.ErrNil)
			until, e := w.Until(n)
			checkRefused(t, []any{what, "Until", n}, e, api.ErrNil, until, nil)
		}
		for _, now := range []int{0, 1, -1, least, maxClock, maxClock + 1, top} {
			l, e := w.Tick(now)
			checkRefused(t, []any{what, "Tick", now}, e, api.ErrNil, 0, l)
		}
		many, e := w.Len()
		checkRefused(t, []any{what, "Len"}, e, api.ErrNil, many, nil)
		now, e := w.Now()
		checkRefused(t, []any{what, "Now"}, e, api.ErrNil, now, nil)
	}
}

// P4.1: a copy that is refused does nothing to the wheel that it was made of.
func TestCopyOfAWheel(t *testing.T) {
	w, m := both(t, 5, map[api.Name]int{name(0, "a"): 6, name(1, "b"): 500})
	copied := *w
	copied.Add(name(0, "c"), 9)
	copied.Del(name(0, "a"))
	copied.Tick(1000)
	m.check(t, "the wheel", w)
	tickBoth(t, w, m, 1000)
}

// P4.2: names are told apart by both the tenant and the key, byte by byte.
func TestAddUntilDel(t *testing.T) {
	w, m := made(t, 10), newModel(10)
	all := []api.Name{name(0, "a"), name(1, "a"), name(2, "a"), name(3, "a"), name(0, "b"), name(0, "A"), name(0, "aa"), name(0, "\x00"), name(0, "\x00\x00"), name(0, "\xff"), name(1, "é"), name(1, "e\u0301"), name(1, " "), name(1, "a b"), name(3, strings.Repeat("a", maxKey)), name(3, strings.Repeat("a", maxKey-1))}
	for i, n := range all {
		until, e := w.Until(n)
		checkRefused(t, n, e, api.ErrNone, until, nil)
		checkErrno(t, n, w.Del(n), api.ErrNone)
		checkErrno(t, n, w.Add(n, 20+1000*i), api.OK)
		m.add(n, 20+1000*i)
		m.check(t, n, w)
	}
	for i, n := range all {
		checkErrno(t, n, w.Del(n), api.OK)
		m.del(n)
		m.check(t, n, w)
		until, e := w.Until(n)
		checkRefused(t, n, e, api.ErrNone, until, nil)
		checkErrno(t, n, w.Del(n), api.ErrNone)
		checkErrno(t, i, w.Del(name(n.Tenant, n.Key[:1]+"?")), api.ErrNone)
	}
	tickBoth(t, w, m, maxClock)
}

// P4.2: the edges of until, at moments of all kinds.
func TestAddAtTheEdgesOfUntil(t *testing.T) {
	n := name(2, "key")
	for _, now := range []int{0, 1, 62, 63, 64, 65, 4094, 4095, 4096, 1<<18 - 1, 1 << 18, 1<<36 - 1, 1 << 36, 1 << 39, maxClock - 2, maxClock - 1} {
		for _, until := range []int{now + 1, min(now+2, maxClock), maxClock - 1, maxClock} {
			if until <= now {
				continue
			}
			w, m := both(t, now, map[api.Name]int{n: until})
			for _, wrong := range []int{now, now - 1, 0, -1, least, maxClock + 1, maxClock + 2, 1 << 41, top} {
				checkErrno(t, []any{now, until, wrong}, w.Add(n, wrong), api.ErrArg)
				checkErrno(t, []any{now, until, wrong}, w.Add(name(0, "other"), wrong), api.ErrArg)
				m.check(t, []any{now, until, wrong}, w)
			}
			tickBoth(t, w, m, until-1)
			if l := tickBoth(t, w, m, until); len(l) != 1 {
				t.Error(now, until, l)
			}
		}
	}
}

// P4.2: at the last moment nothing can be added any more.
func TestAddAtTheLastMoment(t *testing.T) {
	w := made(t, maxClock)
	for _, until := range []int{maxClock - 1, maxClock, maxClock + 1} {
		checkErrno(t, until, w.Add(name(0, "a"), until), api.ErrArg)
	}
	newModel(maxClock).check(t, "at the end", w)
}

// P4.2: until is held against what the clock is now, not what it was.
func TestAddBehindATick(t *testing.T) {
	w, m := made(t, 10), newModel(10)
	tickBoth(t, w, m, 500)
	for _, until := range []int{11, 499, 500} {
		checkErrno(t, until, w.Add(name(0, "a"), until), api.ErrArg)
		m.check(t, until, w)
	}
	checkErrno(t, 501, w.Add(name(0, "a"), 501), api.OK)
	m.add(name(0, "a"), 501)
	m.check(t, 501, w)
	tickBoth(t, w, m, 501)
}

// P4.2: another moment instead of the one it had, be it lesser, greater, the same, near or far.
func TestAddAgain(t *testing.T) {
	n := name(1, "again")
	moments := []int{101, 102, 110, 127, 128, 164, 4095, 4096, 4097, 5000, 1 << 18, 1<<30 + 7, 1 << 39, maxClock - 1, maxClock}
	for _, first := range moments {
		for _, second := range moments {
			w, m := both(t, 100, map[api.Name]int{n: first, name(0, "other"): first})
			checkErrno(t, []any{first, second}, w.Add(n, second), api.OK)
			m.add(n, second)
			m.check(t, []any{first, second}, w)
			for _, now := range []int{min(first, second) - 1, min(first, second), max(first, second) - 1, max(first, second), maxClock} {
				if now >= m.now {
					tickBoth(t, w, m, now)
					m.check(t, []any{first, second, now}, w)
				}
			}
		}
	}
}

// P4.2: what has gone, by Del or by the clock, can be added anew.
func TestAddAnew(t *testing.T) {
	w, m := made(t, 0), newModel(0)
	n := name(3, "anew")
	for i := range 200 {
		until := m.now + 1 + i*i
		checkErrno(t, i, w.Add(n, until), api.OK)
		m.add(n, until)
		if i%3 == 0 {
			checkErrno(t, i, w.Del(n), api.OK)
			m.del(n)
		}
		m.check(t, i, w)
		tickBoth(t, w, m, until)
		m.check(t, i, w)
		checkErrno(t, i, w.Del(n), api.ErrNone)
	}
}

// P4.2: a name that is deleted is not due, though others of its moment are.
func TestDelOfOneOfAMoment(t *testing.T) {
	for _, until := range []int{1, 64, 5000, maxClock} {
		w, m := both(t, 0, map[api.Name]int{name(0, "a"): until, name(0, "b"): until, name(1, "a"): until, name(1, "b"): until})
		for _, n := range []api.Name{name(0, "b"), name(1, "a")} {
			checkErrno(t, n, w.Del(n), api.OK)
			m.del(n)
			m.check(t, n, w)
		}
		tickBoth(t, w, m, maxClock)
	}
}

// P4.2: names may be, or not, by their tenants and by how many bytes their keys have.
func TestNamesThatMayBe(t *testing.T) {
	w, m := made(t, 0), newModel(0)
	for tenant := range maxTenants {
		for many := 1; many <= maxKey; many++ {
			n := name(tenant, strings.Repeat("\xc3", many))
			checkErrno(t, n, w.Add(n, 9), api.OK)
			m.add(n, 9)
		}
	}
	m.check(t, "all that may be", w)
	for _, n := range wrongNames() {
		checkErrno(t, []any{"Add", n}, w.Add(n, 9), api.ErrBad)
		checkErrno(t, []any{"Del", n}, w.Del(n), api.ErrBad)
		until, e := w.Until(n)
		checkRefused(t, []any{"Until", n}, e, api.ErrBad, until, nil)
		m.check(t, n, w)
	}
	if l := tickBoth(t, w, m, 9); len(l) != maxTenants*maxKey {
		t.Error(len(l), "names were due")
	}
}

// P4.2: a name that may not be stands first, then its moment.
func TestWhichErrorOfAddStandsFirst(t *testing.T) {
	w, m := both(t, 10, map[api.Name]int{name(0, "a"): 20})
	for _, until := range []int{least, -1, 0, 9, 10, maxClock + 1, top} {
		for _, n := range wrongNames() {
			checkErrno(t, []any{n, until}, w.Add(n, until), api.ErrBad)
		}
		checkErrno(t, until, w.Add(name(0, "a"), until), api.ErrArg)
		checkErrno(t, until, w.Add(name(0, "b"), until), api.ErrArg)
		m.check(t, until, w)
	}
	tickBoth(t, w, m, 20)
}

// P4.2: what is asked changes nothing.
func TestAskingChangesNothing(t *testing.T) {
	w, m := both(t, 10, map[api.Name]int{name(0, "a"): 20, name(1, "b"): 4000})
	for range 3 {
		m.check(t, "asked", w)
		until, e := w.Until(name(0, "c"))
		checkRefused(t, "Until", e, api.ErrNone, until, nil)
	}
	tickBoth(t, w, m, 20)
	m.check(t, "behind it", w)
}

// P4.2, R2: wheels are apart from one another.
func TestTwoWheels(t *testing.T) {
	a, ma := both(t, 0, map[api.Name]int{name(0, "a"): 20, name(1, "b"): 4000})
	b, mb := both(t, 7, map[api.Name]int{name(0, "a"): 21})
	checkErrno(t, "Del", b.Del(name(0, "a")), api.OK)
	mb.del(name(0, "a"))
	ma.check(t, "a", a)
	checkErrno(t, "Add", a.Add(name(2, "c"), 8), api.OK)
	ma.add(name(2, "c"), 8)
	mb.check(t, "b", b)
	tickBoth(t, b, mb, 100000)
	ma.check(t, "a", a)
	tickBoth(t, a, ma, 20)
	mb.check(t, "b", b)
}

// The house keeps nothing that is handed in: a key that is a piece of a text does not hold the text.
func TestKeysAreKeptForThemselves(t *testing.T) {
	text := strings.Repeat("key", 1000)
	key := text[3:6]
	w := made(t, 0)
	for i := range 2 {
		checkErrno(t, i, w.Add(name(0, key), 5+i), api.OK)
	}
	l, e := w.Tick(6)
	checkDue(t, "Tick", l, e, name(0, "key"))
	if len(l) == 1 && unsafe.StringData(l[0].Key) == unsafe.StringData(key) {
		t.Error("the key is still a piece of the text")
	}
}
