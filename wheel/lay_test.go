package wheel_test

import (
	"cmp"
	"maps"
	"slices"
	"strings"
	"testing"

	"cloakroom/api"
	"cloakroom/wheel"
)

const (
	least = -1 << 63
	top   = 1<<63 - 1
)

// The limits, written out, so that the program's own numbers are held against them.
const (
	maxClock   = 1 << 40
	maxTenants = 4
	maxKey     = 32
)

func name(tenant int, key string) api.Name { return api.Name{Tenant: tenant, Key: key} }

// names are those of one tenant.
func names(tenant int, keys ...string) []api.Name {
	var l []api.Name
	for _, k := range keys {
		l = append(l, name(tenant, k))
	}
	return l
}

// wrongNames may not be.
func wrongNames() []api.Name {
	var l []api.Name
	for _, tenant := range []int{-1, -2, least, maxTenants, maxTenants + 1, 1 << 32, top} {
		l = append(l, name(tenant, "a"), name(tenant, ""), name(tenant, strings.Repeat("k", maxKey+1)))
	}
	for tenant := range maxTenants {
		for _, many := range []int{0, maxKey + 1, maxKey + 2, 2 * maxKey, 1 << 12} {
			l = append(l, name(tenant, strings.Repeat("k", many)))
		}
	}
	return l
}

// made is a wheel at a moment.
func made(t *testing.T, now int) *wheel.Wheel {
	t.Helper()
	w, e := wheel.New(now)
	if e != api.OK || w == nil {
		t.Fatalf("New(%d): %v, error %d", now, w, e)
	}
	return w
}

// model is what a wheel is to be: all names with their moments, gone through each time.
type model struct {
	now   int
	until map[api.Name]int
}

func newModel(now int) *model { return &model{now, map[api.Name]int{}} }

func (m *model) add(n api.Name, until int) api.Errno {
	if until <= m.now || until > maxClock {
		return api.ErrArg
	}
	m.until[n] = until
	return api.OK
}

func (m *model) del(n api.Name) api.Errno {
	if _, ok := m.until[n]; !ok {
		return api.ErrNone
	}
	delete(m.until, n)
	return api.OK
}

func (m *model) tick(now int) ([]api.Name, api.Errno) {
	if now < m.now || now > maxClock {
		return nil, api.ErrArg
	}
	var l []api.Name
	for n, until := range m.until {
		if until <= now {
			l = append(l, n)
		}
	}
	slices.SortFunc(l, func(a, b api.Name) int {
		return cmp.Or(cmp.Compare(m.until[a], m.until[b]), cmp.Compare(a.Tenant, b.Tenant), cmp.Compare(a.Key, b.Key))
	})
	for _, n := range l {
		delete(m.until, n)
	}
	m.now = now
	return l, api.OK
}

// check fails unless the wheel has the model's moment and its names, with their moments.
func (m *model) check(t *testing.T, what any, w *wheel.Wheel) {
	t.Helper()
	if now, e := w.Now(); now != m.now || e != api.OK {
		t.Fatalf("%v: Now is %d, error %d, want %d", what, now, e, m.now)
	}
	if many, e := w.Len(); many != len(m.until) || e != api.OK {
		t.Fatalf("%v: Len is %d, error %d, want %d", what, many, e, len(m.until))
	}
	for n, want := range m.until {
		if until, e := w.Until(n); until != want || e != api.OK {
			t.Fatalf("%v: Until(%v) is %d, error %d, want %d", what, n, until, e, want)
		}
	}
}

// both have the same names, each in its own way; the order in which they are added hangs on a map.
func both(t *testing.T, now int, until map[api.Name]int) (*wheel.Wheel, *model) {
	t.Helper()
	w, m := made(t, now), newModel(now)
	for n, moment := range until {
		checkErrno(t, n, w.Add(n, moment), api.OK)
		checkErrno(t, n, m.add(n, moment), api.OK)
	}
	m.check(t, "made", w)
	return w, m
}

// tickBoth lets both clocks go on, and fails unless the same names are due.
func tickBoth(t *testing.T, w *wheel.Wheel, m *model, now int) []api.Name {
	t.Helper()
	want, wantE := m.tick(now)
	l, e := w.Tick(now)
	if e != wantE || !slices.Equal(l, want) {
		t.Fatalf("Tick(%d): %v, error %d, want %v, error %d", now, l, e, want, wantE)
	}
	return l
}

func clone(m map[api.Name]int) map[api.Name]int { return maps.Clone(m) }

func checkErrno(t *testing.T, what any, e, want api.Errno) {
	t.Helper()
	if e != want {
		t.Errorf("%v: error %d, want %d", what, e, want)
	}
}

func checkNumber(t *testing.T, what any, got int, e api.Errno, want int) {
	t.Helper()
	if got != want || e != api.OK {
		t.Errorf("%v: %d, error %d, want %d", what, got, e, want)
	}
}

// checkRefused fails unless the error is the wanted one, and nothing stands beside it.
func checkRefused(t *testing.T, what any, e, want api.Errno, number int, l []api.Name) {
	t.Helper()
	if e != want {
		t.Errorf("%v: error %d, want %d", what, e, want)
	}
	if number != 0 || len(l) != 0 {
		t.Errorf("%v: beside error %d stand %d and %v", what, e, number, l)
	}
}

func checkDue(t *testing.T, what any, l []api.Name, e api.Errno, want ...api.Name) {
	t.Helper()
	if e != api.OK || !slices.Equal(l, want) {
		t.Errorf("%v: %v, error %d, want %v", what, l, e, want)
	}
}
