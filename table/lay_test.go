package table_test

import (
	"cmp"
	"encoding/hex"
	"fmt"
	"maps"
	"slices"
	"strings"
	"testing"

	"cloakroom/api"
	"cloakroom/code"
	"cloakroom/table"
)

const (
	least = -1 << 63
	top   = 1<<63 - 1
)

// The limits, written out, so that the program's own numbers are held against them.
const (
	maxTenants = 4
	maxKey     = 32
	maxMoved   = 4
)

func name(tenant int, key string) api.Name { return api.Name{Tenant: tenant, Key: key} }

// nth is one of as many names as are asked for, no two of which are the same.
func nth(i int) api.Name { return name(i%maxTenants, fmt.Sprint("key ", i/maxTenants)) }

// absent is one that nth never is.
func absent(i int) api.Name { return name(i%maxTenants, fmt.Sprint("none ", i)) }

// wrongNames may not be.
func wrongNames() []api.Name {
	var l []api.Name
	for _, tenant := range []int{-1, -2, least, maxTenants, maxTenants + 1, 256, 1 << 32, top} {
		l = append(l, name(tenant, "a"), name(tenant, ""), name(tenant, strings.Repeat("k", maxKey+1)))
	}
	for tenant := range maxTenants {
		for _, many := range []int{0, maxKey + 1, maxKey + 2, 2 * maxKey, 1 << 12} {
			l = append(l, name(tenant, strings.Repeat("k", many)))
		}
	}
	return l
}

// chained are all keys that have a first part, and of each pair one, in order: a chain of pairs that come to one hash gives many of one hash.
func chained(t *testing.T, first string, pairs ...[2]string) []string {
	t.Helper()
	keys := []string{first}
	for _, pair := range pairs {
		var longer []string
		for _, k := range keys {
			longer = append(longer, k+pair[0], k+pair[1])
		}
		keys = longer
	}
	for i, k := range keys {
		b, err := hex.DecodeString(k)
		if err != nil {
			t.Fatal(err)
		}
		keys[i] = string(b)
	}
	return keys
}

// ofOneHash are lists of names: those of one list have one hash, be it that of their keys, or of their tenants and keys.
func ofOneHash(t *testing.T) map[string][]api.Name {
	t.Helper()
	lists := map[string][]api.Name{}
	for _, k := range chained(t, "", [2]string{"d887293e573f09d3", "5f1f5e023d1f37c3"}, [2]string{"f2101c374a273e37", "718a552b90f74007"}, [2]string{"4a04735c2f691059", "c99ae280610d4649"}, [2]string{"89584c2fa7607a71", "044e37bb7d7c1461"}) {
		lists["keys"] = append(lists["keys"], name(2, k))
		checkHash(t, k, 8268066356516790382)
	}
	for _, k := range chained(t, "", [2]string{"a71c69464621019a", "2482182a784d4faa"}, [2]string{"72de484908325aca", "f7743b25524a30da"}, [2]string{"5c3d4c223e5e4793", "d96135b6d07e0983"}, [2]string{"48885c9d5e1e55fc", "cb021541003e03ec"}) {
		lists["of tenant 0"] = append(lists["of tenant 0"], name(0, k))
		checkHash(t, "\x00"+k, 10704652735768551921)
	}
	heads := [maxTenants]string{"1d3824373c321e1d2137260d0c34211f", "240e2431362c751e201761093b0b6014", "61083efe690e13122236e9050d18201c", "ec0b26c37d2e090b79076a0d011f6011"}
	for tenant, head := range heads {
		for _, k := range chained(t, head, [2]string{"eeb15917655b2e6d", "6d492e2b1fbb787d"}, [2]string{"d57c6b65d1efedd6", "56221a79370f27a6"}) {
			lists["of all tenants"] = append(lists["of all tenants"], name(tenant, k))
			checkHash(t, string([]byte{byte(tenant)})+k, 7132353643813691831)
		}
	}
	for tenant := range maxTenants {
		lists["one key"] = append(lists["one key"], name(tenant, "key"))
	}
	return lists
}

func checkHash(t *testing.T, s string, want uint64) {
	t.Helper()
	if h := code.Hash(s); h != want {
		t.Fatalf("%x: hash %d, want %d", s, h, want)
	}
}

// model is what a table is to be: a map, sorted where all are told.
type model struct {
	numbers map[api.Name]int
	moved   int // in all calls
}

func newModel() *model { return &model{numbers: map[api.Name]int{}} }

func (m *model) all() []api.Name {
	return slices.SortedFunc(maps.Keys(m.numbers), func(a, b api.Name) int {
		return cmp.Or(cmp.Compare(a.Tenant, b.Tenant), cmp.Compare(a.Key, b.Key))
	})
}

// count fails, if the last call moved more than it may.
func (m *model) count(t *testing.T, x *table.Table) int {
	t.Helper()
	moved, e := x.Moved()
	if moved < 0 || moved > maxMoved || e != api.OK {
		t.Fatalf("%d names: Moved is %d, error %d", len(m.numbers), moved, e)
	}
	m.moved += moved
	return moved
}

// put, get and del are done by both, and fail unless both answer the same; they tell how many names were moved.
func (m *model) put(t *testing.T, x *table.Table, n api.Name, number int) int {
	t.Helper()
	if e := x.Put(n, number); e != api.OK {
		t.Fatalf("Put(%v, %d): error %d", n, number, e)
	}
	m.numbers[n] = number
	return m.count(t, x)
}

func (m *model) get(t *testing.T, x *table.Table, n api.Name) int {
	t.Helper()
	want, wantIs := m.numbers[n]
	number, is, e := x.Get(n)
	if number != want || is != wantIs || e != api.OK {
		t.Fatalf("Get(%v): %d, %v, error %d, want %d, %v", n, number, is, e, want, wantIs)
	}
	return m.count(t, x)
}

func (m *model) del(t *testing.T, x *table.Table, n api.Name) int {
	t.Helper()
	_, want := m.numbers[n]
	was, e := x.Del(n)
	if was != want || e != api.OK {
		t.Fatalf("Del(%v): %v, error %d, want %v", n, was, e, want)
	}
	delete(m.numbers, n)
	return m.count(t, x)
}

// look fails unless the table has the model's names; it asks for nothing that moves any.
func (m *model) look(t *testing.T, what any, x *table.Table) {
	t.Helper()
	checkLen(t, what, x, len(m.numbers))
	l, e := x.All()
	if e != api.OK || !slices.Equal(l, m.all()) {
		t.Fatalf("%v: All is %v, error %d, want %v", what, l, e, m.all())
	}
}

// check fails unless the table has the model's names with their numbers, and no others.
func (m *model) check(t *testing.T, what any, x *table.Table) {
	t.Helper()
	m.look(t, what, x)
	for i, n := range m.all() {
		m.get(t, x, n)
		m.get(t, x, absent(i))
	}
	m.look(t, what, x)
}

// both have these names, the first with the number 0, and so on.
func both(t *testing.T, names ...api.Name) (*table.Table, *model) {
	t.Helper()
	x, m := table.New(), newModel()
	for i, n := range names {
		m.put(t, x, n, i)
	}
	return x, m
}

// nths are the first many names that nth gives.
func nths(many int) []api.Name {
	var l []api.Name
	for i := range many {
		l = append(l, nth(i))
	}
	return l
}

func checkErrno(t *testing.T, what any, e, want api.Errno) {
	t.Helper()
	if e != want {
		t.Errorf("%v: error %d, want %d", what, e, want)
	}
}

func checkLen(t *testing.T, what any, x *table.Table, want int) {
	t.Helper()
	if many, e := x.Len(); many != want || e != api.OK {
		t.Fatalf("%v: Len is %d, error %d, want %d", what, many, e, want)
	}
}

func checkMoved(t *testing.T, what any, x *table.Table, want int) {
	t.Helper()
	if moved, e := x.Moved(); moved != want || e != api.OK {
		t.Errorf("%v: Moved is %d, error %d, want %d", what, moved, e, want)
	}
}

// checkRefused fails unless every call of one name is refused by this error, with nothing beside it.
func checkRefused(t *testing.T, what any, x *table.Table, n api.Name, want api.Errno) {
	t.Helper()
	if number, is, e := x.Get(n); number != 0 || is || e != want {
		t.Errorf("%v: Get(%v): %d, %v, error %d, want error %d", what, n, number, is, e, want)
	}
	for _, number := range []int{0, 1, -1, least, top} {
		if e := x.Put(n, number); e != want {
			t.Errorf("%v: Put(%v, %d): error %d, want %d", what, n, number, e, want)
		}
	}
	if was, e := x.Del(n); was || e != want {
		t.Errorf("%v: Del(%v): %v, error %d, want error %d", what, n, was, e, want)
	}
}
