package table_test

import (
	"math/rand"
	"slices"
	"strings"
	"testing"
	"unsafe"

	"cloakroom/api"
	"cloakroom/table"
)

// The chapter's examples.
func TestExamples(t *testing.T) {
	x := table.New()
	checkErrno(t, "Put(0 a, 5)", x.Put(name(0, "a"), 5), api.OK)
	checkErrno(t, "Put(1 a, 6)", x.Put(name(1, "a"), 6), api.OK)
	checkErrno(t, "Put(0 a, 7)", x.Put(name(0, "a"), 7), api.OK)
	if number, is, e := x.Get(name(0, "a")); number != 7 || !is || e != api.OK {
		t.Error("Get(0 a):", number, is, e)
	}
	checkLen(t, "Len", x, 2)
	if l, e := x.All(); e != api.OK || !slices.Equal(l, []api.Name{name(0, "a"), name(1, "a")}) {
		t.Error("All:", l, e)
	}
	for i, want := range []bool{true, false} {
		if was, e := x.Del(name(0, "a")); was != want || e != api.OK {
			t.Error("Del(0 a):", i, was, e)
		}
	}
	if number, is, e := x.Get(name(0, "a")); number != 0 || is || e != api.OK {
		t.Error("Get(0 a) behind Del:", number, is, e)
	}
	checkErrno(t, "Put(4 a, 1)", x.Put(name(4, "a"), 1), api.ErrBad)
	_, _, e := new(table.Table).Get(name(0, "a"))
	checkErrno(t, "Get of one that New did not make", e, api.ErrNil)
}

// P6.1: no name is there, nothing was moved.
func TestNew(t *testing.T) {
	x, m := table.New(), newModel()
	if x == nil {
		t.Fatal("New is nil")
	}
	checkMoved(t, "at first", x, 0)
	m.look(t, "at first", x)
	for tenant := range maxTenants {
		m.get(t, x, name(tenant, "a"))
		m.del(t, x, name(tenant, "a"))
	}
	m.check(t, "behind it", x)
}

// P6.1: every method of a table that New did not make, be the other arguments right or wrong.
func TestNotMadeByNew(t *testing.T) {
	x, m := both(t, nths(40)...)
	copied := *x
	for what, wrong := range map[string]*table.Table{"nil": nil, "new": new(table.Table), "a literal": {}, "a copy": &copied} {
		for _, n := range append(wrongNames(), nth(0), nth(39), absent(0), api.Name{}) {
			checkRefused(t, what, wrong, n, api.ErrNil)
		}
		if many, e := wrong.Len(); many != 0 || e != api.ErrNil {
			t.Errorf("%s: Len: %d, error %d", what, many, e)
		}
		if l, e := wrong.All(); len(l) != 0 || e != api.ErrNil {
			t.Errorf("%s: All: %v, error %d", what, l, e)
		}
		if moved, e := wrong.Moved(); moved != 0 || e != api.ErrNil {
			t.Errorf("%s: Moved: %d, error %d", what, moved, e)
		}
	}
	m.check(t, "the one that was copied", x)
}

// P6.2: names are told apart by both the tenant and the key, byte by byte; so is one key of several tenants.
func TestPutGetDel(t *testing.T) {
	all := []api.Name{name(0, "a"), name(1, "a"), name(2, "a"), name(3, "a"), name(0, "b"), name(0, "A"), name(0, "aa"), name(0, "\x00"), name(0, "\x00\x00"), name(0, "\x01"), name(0, "\x01a"), name(0, "\x00a"), name(0, "\xff"), name(1, "é"), name(1, "e\u0301"), name(1, " "), name(1, "a b"), name(3, strings.Repeat("a", maxKey)), name(3, strings.Repeat("a", maxKey-1))}
	x, m := table.New(), newModel()
	for i, n := range all {
		m.get(t, x, n)
		m.del(t, x, n)
		m.look(t, n, x)
		m.put(t, x, n, 10+i)
		m.check(t, n, x)
	}
	for _, n := range all {
		m.del(t, x, n)
		m.check(t, n, x)
		m.get(t, x, n)
		m.del(t, x, n)
		m.check(t, n, x)
	}
	checkLen(t, "at the end", x, 0)
}

// P6.2: any number, instead of any other one; 0 is told from none.
func TestNumbers(t *testing.T) {
	numbers := []int{0, 1, -1, 2, -2, 255, 1 << 31, -1 << 31, 1 << 32, least, least + 1, top - 1, top}
	n := name(3, "n")
	for _, first := range numbers {
		for _, second := range numbers {
			x, m := table.New(), newModel()
			m.put(t, x, n, first)
			m.put(t, x, name(2, "n"), second)
			m.check(t, first, x)
			m.put(t, x, n, second)
			m.check(t, second, x)
			m.del(t, x, n)
			m.check(t, "deleted", x)
			m.put(t, x, n, first)
			m.check(t, "put anew", x)
		}
	}
}

// P6.2: names may be, or not, by their tenants and by how many bytes their keys have.
func TestNamesThatMayBe(t *testing.T) {
	x, m := table.New(), newModel()
	for tenant := range maxTenants {
		for many := 1; many <= maxKey; many++ {
			m.put(t, x, name(tenant, strings.Repeat("\xc3", many)), 100*tenant+many)
		}
	}
	m.check(t, "all that may be", x)
	for _, n := range wrongNames() {
		checkRefused(t, "made", x, n, api.ErrBad)
		m.look(t, n, x)
	}
	m.check(t, "behind those that may not be", x)
	for tenant := range maxTenants {
		for many := 1; many <= maxKey; many++ {
			m.del(t, x, name(tenant, strings.Repeat("\xc3", many)))
		}
	}
	checkLen(t, "at the end", x, 0)
}

// P6.2: any byte may stand in a key.
func TestKeysOfAnyBytes(t *testing.T) {
	x, m := table.New(), newModel()
	for c := range 256 {
		m.put(t, x, name(c%maxTenants, string([]byte{byte(c)})), c)
		m.put(t, x, name(0, string([]byte{'a', byte(c), 'b'})), -c)
	}
	m.check(t, "any bytes", x)
}

// P6.2: by their tenants, then by their keys, byte by byte, in whichever order they were put.
func TestAllRises(t *testing.T) {
	keys := []string{"\x00", "\x00\x00", "\x00a", " ", "1", "10", "2", "A", "B", "a", "a\x00", "aa", "ab", "b", strings.Repeat("b", maxKey), "z", "\x7f", "\x80", "é", "\xff", "\xff\xff"}
	var want []api.Name
	for tenant := range maxTenants {
		for _, k := range keys {
			want = append(want, name(tenant, k))
		}
	}
	for seed := range int64(50) {
		x := table.New()
		for i, at := range rand.New(rand.NewSource(seed)).Perm(len(want)) {
			checkErrno(t, at, x.Put(want[at], i), api.OK)
		}
		for range 2 {
			if l, e := x.All(); e != api.OK || !slices.Equal(l, want) {
				t.Fatalf("seed %d: All is %v, error %d, want %v", seed, l, e, want)
			}
		}
	}
}

// P6.2: Len goes with each name that comes and goes, and with nothing else.
func TestLen(t *testing.T) {
	x := table.New()
	for i := range 100 {
		checkLen(t, i, x, i)
		for j := range 3 {
			checkErrno(t, i, x.Put(nth(i), j), api.OK)
			checkLen(t, i, x, i+1)
		}
		x.Get(absent(i))
		x.Del(absent(i))
		x.Put(api.Name{}, 1)
		x.All()
		x.Moved()
		checkLen(t, i, x, i+1)
	}
	for i := range 100 {
		for range 2 {
			_, e := x.Del(nth(i))
			checkErrno(t, i, e, api.OK)
			checkLen(t, i, x, 99-i)
		}
	}
}

// P6.2, R2: tables are apart from one another.
func TestTwoTables(t *testing.T) {
	a, ma := both(t, nths(30)...)
	b, mb := both(t, nths(20)...)
	for i := range 40 {
		mb.del(t, b, nth(i))
		ma.look(t, i, a)
		ma.put(t, a, nth(i), -i)
		mb.look(t, i, b)
	}
	ma.check(t, "a", a)
	mb.check(t, "b", b)
}

// P6.4: what All answers is its own, its spare room too, at any stage of the moving.
func TestNewMemory(t *testing.T) {
	for many := range 60 {
		x, m := both(t, nths(many)...)
		first, _ := x.All()
		second, _ := x.All()
		spoil(first)
		if !slices.Equal(second, m.all()) {
			t.Fatalf("%d names: the second answer changed with the first one", many)
		}
		m.look(t, many, x)
		spoil(second)
		m.check(t, many, x)
		m.put(t, x, absent(0), 1)
		third, _ := x.All()
		kept := slices.Clone(third)
		m.del(t, x, absent(0))
		m.put(t, x, absent(1), 1)
		m.check(t, many, x)
		if !slices.Equal(third, kept) {
			t.Fatalf("%d names: what was answered changed with the table", many)
		}
	}
}

// spoil changes all names of a list, and what stands behind them.
func spoil(l []api.Name) {
	for i := range l[:cap(l)] {
		l[:cap(l)][i] = name(77, "spoilt")
	}
	slices.Reverse(l)
	_ = append(l, name(78, "behind"))
}

// The house keeps nothing that is handed in: a key that is a piece of a text does not hold the text.
func TestKeysAreKeptForThemselves(t *testing.T) {
	text := strings.Repeat("key", 1000)
	key := text[3:6]
	x := table.New()
	for i := range 2 {
		checkErrno(t, i, x.Put(name(0, key), i), api.OK)
	}
	l, e := x.All()
	if e != api.OK || !slices.Equal(l, []api.Name{name(0, "key")}) {
		t.Fatal(l, e)
	}
	if unsafe.StringData(l[0].Key) == unsafe.StringData(key) {
		t.Error("the key is still a piece of the text")
	}
}
