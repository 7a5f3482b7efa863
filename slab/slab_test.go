package slab_test

import (
	"math/rand"
	"testing"

	"cloakroom/api"
	"cloakroom/slab"
)

// The chapter's examples.
func TestExamples(t *testing.T) {
	for size, want := range map[int]int{1: 0, 16: 0, 17: 1, 256: 4} {
		n, e := slab.Class(size)
		checkNumber(t, size, n, e, want)
	}
	n, e := slab.Class(257)
	checkRefused(t, "Class(257)", e, api.ErrArg, api.Slab{}, n)
	n, e = slab.Size(4)
	checkNumber(t, "Size(4)", n, e, 256)
	n, e = slab.Chunks(0)
	checkNumber(t, "Chunks(0)", n, e, 16)

	s, e := slab.New(2)
	checkSlab(t, "New(2)", s, e, slabOf(api.Page{}, api.Page{}))
	first, page, chunk, e := slab.Take(s, 1, 4, 1)
	checkSlab(t, "the first", first, e, slabOf(api.Page{Tenant: 1, Class: 4, Used: 1}, api.Page{}))
	if page != 0 || chunk != 0 {
		t.Error("the first", page, chunk)
	}
	left, page, chunk, e := slab.Take(first, 1, 4, 1)
	checkRefused(t, "the first again", e, api.ErrFull, left, page, chunk)
	second, page, chunk, e := slab.Take(first, 2, 3, 2)
	checkSlab(t, "the second", second, e, slabOf(api.Page{Tenant: 1, Class: 4, Used: 1}, api.Page{Tenant: 2, Class: 3, Used: 1}))
	if page != 1 || chunk != 0 {
		t.Error("the second", page, chunk)
	}
	third, page, chunk, e := slab.Take(second, 2, 3, 2)
	checkSlab(t, "the third", third, e, slabOf(api.Page{Tenant: 1, Class: 4, Used: 1}, api.Page{Tenant: 2, Class: 3, Used: 3}))
	if page != 1 || chunk != 1 {
		t.Error("the third", page, chunk)
	}
	left, page, chunk, e = slab.Take(third, 2, 3, 1)
	checkRefused(t, "again, with quota 1", e, api.ErrFull, left, page, chunk)

	back, e := slab.Free(first, 0, 0)
	checkSlab(t, "Free of the first", back, e, s)
	n, e = slab.Owned(back, 1)
	checkNumber(t, "Owned(it, 1)", n, e, 0)
	n, e = slab.Last(second, 2)
	checkNumber(t, "Last(of the second, 2)", n, e, 1)
	left, e = slab.Free(s, 0, 0)
	checkRefused(t, "Free(S, 0, 0)", e, api.ErrNone, left)
}

// P5.1
func TestNew(t *testing.T) {
	for pages := 1; pages <= maxPages; pages++ {
		s, e := slab.New(pages)
		checkSlab(t, pages, s, e, free(pages))
		checkErrno(t, pages, slab.Check(s), api.OK)
		askBoth(t, s)
	}
	for _, pages := range []int{0, -1, -2, -maxPages, maxPages + 1, maxPages + 2, 2 * maxPages, 256, 1 << 32, 1<<32 + 1, 1 << 60, top, least, least + 1} {
		s, e := slab.New(pages)
		checkRefused(t, pages, e, api.ErrArg, s)
	}
}

// P5.5: nor do two answers of New share memory.
func TestNewIsNewMemory(t *testing.T) {
	for _, pages := range []int{1, 2, maxPages} {
		a, _ := slab.New(pages)
		b, _ := slab.New(pages)
		spoil(a)
		c, _ := slab.New(pages)
		if !same(b, free(pages)) || !same(c, free(pages)) {
			t.Error(pages)
		}
	}
}

// P5.1: each page that there can be, with numbers in and beside their bounds.
func TestCheckOfEachPage(t *testing.T) {
	for tenant := -1; tenant <= maxTenants; tenant++ {
		for class := -1; class <= classes; class++ {
			for used := range 1 << 16 {
				want := api.ErrBad
				if tenant >= 0 && tenant < maxTenants && class >= 0 && class < classes && used > 0 && used < pow2(chunks[class]) {
					want = api.OK
				}
				if tenant == 0 && class == 0 && used == 0 {
					want = api.OK
				}
				p := api.Page{Tenant: tenant, Class: class, Used: uint16(used)}
				if e := slab.Check(slabOf(p)); e != want {
					t.Fatalf("%v: error %d, want %d", p, e, want)
				}
			}
		}
	}
}

// P5.1
func TestCheck(t *testing.T) {
	r := rand.New(rand.NewSource(51))
	for range 2000 {
		s := randomSlab(r)
		checkErrno(t, s, slab.Check(s), api.OK)
	}
	for _, s := range smallSlabs() {
		checkErrno(t, s, slab.Check(s), api.OK)
	}
	for pages := 1; pages <= maxPages; pages++ {
		s := free(pages)
		for i := range s.Pages {
			s.Pages[i] = full(3, 0)
		}
		checkErrno(t, s, slab.Check(s), api.OK)
	}
	for _, s := range wrongSlabs() {
		checkErrno(t, s, slab.Check(s), api.ErrBad)
	}
}

// P5.1: a page that may not be is found at each place, whatever stands around it.
func TestCheckFindsAWrongPage(t *testing.T) {
	r := rand.New(rand.NewSource(52))
	for i := range 3000 {
		s := randomSlab(r)
		wrong := wrongPages()
		s.Pages[r.Intn(len(s.Pages))] = wrong[i%len(wrong)]
		checkErrno(t, s, slab.Check(s), api.ErrBad)
	}
}

// P5.1: what counts is the pages that a slab has, not the room behind them.
func TestSpareRoomIsNoPartOfASlab(t *testing.T) {
	s := roomy(free(2))
	checkErrno(t, "Check", slab.Check(s), api.OK)
	askBoth(t, s)
	for tenant := range maxTenants {
		n, e := slab.Last(s, tenant)
		checkNumber(t, "Last", n, e, -1)
	}
	left, e := slab.Free(s, 2, 0)
	checkRefused(t, "Free", e, api.ErrArg, left)
	full := roomy(slabOf(full(1, 4)))
	left, page, chunk, e := slab.Take(full, 1, 4, maxPages)
	checkRefused(t, "Take", e, api.ErrFull, left, page, chunk)
	none := roomy(slabOf())
	checkErrno(t, "Check of none", slab.Check(none), api.ErrBad)
}

// P5.1
func TestClass(t *testing.T) {
	class := 0
	for size := 1; size <= maxItem; size++ {
		if size > sizes[class] {
			class++
		}
		n, e := slab.Class(size)
		checkNumber(t, size, n, e, class)
	}
	for _, size := range []int{0, -1, -16, -maxItem, maxItem + 1, maxItem + 2, 512, 1 << 16, 1<<16 + 1, 1 << 32, 1<<32 + 1, 1 << 62, top, least, least + 1} {
		n, e := slab.Class(size)
		checkRefused(t, size, e, api.ErrArg, api.Slab{}, n)
	}
}

// P5.1
func TestSizeAndChunks(t *testing.T) {
	for class := range classes {
		n, e := slab.Size(class)
		checkNumber(t, class, n, e, sizes[class])
		many, e := slab.Chunks(class)
		checkNumber(t, class, many, e, chunks[class])
	}
	for _, class := range []int{-1, -2, -5, classes, classes + 1, 16, 63, 64, 1 << 32, 1<<32 + 1, top, least, least + 1} {
		n, e := slab.Size(class)
		checkRefused(t, class, e, api.ErrArg, api.Slab{}, n)
		n, e = slab.Chunks(class)
		checkRefused(t, class, e, api.ErrArg, api.Slab{}, n)
	}
}

// P5.4: a free page has tenant 0's number, and is not its.
func TestOwnedAndLast(t *testing.T) {
	s := slabOf(full(2, 4), api.Page{}, api.Page{Class: 1, Used: 128}, full(2, 0), api.Page{Tenant: 3, Used: 1 << 15}, api.Page{}, api.Page{Tenant: 2, Class: 3, Used: 2}, api.Page{})
	for tenant, want := range [][2]int{{1, 2}, {0, -1}, {3, 6}, {1, 4}} {
		n, e := slab.Owned(s, tenant)
		checkNumber(t, tenant, n, e, want[0])
		n, e = slab.Last(s, tenant)
		checkNumber(t, tenant, n, e, want[1])
	}
	for tenant := range maxTenants {
		s := free(maxPages)
		for i := range s.Pages {
			s.Pages[i] = full(tenant, i%classes)
		}
		n, e := slab.Owned(s, tenant)
		checkNumber(t, tenant, n, e, 16)
		n, e = slab.Last(s, tenant)
		checkNumber(t, tenant, n, e, 15)
	}
	first := slabOf(full(0, 0), api.Page{}, api.Page{})
	n, e := slab.Last(first, 0)
	checkNumber(t, "the first page", n, e, 0)
	r := rand.New(rand.NewSource(54))
	for range 500 {
		askBoth(t, randomSlab(r))
	}
	for _, s := range smallSlabs() {
		askBoth(t, s)
	}
}

// P5.4: the slab's error stands ahead of the tenant's.
func TestOwnedAndLastOfWrongOnes(t *testing.T) {
	wrong := []int{-1, -2, maxTenants, maxTenants + 1, 16, 1 << 32, top, least}
	r := rand.New(rand.NewSource(55))
	for _, tenant := range wrong {
		for _, s := range []api.Slab{free(1), free(maxPages), slabOf(full(3, 4)), randomSlab(r)} {
			n, e := slab.Owned(s, tenant)
			checkRefused(t, tenant, e, api.ErrArg, api.Slab{}, n)
			n, e = slab.Last(s, tenant)
			checkRefused(t, tenant, e, api.ErrArg, api.Slab{}, n)
		}
	}
	for _, s := range wrongSlabs() {
		for _, tenant := range append(wrong, 0, 1, 2, 3) {
			n, e := slab.Owned(s, tenant)
			checkRefused(t, tenant, e, api.ErrBad, api.Slab{}, n)
			n, e = slab.Last(s, tenant)
			checkRefused(t, tenant, e, api.ErrBad, api.Slab{}, n)
		}
	}
}
