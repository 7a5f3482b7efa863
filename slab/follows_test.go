package slab_test

import (
	"math/bits"
	"math/rand"
	"testing"

	"cloakroom/api"
	"cloakroom/slab"
)

// hasRoom tells whether a page of that tenant and class has a chunk that is not used.
func hasRoom(s api.Slab, tenant, class int) bool {
	for _, p := range s.Pages {
		if p.Used != 0 && p.Tenant == tenant && p.Class == class && bits.OnesCount16(p.Used) < chunks[class] {
			return true
		}
	}
	return false
}

func hasFree(s api.Slab) bool {
	for _, p := range s.Pages {
		if p.Used == 0 {
			return true
		}
	}
	return false
}

func owned(s api.Slab, tenant int) int {
	many := 0
	for _, p := range s.Pages {
		if p.Used != 0 && p.Tenant == tenant {
			many++
		}
	}
	return many
}

// checkTaken holds what Take answered against what it promises to follow.
func checkTaken(t *testing.T, s, left api.Slab, at spot, tenant, class, quota int) {
	t.Helper()
	checkErrno(t, left, slab.Check(left), api.OK)
	if len(left.Pages) != len(s.Pages) {
		t.Fatalf("%v: %d pages, want %d", s, len(left.Pages), len(s.Pages))
	}
	if have := owned(left, tenant); have > max(quota, owned(s, tenant)) {
		t.Errorf("%v: %d pages of %d", s, have, quota)
	}
	for i, p := range left.Pages {
		if i != at.page && p != s.Pages[i] {
			t.Errorf("%v: page %d changed", s, i)
		}
	}
	was, is := s.Pages[at.page], left.Pages[at.page]
	if was.Used != 0 && (was.Tenant != tenant || was.Class != class) {
		t.Errorf("%v: a chunk was taken in a page of tenant %d, class %d", s, was.Tenant, was.Class)
	}
	if is.Tenant != tenant || is.Class != class || is.Used&^was.Used != 1<<at.chunk || was.Used&^is.Used != 0 {
		t.Errorf("%v: page %d is %v", s, at.page, is)
	}
	back, e := slab.Free(left, at.page, at.chunk)
	checkSlab(t, "Free of what was taken", back, e, s)
}

// P5.6, W6: of any slabs.
func TestWhatFollowsOfTake(t *testing.T) {
	r := rand.New(rand.NewSource(61))
	taken, refused := 0, 0
	for range 5000 {
		s := randomSlab(r)
		tenant, class, quota := r.Intn(maxTenants), r.Intn(classes), r.Intn(maxPages+1)
		left, page, chunk, e := slab.Take(s, tenant, class, quota)
		may := hasRoom(s, tenant, class) || hasFree(s) && owned(s, tenant) < quota
		if may != (e == api.OK) || !may && e != api.ErrFull {
			t.Fatalf("Take(%v, %d, %d, %d): error %d", s, tenant, class, quota, e)
		}
		if e == api.OK {
			checkTaken(t, s, left, spot{page, chunk}, tenant, class, quota)
			taken++
		} else {
			refused++
		}
	}
	if taken < 500 || refused < 500 {
		t.Error("too few of one kind", taken, refused)
	}
}

// P5.6: nobody's chunk changes but the one that is given back.
func TestWhatFollowsOfFree(t *testing.T) {
	r := rand.New(rand.NewSource(62))
	for range 3000 {
		s := randomSlab(r)
		page, chunk := r.Intn(len(s.Pages)), r.Intn(16)
		left, e := slab.Free(s, page, chunk)
		if used := s.Pages[page].Used&(1<<chunk) != 0; used != (e == api.OK) {
			t.Fatalf("Free(%v, %d, %d): error %d", s, page, chunk, e)
		}
		if e != api.OK {
			continue
		}
		checkErrno(t, left, slab.Check(left), api.OK)
		for i, p := range left.Pages {
			want := s.Pages[i]
			if i == page {
				want.Used -= 1 << chunk
			}
			if want.Used == 0 {
				want = api.Page{}
			}
			if p != want {
				t.Errorf("Free(%v, %d, %d): page %d is %v", s, page, chunk, i, p)
			}
		}
	}
}

// P5.6: chunks fill a page before another one is begun, up to the quota.
func TestChunksFillAPage(t *testing.T) {
	for tenant := range maxTenants {
		for class := range classes {
			for _, quota := range []int{1, 2, maxPages} {
				s := free(maxPages)
				for n := range quota * chunks[class] {
					left, page, chunk, e := slab.Take(s, tenant, class, quota)
					if e != api.OK || page != n/chunks[class] || chunk != n%chunks[class] {
						t.Fatalf("class %d, %d: page %d, chunk %d, error %d", class, n, page, chunk, e)
					}
					s = left
				}
				left, page, chunk, e := slab.Take(s, tenant, class, quota)
				checkRefused(t, [3]int{tenant, class, quota}, e, api.ErrFull, left, page, chunk)
			}
		}
	}
}

// P5.6: with others taking in between, too, no page is begun while one of that tenant and class has room.
func TestChunksFillAPageAmongOthers(t *testing.T) {
	r := rand.New(rand.NewSource(63))
	for range 100 {
		s := free(maxPages)
		for range 150 {
			tenant, class := r.Intn(maxTenants), r.Intn(classes)
			room := hasRoom(s, tenant, class)
			left, page, chunk, e := slab.Take(s, tenant, class, 4)
			if e != api.OK {
				continue
			}
			if begun := s.Pages[page].Used == 0; begun == room {
				t.Fatalf("Take(%v, %d, %d, 4): page %d, chunk %d", s, tenant, class, page, chunk)
			}
			s = left
		}
		for i, p := range s.Pages {
			for _, q := range s.Pages[:i] {
				if p.Used != 0 && q.Used != 0 && p.Tenant == q.Tenant && p.Class == q.Class && q != full(q.Tenant, q.Class) {
					t.Fatalf("%v: two pages of one tenant and class, the first with room", s)
				}
			}
		}
	}
}

// W6: below the sum of quotas nobody is refused who is below its own, whatever the others do; nobody has more than it.
func TestNobodyIsRefusedBelowItsQuota(t *testing.T) {
	r := rand.New(rand.NewSource(64))
	for _, quotas := range [][maxTenants]int{{4, 4, 4, 4}, {1, 2, 3, 10}, {16, 0, 0, 0}, {0, 8, 8, 0}, {5, 5, 5, 1}} {
		s := free(maxPages)
		for range 3000 {
			tenant, class := r.Intn(maxTenants), r.Intn(classes)
			have := owned(s, tenant)
			left, at, e := takeBoth(t, s, tenant, class, quotas[tenant])
			if e != api.OK && have < quotas[tenant] {
				t.Fatalf("%v: tenant %d is refused with %d of %d pages", s, tenant, have, quotas[tenant])
			}
			if e == api.OK {
				checkTaken(t, s, left, at, tenant, class, quotas[tenant])
			}
			s, _ = freeBoth(t, left, r.Intn(maxPages), r.Intn(16))
			for tenant, quota := range quotas {
				if have := owned(s, tenant); have > quota {
					t.Fatalf("%v: tenant %d has %d of %d pages", s, tenant, have, quota)
				}
			}
		}
	}
}

// P5.2 to P5.4, P5.6: long runs, of several tenants, held against the model; the quotas change under way.
func TestLongRuns(t *testing.T) {
	for seed := range int64(40) {
		r := rand.New(rand.NewSource(seed))
		s := free(1 + r.Intn(maxPages))
		given := r.Intn(4)
		for range 400 {
			if r.Intn(5) > given {
				s, _, _ = takeBoth(t, s, r.Intn(maxTenants), r.Intn(classes), r.Intn(maxPages+1))
			} else {
				s, _ = freeBoth(t, s, r.Intn(len(s.Pages)), r.Intn(16))
			}
		}
		askBoth(t, s)
	}
}

// P5.6: what was taken, given back in any order, leaves the slab as it was.
func TestAllGivenBack(t *testing.T) {
	r := rand.New(rand.NewSource(65))
	for range 100 {
		first := randomSlab(r)
		s := first
		var took []spot
		for range 100 {
			left, page, chunk, e := slab.Take(s, r.Intn(maxTenants), r.Intn(classes), maxPages)
			if e == api.OK {
				s, took = left, append(took, spot{page, chunk})
			}
		}
		for _, i := range r.Perm(len(took)) {
			left, e := slab.Free(s, took[i].page, took[i].chunk)
			checkErrno(t, took[i], e, api.OK)
			s = left
		}
		checkSlab(t, "all given back", s, api.OK, first)
	}
}

// Looks for steps by which a slab comes to something else than its chunks tell.
func FuzzSlab(f *testing.F) {
	f.Add(uint8(2), []byte{0, 1, 4, 1, 0, 2, 3, 2, 1, 0, 0, 0})
	f.Add(uint8(16), []byte{0, 3, 0, 16, 0, 3, 0, 16, 1, 0, 1, 0, 1, 0, 0, 0})
	f.Fuzz(func(t *testing.T, pages uint8, steps []byte) {
		s, e := slab.New(int(pages))
		if pages < 1 || pages > maxPages {
			checkRefused(t, pages, e, api.ErrArg, s)
			return
		}
		for ; len(steps) >= 4; steps = steps[4:] {
			a, b, c := int(int8(steps[1])), int(int8(steps[2])), int(int8(steps[3]))
			if steps[0]%2 == 0 {
				s, _, _ = takeBoth(t, s, a, b, c)
			} else {
				s, _ = freeBoth(t, s, a, b)
			}
			checkErrno(t, s, slab.Check(s), api.OK)
			askBoth(t, s)
		}
	})
}
