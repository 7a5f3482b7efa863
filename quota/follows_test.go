package quota_test

import (
	"math/rand"
	"slices"
	"testing"

	"cloakroom/api"
	"cloakroom/quota"
	"cloakroom/slab"
)

// begins takes a page for a tenant that has room, and ends the test unless one is found that was free, and nobody has more than its quota then.
func begins(t *testing.T, s api.Slab, q []int, tenant int) api.Slab {
	t.Helper()
	for class := range classes {
		if slices.ContainsFunc(s.Pages, func(p api.Page) bool {
			return p.Used != 0 && p.Tenant == tenant && p.Class == class && p != full(tenant, class)
		}) {
			continue
		}
		left, page, _, e := slab.Take(s, tenant, class, q[tenant])
		if e != api.OK || s.Pages[page] != (api.Page{}) {
			t.Fatalf("%v, quotas %v: tenant %d is refused a page: error %d", s, q, tenant, e)
		}
		if !keeps(left, q) || pagesOf(left, tenant) != pagesOf(s, tenant)+1 {
			t.Fatalf("%v, quotas %v: behind a page for tenant %d: %v", s, q, tenant, left)
		}
		return left
	}
	return s
}

// checkKept ends the test unless nobody of a slab that keeps quotas is over its own, and whoever has room finds a free page.
func checkKept(t *testing.T, s api.Slab, q []int) {
	t.Helper()
	if !keeps(s, q) {
		t.Fatalf("%v does not keep %v", s, q)
	}
	for tenant := range q {
		checkCount(t, s, q, tenant)
		over, _ := quota.Over(s, q, tenant)
		room, _ := quota.Room(s, q, tenant)
		if over != 0 || room && freePages(s) == 0 {
			t.Fatalf("%v, quotas %v, tenant %d: room %v, over %d", s, q, tenant, room, over)
		}
	}
}

// P8.5, W6: where a slab keeps quotas, whoever has fewer pages than its quota finds a free one.
func TestWhoHasRoomFindsAPage(t *testing.T) {
	r := rand.New(rand.NewSource(88))
	found := 0
	for range 5000 {
		pool := 1 + r.Intn(maxPages)
		q := randomQuotas(r, pool)
		s := keeping(r, pool, q)
		checkKept(t, s, q)
		for tenant := range q {
			if room, _ := quota.Room(s, q, tenant); room {
				begins(t, s, q, tenant)
				found++
			}
		}
	}
	if found < 1000 {
		t.Error("too few", found)
	}
}

// P8.5, W6: all of a small pool: each quotas, and each number of pages that keeps them.
func TestWhoHasRoomInASmallPool(t *testing.T) {
	r := rand.New(rand.NewSource(89))
	for pool := 1; pool <= 4; pool++ {
		for many := 1; many <= maxTenants; many++ {
			for _, q := range listsOf(many, upTo(0, pool)) {
				if quota.Check(pool, q) != api.OK {
					continue
				}
				for _, have := range listsOf(many, upTo(0, pool)) {
					free := pool
					for _, pages := range have {
						free -= pages
					}
					if free < 0 {
						continue
					}
					if s := shared(r, free, have...); keeps(s, q) {
						checkKept(t, s, q)
					}
				}
			}
		}
	}
}

// P8.5, W6: each one fills up its quota, whatever the others have, and in whichever order they come; then nobody has room.
func TestAllFillTheirQuotas(t *testing.T) {
	r := rand.New(rand.NewSource(90))
	for range 300 {
		pool := 1 + r.Intn(maxPages)
		q := randomQuotas(r, pool)
		s := slabOf(make([]api.Page, pool)...)
		for _, n := range r.Perm(maxTenants * maxPages) {
			tenant := n % maxTenants
			if room, e := quota.Room(s, q, tenant); e != api.OK || !room {
				continue
			}
			s, _, _, _ = slab.Take(s, tenant, 4, q[tenant])
			checkKept(t, s, q)
		}
		for tenant, pages := range q {
			if pagesOf(s, tenant) != pages {
				t.Fatalf("%v, quotas %v: tenant %d", s, q, tenant)
			}
			checkRoom(t, s, q, tenant, false, 0, api.OK)
		}
	}
}

// P8.5: a quota that is set changes no other one, nor how many there are; set back, all are as they were.
func TestSetChangesNoOtherOne(t *testing.T) {
	r := rand.New(rand.NewSource(91))
	set := 0
	for range 5000 {
		pool := 1 + r.Intn(maxPages)
		q := randomQuotas(r, pool)
		tenant, pages := r.Intn(len(q)), r.Intn(pool+1)
		then, e := quota.Set(pool, q, tenant, pages)
		if e != api.OK {
			checkQuotas(t, q, then, e, nil, api.ErrQuota)
			continue
		}
		set++
		if len(then) != len(q) || then[tenant] != pages {
			t.Fatalf("Set(%d, %v, %d, %d): %v", pool, q, tenant, pages, then)
		}
		for i := range q {
			if i != tenant && then[i] != q[i] {
				t.Fatalf("Set(%d, %v, %d, %d): %v: tenant %d's changed", pool, q, tenant, pages, then, i)
			}
		}
		before, _ := quota.Sum(q)
		behind, e := quota.Sum(then)
		checkNumber(t, then, behind, e, before-q[tenant]+pages, api.OK)
		back, e := quota.Set(pool, then, tenant, q[tenant])
		checkQuotas(t, then, back, e, q, api.OK)
	}
	if set < 1000 {
		t.Error("too few", set)
	}
}

// P8.5: what another tenant's room and pages too many are hangs on its own quota and pages alone.
func TestSetLeavesOthersTheirRoom(t *testing.T) {
	r := rand.New(rand.NewSource(92))
	for range 2000 {
		s := randomSlab(r)
		q := randomQuotas(r, len(s.Pages))
		tenant := r.Intn(len(q))
		then, e := quota.Set(len(s.Pages), q, tenant, r.Intn(q[tenant]+1))
		checkErrno(t, then, e, api.OK)
		for other := range q {
			if other == tenant {
				continue
			}
			room, _ := quota.Room(s, q, other)
			over, _ := quota.Over(s, q, other)
			checkRoom(t, s, then, other, room, over, api.OK)
		}
	}
}

// P8.5: a tenant that gives back as many pages as Over tells keeps its quota, and one page fewer would not do.
func TestWhatIsOverGoes(t *testing.T) {
	r := rand.New(rand.NewSource(93))
	went := 0
	for range 3000 {
		s := randomSlab(r)
		q := randomQuotas(r, len(s.Pages))
		for tenant := range q {
			over, e := quota.Over(s, q, tenant)
			checkErrno(t, s, e, api.OK)
			for left := over; left > 0; left-- {
				checkRoom(t, s, q, tenant, false, left, api.OK)
				s = emptied(t, s, tenant)
				went++
			}
			if have := pagesOf(s, tenant); have > q[tenant] || over > 0 && have != q[tenant] {
				t.Fatalf("%v, quotas %v: tenant %d has %d, behind %d that went", s, q, tenant, have, over)
			}
			checkCount(t, s, q, tenant)
		}
	}
	if went < 1000 {
		t.Error("too few", went)
	}
}

// P8.5, W6: quotas are set, what is over goes, tenants take and give back: all along the slab keeps the quotas, nobody below its own is refused, and nobody loses a page by another one.
func TestLongRuns(t *testing.T) {
	for seed := range int64(60) {
		r := rand.New(rand.NewSource(seed))
		pool := 1 + r.Intn(maxPages)
		q := randomQuotas(r, pool)
		s := slabOf(make([]api.Page, pool)...)
		for range 300 {
			tenant := r.Intn(len(q))
			was := s
			switch r.Intn(4) {
			case 0:
				q, _ = setBoth(t, pool, q, tenant, r.Intn(pool+1))
				over, _ := quota.Over(s, q, tenant)
				for range over {
					s = emptied(t, s, tenant)
				}
			case 1:
				if pagesOf(s, tenant) > 0 {
					s = emptied(t, s, tenant)
				}
			default:
				if room, _ := quota.Room(s, q, tenant); room {
					s = begins(t, s, q, tenant)
				}
			}
			checkKept(t, s, q)
			for i, p := range was.Pages {
				if p.Used != 0 && p.Tenant != tenant && p != s.Pages[i] {
					t.Fatalf("%v, then %v: a page that is not tenant %d's changed", was, s, tenant)
				}
			}
		}
	}
}

// Looks for quotas, and slabs, of which something else is told than counting tells.
func FuzzQuota(f *testing.F) {
	f.Add(4, 1, 2, []byte{2, 1}, []byte{1, 0, 0, 0})
	f.Add(16, 0, 17, []byte{4, 4, 4, 4}, []byte{1, 2, 3, 4, 5, 6, 7, 8, 9, 10, 11, 12, 13, 14, 15, 16})
	f.Add(2, -1, -1, []byte{255, 3}, []byte{200, 7})
	f.Fuzz(func(t *testing.T, pool, tenant, pages int, numbers, uses []byte) {
		var q []int
		for _, n := range numbers {
			q = append(q, int(int8(n)))
		}
		var s api.Slab
		for _, n := range uses {
			p := api.Page{}
			if n != 0 {
				p = full(int(n)%maxTenants, int(n)/maxTenants%classes)
			}
			s.Pages = append(s.Pages, p)
		}
		checkErrno(t, q, quota.Check(pool, q), wantCheck(pool, q))
		want, wantE := wantSum(q)
		sum, e := quota.Sum(q)
		checkNumber(t, q, sum, e, want, wantE)
		setBoth(t, pool, q, tenant, pages)
		if len(uses) < 1 || len(uses) > maxPages {
			checkRoom(t, s, q, tenant, false, 0, api.ErrBad)
		} else {
			checkCount(t, s, q, tenant)
		}
	})
}
