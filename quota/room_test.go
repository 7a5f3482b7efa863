package quota_test

import (
	"math/rand"
	"slices"
	"testing"

	"cloakroom/api"
	"cloakroom/quota"
	"cloakroom/slab"
)

// P8.3: fewer pages than the quota, just as many, and more; of several tenants and classes.
func TestRoomAndOver(t *testing.T) {
	s := slabOf(full(2, 4), api.Page{}, api.Page{Class: 1, Used: 128}, full(2, 0), api.Page{Tenant: 3, Used: 1 << 15}, api.Page{}, api.Page{Tenant: 2, Class: 3, Used: 2}, api.Page{})
	for i, c := range []struct {
		q      []int
		tenant int
		room   bool
		over   int
	}{
		{[]int{1, 0, 3, 1}, 0, false, 0}, {[]int{1, 0, 3, 1}, 1, false, 0}, {[]int{1, 0, 3, 1}, 2, false, 0}, {[]int{1, 0, 3, 1}, 3, false, 0},
		{[]int{2, 1, 4, 1}, 0, true, 0}, {[]int{2, 1, 4, 1}, 1, true, 0}, {[]int{2, 1, 4, 1}, 2, true, 0}, {[]int{0, 0, 0, 8}, 3, true, 0},
		{[]int{0, 0, 2, 0}, 0, false, 1}, {[]int{0, 0, 2, 0}, 1, false, 0}, {[]int{0, 0, 2, 0}, 2, false, 1}, {[]int{0, 0, 2, 0}, 3, false, 1},
		{[]int{8}, 0, true, 0}, {[]int{0, 8}, 1, true, 0}, {[]int{0, 0, 0}, 2, false, 3}, {[]int{0, 0, 1}, 2, false, 2}, {[]int{1}, 0, false, 0},
	} {
		t.Log(i)
		checkRoom(t, s, c.q, c.tenant, c.room, c.over, api.OK)
	}
}

// P8.3: free pages have tenant 0's number, and are not its.
func TestFreePagesAreNobodys(t *testing.T) {
	for pool := 1; pool <= maxPages; pool++ {
		s := slabOf(make([]api.Page, pool)...)
		for tenant := range maxTenants {
			q := make([]int, maxTenants)
			checkRoom(t, s, q, tenant, false, 0, api.OK)
			q[tenant] = 1
			checkRoom(t, s, q, tenant, true, 0, api.OK)
			q[tenant] = pool
			checkRoom(t, s, q, tenant, true, 0, api.OK)
		}
	}
}

// P8.3: slabs that are full, of one tenant that has more than its quota, just that, and what another one may have.
func TestFullSlabs(t *testing.T) {
	for pool := 1; pool <= maxPages; pool++ {
		for tenant := range maxTenants {
			s := slabOf(slices.Repeat([]api.Page{full(tenant, pool%classes)}, pool)...)
			for pages := range pool + 1 {
				q := make([]int, maxTenants)
				q[tenant] = pages
				other := (tenant + 1) % maxTenants
				q[other] = pool - pages
				checkRoom(t, s, q, tenant, false, pool-pages, api.OK)
				checkRoom(t, s, q, other, pages < pool, 0, api.OK)
			}
		}
	}
}

// P8.3: each number of pages that a tenant has, against each quota.
func TestEachNumberOfPages(t *testing.T) {
	r := rand.New(rand.NewSource(82))
	for have := range maxPages + 1 {
		for pages := range maxPages + 1 {
			for tenant := range maxTenants {
				others := make([]int, maxTenants)
				others[(tenant+1)%maxTenants] = (maxPages - have) / 2
				others[tenant] = have
				s := shared(r, maxPages-have-(maxPages-have)/2, others...)
				q := make([]int, tenant+1)
				q[tenant] = pages
				checkRoom(t, s, q, tenant, have < pages, max(have-pages, 0), api.OK)
			}
		}
	}
}

// P8.3: any slabs and quotas.
func TestAnySlabs(t *testing.T) {
	r := rand.New(rand.NewSource(83))
	for range 5000 {
		s := randomSlab(r)
		q := randomQuotas(r, len(s.Pages))
		for tenant := -1; tenant <= maxTenants; tenant++ {
			checkCount(t, s, q, tenant)
		}
	}
}

// P8.3: the pool is the slab's pages, neither more nor fewer.
func TestTheSlabsPagesAreThePool(t *testing.T) {
	for pool := 1; pool <= maxPages; pool++ {
		s := slabOf(make([]api.Page, pool)...)
		s.Pages[pool-1] = full(0, 2)
		checkRoom(t, s, []int{pool}, 0, pool > 1, 0, api.OK)
		checkRoom(t, s, []int{0, pool}, 0, false, 1, api.OK)
		checkRoom(t, s, []int{pool + 1}, 0, false, 0, api.ErrQuota)
		checkRoom(t, s, []int{1, pool}, 0, false, 0, api.ErrQuota)
		checkRoom(t, s, []int{0, 0, 1, pool}, 3, false, 0, api.ErrQuota)
		checkRoom(t, s, []int{-1, pool}, 1, false, 0, api.ErrQuota)
	}
}

// wrongTenants have no number that a tenant may have.
func wrongTenants() []int {
	return []int{-1, -2, -4, maxTenants, maxTenants + 1, 16, 256, 1 << 32, 1<<32 + 1, top, least, least + 1}
}

// P8.3: quotas that may not be, ahead of tenants that have none.
func TestRoomOfWrongQuotas(t *testing.T) {
	r := rand.New(rand.NewSource(85))
	for _, s := range []api.Slab{slabOf(api.Page{}), slabOf(full(1, 4)), slabOf(make([]api.Page, maxPages)...), randomSlab(r), randomSlab(r)} {
		for _, q := range wrongQuotas() {
			for _, tenant := range append(wrongTenants(), upTo(0, maxTenants-1)...) {
				checkRoom(t, s, q, tenant, false, 0, api.ErrQuota)
			}
		}
	}
}

// P8.3: tenants without a quota, though they have pages.
func TestRoomOfWrongTenants(t *testing.T) {
	for many := 1; many <= maxTenants; many++ {
		s := slabOf(full(0, 0), full(1, 1), full(2, 2), full(3, 3), api.Page{})
		q := slices.Repeat([]int{1}, many)
		for _, tenant := range append(wrongTenants(), upTo(many, maxTenants)...) {
			checkRoom(t, s, q, tenant, false, 0, api.ErrArg)
		}
		checkRoom(t, s, q, many-1, false, 0, api.OK)
	}
}

// P8.3: slabs that may not be, ahead of all else.
func TestRoomOfWrongSlabs(t *testing.T) {
	for _, s := range wrongSlabs() {
		checkErrno(t, s, slab.Check(s), api.ErrBad)
		for _, q := range append(wrongQuotas(), []int{0}, []int{1}, []int{16}, []int{0, 0, 0, 0}) {
			for _, tenant := range []int{0, 1, 3, 4, -1, top, least} {
				checkRoom(t, s, q, tenant, false, 0, api.ErrBad)
			}
		}
	}
}

// P8.4: slabs and quotas are only read, and what stands behind them is no part of them.
func TestSlabsAreOnlyRead(t *testing.T) {
	r := rand.New(rand.NewSource(86))
	slabs := wrongSlabs()
	for range 200 {
		slabs = append(slabs, randomSlab(r))
	}
	for _, l := range slabs {
		for _, list := range [][]int{{0}, {1, 0}, randomQuotas(r, 1), randomQuotas(r, max(1, min(maxPages, len(l.Pages)))), {17}, nil} {
			s, q := roomySlab(l), roomy(list)
			wasPages, wasQuotas := whole(s.Pages), whole(q)
			for tenant := -1; tenant <= maxTenants; tenant++ {
				if slab.Check(l) != api.OK {
					checkRoom(t, s, q, tenant, false, 0, api.ErrBad)
				} else {
					checkCount(t, s, q, tenant)
				}
			}
			if !slices.Equal(whole(s.Pages), wasPages) || !slices.Equal(whole(q), wasQuotas) {
				t.Fatalf("%s, %s changed", short(wasPages), short(wasQuotas))
			}
		}
	}
}

// P8.4: a call that is made again tells the same, whatever was asked in between.
func TestAskedAgain(t *testing.T) {
	r := rand.New(rand.NewSource(87))
	s, q := slabOf(full(0, 4), full(1, 0), full(1, 1), api.Page{}), []int{2, 1}
	for range 200 {
		checkRoom(t, s, q, 0, true, 0, api.OK)
		checkRoom(t, s, q, 1, false, 1, api.OK)
		other := randomSlab(r)
		checkCount(t, other, randomQuotas(r, len(other.Pages)), 0)
		then, e := quota.Set(4, q, r.Intn(2), r.Intn(3))
		checkErrno(t, then, e, wantCheck(4, then))
	}
}
