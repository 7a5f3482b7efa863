package quota_test

import (
	"fmt"
	"math/rand"
	"slices"
	"testing"

	"cloakroom/api"
	"cloakroom/quota"
	"cloakroom/slab"
)

const (
	least = -1 << 63
	top   = 1<<63 - 1
)

// The limits, written out, so that the program's own numbers are held against them.
const (
	maxPages   = 16
	maxTenants = 4
	classes    = 5
)

// fits is when quotas may be, told by giving the pool's pages away, so that nothing is added up.
func fits(pool int, q []int) bool {
	for _, pages := range q {
		if pages < 0 || pages > pool {
			return false
		}
		pool -= pages
	}
	return len(q) > 0 && len(q) < 5
}

// wantCheck is what Check is to tell.
func wantCheck(pool int, q []int) api.Errno {
	switch {
	case pool < 1 || pool > 16:
		return api.ErrArg
	case !fits(pool, q):
		return api.ErrQuota
	}
	return api.OK
}

// wantSum is what Sum is to tell, counted page by page.
func wantSum(q []int) (int, api.Errno) {
	if len(q) > 4 {
		return 0, api.ErrMany
	}
	sum := 0
	for _, pages := range q {
		if pages < 0 || pages > 16 {
			return 0, api.ErrArg
		}
		for range pages {
			sum++
		}
	}
	return sum, api.OK
}

// wantSet is what Set is to tell, put together from what stands around the tenant's quota.
func wantSet(pool int, q []int, tenant, pages int) ([]int, api.Errno) {
	if e := wantCheck(pool, q); e != api.OK {
		return nil, e
	}
	if tenant < 0 || tenant > len(q)-1 || pages < 0 || pages > 16 {
		return nil, api.ErrArg
	}
	then := slices.Concat(q[:tenant], []int{pages}, q[tenant+1:])
	if !fits(pool, then) {
		return nil, api.ErrQuota
	}
	return then, api.OK
}

// pagesOf is how many pages a tenant has.
func pagesOf(s api.Slab, tenant int) int {
	many := 0
	for _, p := range s.Pages {
		if p.Used != 0 && p.Tenant == tenant {
			many++
		}
	}
	return many
}

// freePages is how many pages nobody has.
func freePages(s api.Slab) int {
	many := 0
	for _, p := range s.Pages {
		if p == (api.Page{}) {
			many++
		}
	}
	return many
}

// keeps tells whether a slab keeps quotas: of no tenant that has none it has a page.
func keeps(s api.Slab, q []int) bool {
	for tenant := range maxTenants {
		most := 0
		if tenant < len(q) {
			most = q[tenant]
		}
		if pagesOf(s, tenant) > most {
			return false
		}
	}
	return true
}

// slabOf is one of these pages.
func slabOf(pages ...api.Page) api.Slab { return api.Slab{Pages: pages} }

// full is a page all chunks of which are used.
func full(tenant, class int) api.Page {
	return api.Page{Tenant: tenant, Class: class, Used: uint16(1<<(16>>class) - 1)}
}

// pageOf is a page with a chunk or more.
func pageOf(r *rand.Rand, tenant int) api.Page {
	p := full(tenant, r.Intn(classes))
	if used := p.Used & uint16(r.Intn(1<<16)); used != 0 {
		p.Used = used
	}
	return p
}

// shared is a slab of which each tenant has as many pages as stand here for it, and so many are free; which is whose, chance tells.
func shared(r *rand.Rand, free int, have ...int) api.Slab {
	s := slabOf(make([]api.Page, free)...)
	for tenant, many := range have {
		for range many {
			s.Pages = append(s.Pages, pageOf(r, tenant))
		}
	}
	r.Shuffle(len(s.Pages), func(i, j int) { s.Pages[i], s.Pages[j] = s.Pages[j], s.Pages[i] })
	return s
}

// randomSlab may be: with pages of any tenants, and free ones, or none.
func randomSlab(r *rand.Rand) api.Slab {
	s := slabOf(make([]api.Page, 1+r.Intn(maxPages))...)
	free := r.Intn(4)
	for i := range s.Pages {
		if r.Intn(4) >= free {
			s.Pages[i] = pageOf(r, r.Intn(maxTenants))
		}
	}
	return s
}

// randomQuotas may be of the pool: often there is nothing left of it.
func randomQuotas(r *rand.Rand, pool int) []int {
	q := make([]int, 1+r.Intn(maxTenants))
	for i := range q {
		q[i] = r.Intn(pool + 1)
		pool -= q[i]
	}
	if r.Intn(2) == 0 {
		q[len(q)-1] += pool
	}
	r.Shuffle(len(q), func(i, j int) { q[i], q[j] = q[j], q[i] })
	return q
}

// keeping is a slab that keeps quotas, of a pool of so many pages.
func keeping(r *rand.Rand, pool int, q []int) api.Slab {
	have := make([]int, len(q))
	free := pool
	for i, pages := range q {
		have[i] = pages
		if r.Intn(2) == 0 {
			have[i] = r.Intn(pages + 1)
		}
		free -= have[i]
	}
	return shared(r, free, have...)
}

// listsOf are all lists of so many numbers of these.
func listsOf(many int, numbers []int) [][]int {
	l := [][]int{nil}
	for range many {
		var longer [][]int
		for _, q := range l {
			for _, n := range numbers {
				longer = append(longer, append(slices.Clone(q), n))
			}
		}
		l = longer
	}
	return l
}

// upTo are the numbers from one to another.
func upTo(first, last int) []int {
	var l []int
	for n := first; n <= last; n++ {
		l = append(l, n)
	}
	return l
}

// wrongQuotas may be of no pool: by how many there are, or by one of them. The sums of some come round to a number that would do.
func wrongQuotas() [][]int {
	l := [][]int{
		nil, {}, roomy(nil), {0, 0, 0, 0, 0}, {1, 1, 1, 1, 1}, {1, 0, 0, 0, 0}, make([]int, 6), make([]int, 256), make([]int, 257), make([]int, 1<<16), make([]int, 1<<20),
		{-1}, {-1, 1}, {1, -1}, {-1, 2}, {2, -1}, {5, -5}, {17, -16}, {-16, 17}, {1, 1, 1, -1}, {16, 0, 0, -1}, {0, -1, 0}, {-1, 0, 0, 0}, {-1, -1, -1, -1},
		{17}, {0, 17}, {17, 0, 0, 0}, {0, 0, 0, 17}, {17, 17, 17, 17}, {256}, {1 << 16}, {1 << 32}, {1<<32 + 1},
		{top}, {least}, {top, top}, {top, 1}, {1, top}, {least, least}, {least, 1}, {top, top, 2}, {top, top, 3}, {top, least, 2}, {least, top, 1}, {least + 1, top},
		{1 << 62, 1 << 62, 1 << 62, 1 << 62}, {1 << 62, 1 << 62, least}, {least, least, 1, 1}, {1, 1, least, least}, {top, top, 1, 1}, {0, top, top, 2}, {1 << 61, 3 << 61, 1 << 62, 1 << 62},
		{0, 0, 0, top}, {0, 0, 0, least}, {1, 1, 1, 1, top}, {1, 1, 1, 1, -1},
	}
	return append(l, []int{17, 0, 0, 0, 0}, []int{-1, 0, 0, 0, 0})
}

// wrongSlabs may not be: by how many pages they have, or by one of them.
func wrongSlabs() []api.Slab {
	l := []api.Slab{{}, slabOf([]api.Page{}...), slabOf(make([]api.Page, maxPages+1)...), slabOf(make([]api.Page, 1000)...)}
	l = append(l, slabOf(slices.Repeat([]api.Page{full(0, 0)}, maxPages+1)...))
	for _, p := range []api.Page{
		{Tenant: 1}, {Class: 1}, {Tenant: -1}, {Tenant: -1, Used: 1}, {Tenant: 4, Used: 1}, {Tenant: top, Used: 1}, {Tenant: least, Used: 1},
		{Class: -1, Used: 1}, {Class: 5, Used: 1}, {Class: top, Used: 1}, {Class: 1, Used: 1 << 8}, {Class: 4, Used: 2}, {Class: 4, Used: 3}, {Tenant: 3, Class: 2, Used: 0xffff},
	} {
		l = append(l, slabOf(p), slabOf(api.Page{}, p), slabOf(p, full(1, 2), api.Page{}), slabOf(append(slices.Repeat([]api.Page{full(2, 4)}, maxPages-1), p)...))
	}
	return l
}

// whole is a slice with its spare room, as new memory.
func whole[T any](l []T) []T { return slices.Clone(l[:cap(l)]) }

// roomy are quotas with spare room behind them, in which numbers stand.
func roomy(q []int) []int {
	return append(slices.Clone(q), 1, 16, -1, top, 0)[:len(q)]
}

// roomySlab is a slab with spare room behind its pages, all of it in use.
func roomySlab(s api.Slab) api.Slab {
	l := append(slices.Clone(s.Pages), full(0, 0), full(1, 4), api.Page{Tenant: 9, Class: 9, Used: 9}, api.Page{})
	return slabOf(l[:len(s.Pages)]...)
}

// spoil changes each quota, and the spare room behind them.
func spoil(q []int) {
	for i := range q[:cap(q)] {
		q[:cap(q)][i] += 7
	}
}

// setBoth sets in both ways, and ends the test unless they come to the same; q is as it was where it was refused.
func setBoth(t *testing.T, pool int, q []int, tenant, pages int) ([]int, api.Errno) {
	t.Helper()
	want, wantE := wantSet(pool, q, tenant, pages)
	then, e := quota.Set(pool, q, tenant, pages)
	if e != wantE || !slices.Equal(then, want) {
		t.Fatalf("Set(%d, %s, %d, %d): %v, error %d, want %v, error %d", pool, short(q), tenant, pages, then, e, want, wantE)
	}
	if e != api.OK {
		return q, e
	}
	checkErrno(t, then, quota.Check(pool, then), api.OK)
	return then, e
}

// checkRoom ends the test unless Room and Over tell these.
func checkRoom(t *testing.T, s api.Slab, q []int, tenant int, room bool, over int, want api.Errno) {
	t.Helper()
	gotRoom, e := quota.Room(s, q, tenant)
	if gotRoom != room || e != want {
		t.Fatalf("Room(%s, %s, %d): %v, error %d, want %v, error %d", short(s), short(q), tenant, gotRoom, e, room, want)
	}
	gotOver, e := quota.Over(s, q, tenant)
	if gotOver != over || e != want {
		t.Fatalf("Over(%s, %s, %d): %v, error %d, want %v, error %d", short(s), short(q), tenant, gotOver, e, over, want)
	}
}

// checkCount ends the test unless Room and Over tell of a tenant what its pages are against its quota. The slab may be.
func checkCount(t *testing.T, s api.Slab, q []int, tenant int) {
	t.Helper()
	switch {
	case !fits(len(s.Pages), q):
		checkRoom(t, s, q, tenant, false, 0, api.ErrQuota)
	case tenant < 0 || tenant > len(q)-1:
		checkRoom(t, s, q, tenant, false, 0, api.ErrArg)
	default:
		more := pagesOf(s, tenant) - q[tenant]
		checkRoom(t, s, q, tenant, more < 0, max(more, 0), api.OK)
	}
}

// emptied is a slab with one page of a tenant's less, its last one: all chunks of it are given back.
func emptied(t *testing.T, s api.Slab, tenant int) api.Slab {
	t.Helper()
	page, e := slab.Last(s, tenant)
	checkErrno(t, "Last", e, api.OK)
	for chunk := range 16 {
		if s.Pages[page].Used>>chunk&1 == 1 {
			s, e = slab.Free(s, page, chunk)
			checkErrno(t, "Free", e, api.OK)
		}
	}
	return s
}

// short is how something is told where a test fails: lists may be long.
func short(what any) string {
	text := fmt.Sprint(what)
	return text[:min(len(text), 200)]
}

// checkErrno ends the test, as the other checks do: what many inputs fail in is mostly one thing.
func checkErrno(t *testing.T, what any, e, want api.Errno) {
	t.Helper()
	if e != want {
		t.Fatalf("%s: error %d, want %d", short(what), e, want)
	}
}

func checkNumber(t *testing.T, what any, got int, e api.Errno, want int, wantE api.Errno) {
	t.Helper()
	if got != want || e != wantE {
		t.Fatalf("%s: %d, error %d, want %d, error %d", short(what), got, e, want, wantE)
	}
}

func checkQuotas(t *testing.T, what any, got []int, e api.Errno, want []int, wantE api.Errno) {
	t.Helper()
	if !slices.Equal(got, want) || e != wantE {
		t.Fatalf("%s: %v, error %d, want %v, error %d", short(what), got, e, want, wantE)
	}
}
