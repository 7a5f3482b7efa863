package slab_test

import (
	"fmt"
	"math/rand"
	"slices"
	"testing"

	"cloakroom/api"
	"cloakroom/slab"
)

const (
	least = -1 << 63
	top   = 1<<63 - 1
)

// The limits, written out, so that the program's own numbers are held against them.
const (
	maxPages   = 16
	maxTenants = 4
	classes    = 5
	maxItem    = 256
)

// By their classes: how many bytes a chunk has, and how many chunks a page has.
var (
	sizes  = [classes]int{16, 32, 64, 128, 256}
	chunks = [classes]int{16, 8, 4, 2, 1}
)

// slabOf is one of these pages, put together without package slab.
func slabOf(pages ...api.Page) api.Slab { return api.Slab{Pages: pages} }

// free is a slab of so many free pages.
func free(pages int) api.Slab { return slabOf(make([]api.Page, pages)...) }

// full is a page all chunks of which are used.
func full(tenant, class int) api.Page {
	return api.Page{Tenant: tenant, Class: class, Used: uint16(1<<chunks[class] - 1)}
}

func clone(s api.Slab) api.Slab { return slabOf(slices.Clone(s.Pages)...) }

func same(a, b api.Slab) bool { return slices.Equal(a.Pages, b.Pages) }

// whole is a slice with its spare room.
func whole[T any](l []T) []T { return l[:cap(l)] }

// roomy is a slab with spare room behind its pages, all of it in use.
func roomy(s api.Slab) api.Slab {
	l := append(slices.Clone(s.Pages), full(3, 0), full(2, 4), api.Page{Tenant: 9, Class: 9, Used: 9}, api.Page{})
	return slabOf(l[:len(s.Pages)]...)
}

// spoil changes each page of a slab, its spare room too.
func spoil(s api.Slab) {
	for i := range whole(s.Pages) {
		p := &whole(s.Pages)[i]
		*p = api.Page{Tenant: p.Tenant + 7, Class: p.Class + 7, Used: ^p.Used}
	}
}

// wrongPages may not be: each is wrong in one thing at least.
func wrongPages() []api.Page {
	var l []api.Page
	for _, n := range []int{-1, -2, least, maxTenants, maxTenants + 1, 1 << 16, 1 << 32, top} {
		l = append(l, api.Page{Tenant: n, Used: 1}, api.Page{Tenant: n, Class: 4, Used: 1}, api.Page{Tenant: n})
	}
	for _, n := range []int{-1, -2, -64, least, classes, classes + 1, 16, 64, 1 << 32, top} {
		l = append(l, api.Page{Class: n, Used: 1}, api.Page{Tenant: 3, Class: n, Used: 1}, api.Page{Class: n})
	}
	for class := 1; class < classes; class++ {
		for bit := chunks[class]; bit < 16; bit++ {
			l = append(l, api.Page{Class: class, Used: 1 << bit}, api.Page{Tenant: 2, Class: class, Used: 1<<bit | 1})
		}
		l = append(l, api.Page{Class: class, Used: 0xffff}, api.Page{Class: class})
	}
	for tenant := 1; tenant < maxTenants; tenant++ {
		l = append(l, api.Page{Tenant: tenant}, api.Page{Tenant: tenant, Class: 4})
	}
	return l
}

// wrongSlabs may not be: by how many pages they have, or by one of them, whichever that is.
func wrongSlabs() []api.Slab {
	l := []api.Slab{{}, {Pages: []api.Page{}}, roomy(api.Slab{}), free(maxPages + 1), free(maxPages + 2), free(1000)}
	many := free(maxPages + 1)
	for i := range many.Pages {
		many.Pages[i] = full(i%maxTenants, i%classes)
	}
	l = append(l, many)
	for i, p := range wrongPages() {
		l = append(l, slabOf(p), slabOf(p, full(1, 2)), slabOf(full(1, 2), api.Page{}, p))
		s := free(maxPages)
		s.Pages[i%maxPages] = p
		l = append(l, s)
	}
	return l
}

// randomPage may be: often free, and often full.
func randomPage(r *rand.Rand) api.Page {
	if r.Intn(4) == 0 {
		return api.Page{}
	}
	p := full(r.Intn(maxTenants), r.Intn(classes))
	if used := p.Used & uint16(r.Intn(1<<16)); used != 0 && r.Intn(3) > 0 {
		p.Used = used
	}
	return p
}

// randomSlab may be.
func randomSlab(r *rand.Rand) api.Slab {
	s := free(1 + r.Intn(maxPages))
	for i := range s.Pages {
		s.Pages[i] = randomPage(r)
	}
	return s
}

// smallSlabs are all of up to three pages, each free, or of tenant 0 or 2, and of one of the two greatest classes.
func smallSlabs() []api.Slab {
	pages := []api.Page{{}}
	for _, tenant := range []int{0, 2} {
		pages = append(pages, full(tenant, 4), full(tenant, 3), api.Page{Tenant: tenant, Class: 3, Used: 1}, api.Page{Tenant: tenant, Class: 3, Used: 2})
	}
	var l []api.Slab
	for _, a := range pages {
		l = append(l, slabOf(a))
		for _, b := range pages {
			l = append(l, slabOf(a, b))
			for _, c := range pages {
				l = append(l, slabOf(a, b, c))
			}
		}
	}
	return l
}

// spot is a chunk of a slab.
type spot struct{ page, chunk int }

// holder is whose a chunk is, and of which class its page.
type holder struct{ tenant, class int }

// model is what a slab is to be: each chunk that is used, with whose it is; what a page is, its chunks tell.
type model struct {
	pages int
	used  map[spot]holder
}

// modelOf reads a slab that may be, chunk by chunk.
func modelOf(s api.Slab) *model {
	m := &model{len(s.Pages), map[spot]holder{}}
	for i, p := range s.Pages {
		for k := range 16 {
			if int(p.Used)/pow2(k)%2 == 1 {
				m.used[spot{i, k}] = holder{p.Tenant, p.Class}
			}
		}
	}
	return m
}

func pow2(n int) int {
	x := 1
	for range n {
		x *= 2
	}
	return x
}

// slab writes the model down.
func (m *model) slab() api.Slab {
	s := free(m.pages)
	for at, h := range m.used {
		p := &s.Pages[at.page]
		*p = api.Page{Tenant: h.tenant, Class: h.class, Used: p.Used + uint16(pow2(at.chunk))}
	}
	return s
}

// holderOf tells whose a page is; false: it is free.
func (m *model) holderOf(page int) (holder, bool) {
	for k := range 16 {
		if h, ok := m.used[spot{page, k}]; ok {
			return h, true
		}
	}
	return holder{}, false
}

// owned are the numbers of a tenant's pages, rising.
func (m *model) owned(tenant int) []int {
	var l []int
	for i := range m.pages {
		if h, ok := m.holderOf(i); ok && h.tenant == tenant {
			l = append(l, i)
		}
	}
	return l
}

func (m *model) take(tenant, class, quota int) (spot, api.Errno) {
	if tenant < 0 || tenant > 3 || class < 0 || class > 4 || quota < 0 || quota > 16 {
		return spot{}, api.ErrArg
	}
	for i := range m.pages {
		for k := range chunks[class] {
			h, own := m.holderOf(i)
			if _, used := m.used[spot{i, k}]; own && !used && h == (holder{tenant, class}) {
				m.used[spot{i, k}] = h
				return spot{i, k}, api.OK
			}
		}
	}
	for i := range m.pages {
		if _, own := m.holderOf(i); !own && len(m.owned(tenant)) < quota {
			m.used[spot{i, 0}] = holder{tenant, class}
			return spot{i, 0}, api.OK
		}
	}
	return spot{}, api.ErrFull
}

func (m *model) free(page, chunk int) api.Errno {
	if page < 0 || page >= m.pages {
		return api.ErrArg
	}
	if _, used := m.used[spot{page, chunk}]; !used {
		return api.ErrNone
	}
	delete(m.used, spot{page, chunk})
	return api.OK
}

// takeBoth takes in both ways, and fails unless they come to the same; s is as it was where nothing was taken.
func takeBoth(t *testing.T, s api.Slab, tenant, class, quota int) (api.Slab, spot, api.Errno) {
	t.Helper()
	m := modelOf(s)
	want, wantE := m.take(tenant, class, quota)
	left, page, chunk, e := slab.Take(s, tenant, class, quota)
	what := fmt.Sprintf("Take(%v, %d, %d, %d)", s, tenant, class, quota)
	if e != wantE || (spot{page, chunk}) != want {
		t.Fatalf("%s: %d, %d, error %d, want %v, error %d", what, page, chunk, e, want, wantE)
	}
	if e != api.OK {
		checkRefused(t, what, e, wantE, left)
		return s, spot{}, e
	}
	checkSlab(t, what, left, e, m.slab())
	return left, want, e
}

// freeBoth gives back in both ways.
func freeBoth(t *testing.T, s api.Slab, page, chunk int) (api.Slab, api.Errno) {
	t.Helper()
	m := modelOf(s)
	wantE := m.free(page, chunk)
	left, e := slab.Free(s, page, chunk)
	what := fmt.Sprintf("Free(%v, %d, %d)", s, page, chunk)
	if wantE != api.OK {
		checkRefused(t, what, e, wantE, left)
		return s, e
	}
	checkSlab(t, what, left, e, m.slab())
	return left, e
}

// askBoth fails unless Owned and Last tell of each tenant what the model has.
func askBoth(t *testing.T, s api.Slab) {
	t.Helper()
	m := modelOf(s)
	for tenant := range maxTenants {
		own := m.owned(tenant)
		last := -1
		if len(own) > 0 {
			last = own[len(own)-1]
		}
		n, e := slab.Owned(s, tenant)
		checkNumber(t, fmt.Sprintf("Owned(%v, %d)", s, tenant), n, e, len(own))
		n, e = slab.Last(s, tenant)
		checkNumber(t, fmt.Sprintf("Last(%v, %d)", s, tenant), n, e, last)
	}
}

func checkErrno(t *testing.T, what any, e, want api.Errno) {
	t.Helper()
	if e != want {
		t.Errorf("%v: error %d, want %d", what, e, want)
	}
}

func checkNumber(t *testing.T, what any, got int, e api.Errno, want int) {
	t.Helper()
	if got != want || e != api.OK {
		t.Errorf("%v: %d, error %d, want %d", what, got, e, want)
	}
}

func checkSlab(t *testing.T, what any, got api.Slab, e api.Errno, want api.Slab) {
	t.Helper()
	if e != api.OK || !same(got, want) {
		t.Errorf("%v: %v, error %d, want %v", what, got, e, want)
	}
}

// checkRefused fails unless the error is the wanted one, and nothing stands beside it.
func checkRefused(t *testing.T, what any, e, want api.Errno, s api.Slab, numbers ...int) {
	t.Helper()
	checkErrno(t, what, e, want)
	if len(s.Pages) != 0 {
		t.Errorf("%v: beside error %d stands %v", what, e, s)
	}
	for _, n := range numbers {
		if n != 0 {
			t.Errorf("%v: beside error %d stand %v", what, e, numbers)
		}
	}
}
