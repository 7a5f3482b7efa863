package slab_test

import (
	"fmt"
	"math/rand"
	"slices"
	"testing"

	"cloakroom/api"
	"cloakroom/slab"
)

// P5.2: of each slab of a few pages, of each tenant and class.
func TestTakeOfSmallSlabs(t *testing.T) {
	for _, s := range smallSlabs() {
		for tenant := range maxTenants {
			for class := range classes {
				for quota := range 5 {
					takeBoth(t, s, tenant, class, quota)
				}
			}
		}
	}
}

// P5.2
func TestTakeOfRandomSlabs(t *testing.T) {
	r := rand.New(rand.NewSource(56))
	for range 3000 {
		takeBoth(t, randomSlab(r), r.Intn(maxTenants), r.Intn(classes), r.Intn(maxPages+1))
	}
}

// P5.2: a page of theirs with room stands ahead of a free page, wherever it is, and whatever the quota; of several the least one, and of its chunks the least one.
func TestTakeOfAPageWithRoom(t *testing.T) {
	for class := range classes - 1 {
		for chunk := range chunks[class] {
			room := full(2, class)
			room.Used -= uint16(pow2(chunk))
			other := full(2, class)
			other.Used--
			s := slabOf(api.Page{}, full(2, class), full(1, class), room, other, api.Page{})
			for _, quota := range []int{0, 1, 2, 3, maxPages} {
				left, page, at, e := slab.Take(s, 2, class, quota)
				checkSlab(t, [3]int{class, chunk, quota}, left, e, slabOf(api.Page{}, full(2, class), full(1, class), full(2, class), other, api.Page{}))
				if page != 3 || at != chunk {
					t.Errorf("class %d: page %d, chunk %d, want 3, %d", class, page, at, chunk)
				}
			}
		}
	}
}

// P5.2: room in a page of another tenant's, or of another class, is none; all their pages count, of whichever class.
func TestTakeLeavesOtherPages(t *testing.T) {
	for tenant := range maxTenants {
		for class := range classes {
			var others []api.Page
			for other := range maxTenants {
				if other != tenant {
					others = append(others, api.Page{Tenant: other, Class: class, Used: 1})
				}
			}
			for other := range classes {
				if other != class {
					others = append(others, api.Page{Tenant: tenant, Class: other, Used: 1})
				}
			}
			what := [2]int{tenant, class}
			s := slabOf(append(slices.Clone(others), api.Page{})...)
			want := slabOf(append(slices.Clone(others), api.Page{Tenant: tenant, Class: class, Used: 1})...)
			left, page, chunk, e := slab.Take(s, tenant, class, classes)
			checkSlab(t, what, left, e, want)
			if page != len(others) || chunk != 0 {
				t.Errorf("%v: page %d, chunk %d", what, page, chunk)
			}
			left, page, chunk, e = slab.Take(s, tenant, class, classes-1)
			checkRefused(t, what, e, api.ErrFull, left, page, chunk)
			left, page, chunk, e = slab.Take(slabOf(others...), tenant, class, maxPages)
			checkRefused(t, what, e, api.ErrFull, left, page, chunk)
		}
	}
}

// P5.2: without room in a page of theirs, the least free page.
func TestTakeOfAFreePage(t *testing.T) {
	for tenant := range maxTenants {
		for class := range classes {
			for at := range maxPages {
				s := free(maxPages)
				for i := range at {
					s.Pages[i] = full((tenant+1)%maxTenants, class)
				}
				want := clone(s)
				want.Pages[at] = api.Page{Tenant: tenant, Class: class, Used: 1}
				left, page, chunk, e := slab.Take(s, tenant, class, 1)
				checkSlab(t, at, left, e, want)
				if page != at || chunk != 0 {
					t.Errorf("page %d, chunk %d, want %d, 0", page, chunk, at)
				}
			}
		}
	}
}

// P5.2: a tenant has as many pages as its quota, and no more; with a smaller one than it has it goes on in those.
func TestTakeByQuotas(t *testing.T) {
	for tenant := range maxTenants {
		for have := range maxPages + 1 {
			s := free(maxPages)
			for i := range have {
				s.Pages[i] = full(tenant, 4)
			}
			for quota := range maxPages + 1 {
				left, page, chunk, e := slab.Take(s, tenant, 4, quota)
				if have >= quota {
					checkRefused(t, [2]int{have, quota}, e, api.ErrFull, left, page, chunk)
					continue
				}
				want := clone(s)
				want.Pages[have] = full(tenant, 4)
				checkSlab(t, [2]int{have, quota}, left, e, want)
				if page != have || chunk != 0 {
					t.Error(have, quota, page, chunk)
				}
			}
		}
	}
}

// P5.2: with a quota of 0 a tenant begins no page, even in a slab that is free.
func TestTakeWithoutQuota(t *testing.T) {
	for tenant := range maxTenants {
		for class := range classes {
			left, page, chunk, e := slab.Take(free(maxPages), tenant, class, 0)
			checkRefused(t, [2]int{tenant, class}, e, api.ErrFull, left, page, chunk)
		}
	}
}

// P5.2: the slab's error stands first; those of the numbers ahead of that there is no room.
func TestTakeOfWrongOnes(t *testing.T) {
	tenants := []int{-1, least, maxTenants, maxTenants + 1, 1 << 32, top}
	of := []int{-1, least, classes, classes + 1, 64, 1 << 32, top}
	quotas := []int{-1, least, maxPages + 1, maxPages + 2, 1 << 32, top}
	fulls := slabOf(full(0, 0), full(1, 4))
	for _, s := range []api.Slab{free(1), free(maxPages), fulls, slabOf(api.Page{Used: 1})} {
		for _, tenant := range tenants {
			for _, class := range append(of, 0, 4) {
				for _, quota := range append(quotas, 0, 16) {
					left, page, chunk, e := slab.Take(s, tenant, class, quota)
					checkRefused(t, [3]int{tenant, class, quota}, e, api.ErrArg, left, page, chunk)
				}
			}
		}
		for _, class := range of {
			for _, quota := range append(quotas, 0, 16) {
				left, page, chunk, e := slab.Take(s, 0, class, quota)
				checkRefused(t, [2]int{class, quota}, e, api.ErrArg, left, page, chunk)
			}
		}
		for _, quota := range quotas {
			left, page, chunk, e := slab.Take(s, 0, 0, quota)
			checkRefused(t, quota, e, api.ErrArg, left, page, chunk)
		}
	}
	for _, s := range wrongSlabs() {
		for _, a := range [][3]int{{0, 0, 1}, {3, 4, 16}, {-1, 0, 1}, {0, -1, 1}, {0, 0, -1}, {4, 5, 17}, {1, 1, 0}} {
			left, page, chunk, e := slab.Take(s, a[0], a[1], a[2])
			checkRefused(t, fmt.Sprint(s, a), e, api.ErrBad, left, page, chunk)
		}
	}
}

// P5.2: numbers at their bounds, that may be.
func TestTakeAtTheBounds(t *testing.T) {
	for _, tenant := range []int{0, maxTenants - 1} {
		for _, class := range []int{0, classes - 1} {
			for _, pages := range []int{1, maxPages} {
				for _, quota := range []int{1, maxPages} {
					_, at, e := takeBoth(t, free(pages), tenant, class, quota)
					if e != api.OK || at != (spot{0, 0}) {
						t.Error(tenant, class, pages, quota, at, e)
					}
				}
			}
		}
	}
}

// P5.3: each chunk that there is and is not, of each page.
func TestFreeOfSmallSlabs(t *testing.T) {
	for _, s := range smallSlabs() {
		for page := -1; page <= len(s.Pages)+1; page++ {
			for chunk := -1; chunk <= 17; chunk++ {
				freeBoth(t, s, page, chunk)
			}
		}
	}
}

// P5.3: each chunk of a full page, of each class: the last that is given back leaves the page free.
func TestFreeOneByOne(t *testing.T) {
	r := rand.New(rand.NewSource(57))
	for class := range classes {
		for tenant := range maxTenants {
			s := slabOf(full(1, 0), full(tenant, class), api.Page{})
			order := r.Perm(chunks[class])
			for i, chunk := range order {
				left, e := freeBoth(t, s, 1, chunk)
				checkErrno(t, [2]int{class, chunk}, e, api.OK)
				again, e := slab.Free(left, 1, chunk)
				checkRefused(t, "once more", e, api.ErrNone, again)
				if isLeft := i < len(order)-1; isLeft != (left.Pages[1] != api.Page{}) {
					t.Error(class, chunk, left)
				}
				s = left
			}
			checkSlab(t, class, s, api.OK, slabOf(full(1, 0), api.Page{}, api.Page{}))
		}
	}
}

// P5.3: a page that is none stands ahead of a chunk that is none, the slab's error ahead of both.
func TestFreeOfWrongOnes(t *testing.T) {
	far := []int{-1, -2, least, least + 1, 1 << 16, 1 << 32, top}
	for class := range classes {
		s := free(maxPages)
		for i := range s.Pages {
			s.Pages[i] = full(i%maxTenants, class)
		}
		for _, page := range append(far, maxPages, maxPages+1) {
			for _, chunk := range append(far, 0, chunks[class]) {
				left, e := slab.Free(s, page, chunk)
				checkRefused(t, [2]int{page, chunk}, e, api.ErrArg, left)
			}
		}
		for _, chunk := range append(far, chunks[class], chunks[class]+1, 15+chunks[class], 16, 17, 63, 64, 65, 256) {
			left, e := slab.Free(s, maxPages-1, chunk)
			checkRefused(t, chunk, e, api.ErrNone, left)
		}
		_, e := slab.Free(s, maxPages-1, chunks[class]-1)
		checkErrno(t, "the last chunk of the last page", e, api.OK)
	}
	for _, chunk := range append(far, 0, 1, 15, 16) {
		left, e := slab.Free(free(1), 0, chunk)
		checkRefused(t, chunk, e, api.ErrNone, left)
		left, e = slab.Free(free(1), 1, chunk)
		checkRefused(t, chunk, e, api.ErrArg, left)
	}
	for _, s := range wrongSlabs() {
		for _, page := range []int{0, 1, -1, maxPages, top, least} {
			for _, chunk := range []int{0, 1, -1, 16, top, least} {
				left, e := slab.Free(s, page, chunk)
				checkRefused(t, fmt.Sprint(s, page, chunk), e, api.ErrBad, left)
			}
		}
	}
}

// P5.5: what is handed in stays, its spare room too, whether it is taken or refused.
func TestArgumentsStay(t *testing.T) {
	r := rand.New(rand.NewSource(58))
	for range 500 {
		s := roomy(randomSlab(r))
		ahead := slices.Clone(whole(s.Pages))
		slab.Check(s)
		slab.Owned(s, r.Intn(maxTenants))
		slab.Last(s, r.Intn(maxTenants))
		for range 10 {
			slab.Take(s, r.Intn(maxTenants+1), r.Intn(classes+1), r.Intn(maxPages+2))
			slab.Free(s, r.Intn(len(s.Pages)+1), r.Intn(17))
		}
		if !slices.Equal(whole(s.Pages), ahead) {
			t.Fatalf("%v: was %v", whole(s.Pages), ahead)
		}
	}
}

// P5.5: an answer changes neither the argument nor another answer, and is not changed by them; also where little or nothing differs.
func TestAnswersAreNewMemory(t *testing.T) {
	r := rand.New(rand.NewSource(59))
	for range 500 {
		s := roomy(randomSlab(r))
		page := r.Intn(len(s.Pages))
		s.Pages[page] = api.Page{Tenant: 1, Class: 3, Used: 2}
		ahead := slices.Clone(whole(s.Pages))
		took, _, _, e := slab.Take(s, 1, 3, maxPages)
		checkErrno(t, "Take", e, api.OK)
		again, _, _, _ := slab.Take(s, 1, 3, maxPages)
		gave, e := slab.Free(s, page, 1)
		checkErrno(t, "Free", e, api.OK)
		gaveAgain, _ := slab.Free(s, page, 1)
		tookAhead, gaveAhead := clone(took), clone(gave)
		spoil(again)
		spoil(gaveAgain)
		if !slices.Equal(whole(s.Pages), ahead) {
			t.Fatal("the argument changed with an answer")
		}
		spoil(s)
		if !same(took, tookAhead) || !same(gave, gaveAhead) {
			t.Fatal("an answer changed with the argument, or with another one")
		}
	}
}
