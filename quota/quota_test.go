package quota_test

import (
	"math/rand"
	"slices"
	"testing"

	"cloakroom/api"
	"cloakroom/quota"
)

// The chapter's examples.
func TestExamples(t *testing.T) {
	checkErrno(t, "Check(4, 2 2)", quota.Check(4, []int{2, 2}), api.OK)
	checkErrno(t, "Check(4, 3 2)", quota.Check(4, []int{3, 2}), api.ErrQuota)
	checkErrno(t, "Check(4, none)", quota.Check(4, nil), api.ErrQuota)
	checkErrno(t, "Check(17, 1)", quota.Check(17, []int{1}), api.ErrArg)

	q, e := quota.Set(4, []int{2, 1}, 1, 2)
	checkQuotas(t, "Set(4, 2 1, 1, 2)", q, e, []int{2, 2}, api.OK)
	q, e = quota.Set(4, []int{2, 1}, 1, 3)
	checkQuotas(t, "Set(4, 2 1, 1, 3)", q, e, nil, api.ErrQuota)
	q, e = quota.Set(4, []int{2, 1}, 2, 0)
	checkQuotas(t, "Set(4, 2 1, 2, 0)", q, e, nil, api.ErrArg)
	sum, e := quota.Sum([]int{2, 1})
	checkNumber(t, "Sum(2 1)", sum, e, 3, api.OK)

	s := slabOf(full(0, 3), api.Page{}, api.Page{}, api.Page{})
	checkRoom(t, s, []int{1, 3}, 0, false, 0, api.OK)
	checkRoom(t, s, []int{1, 3}, 1, true, 0, api.OK)
	over, e := quota.Over(s, []int{0, 3}, 0)
	checkNumber(t, "Over, quotas 0 3", over, e, 1, api.OK)
}

// P8.1: all quotas of up to three tenants, with numbers in and beside their bounds, of all pools.
func TestCheckOfFewTenants(t *testing.T) {
	for many := range maxTenants {
		for _, q := range listsOf(many, upTo(-1, maxPages+1)) {
			for pool := -1; pool <= maxPages+2; pool++ {
				checkErrno(t, q, quota.Check(pool, q), wantCheck(pool, q))
			}
		}
	}
}

// P8.1: all quotas of MaxTenants, and of one more.
func TestCheckOfManyTenants(t *testing.T) {
	for _, q := range listsOf(maxTenants, upTo(-1, maxPages+1)) {
		for _, pool := range []int{1, 4, 15, 16} {
			checkErrno(t, q, quota.Check(pool, q), wantCheck(pool, q))
		}
	}
	for _, q := range listsOf(maxTenants+1, []int{0, 1, 16}) {
		checkErrno(t, q, quota.Check(16, q), api.ErrQuota)
	}
}

// P8.1: the sum of the quotas is below the pool, the pool, and one more.
func TestCheckOfSums(t *testing.T) {
	for pool := 2; pool <= maxPages; pool++ {
		for many := 1; many <= maxTenants; many++ {
			q := make([]int, many)
			for i := range pool - 1 {
				q[i%many]++
			}
			checkErrno(t, q, quota.Check(pool, q), api.OK)
			q[many-1]++
			checkErrno(t, q, quota.Check(pool, q), api.OK)
			q[0]++
			checkErrno(t, q, quota.Check(pool, q), api.ErrQuota)
		}
	}
}

// P8.1: one tenant may have all, and nobody need have anything.
func TestCheckOfAllAndNothing(t *testing.T) {
	for pool := 1; pool <= maxPages; pool++ {
		for many := 1; many <= maxTenants; many++ {
			checkErrno(t, many, quota.Check(pool, make([]int, many)), api.OK)
			for tenant := range many {
				q := make([]int, many)
				q[tenant] = pool
				checkErrno(t, q, quota.Check(pool, q), api.OK)
				q[tenant] = pool + 1
				checkErrno(t, q, quota.Check(pool, q), api.ErrQuota)
				q[tenant] = -1
				checkErrno(t, q, quota.Check(pool, q), api.ErrQuota)
			}
		}
	}
}

// wrongPools are too small, or too great.
func wrongPools() []int {
	return []int{0, -1, -2, -16, 17, 18, 32, 256, 257, 1 << 16, 1 << 32, 1<<32 + 1, top, least, least + 1}
}

// P8.1: quotas that may be of no pool; the pool's error stands ahead of theirs.
func TestCheckOfWrongOnes(t *testing.T) {
	for _, q := range wrongQuotas() {
		for pool := 1; pool <= maxPages; pool++ {
			checkErrno(t, q, quota.Check(pool, q), api.ErrQuota)
		}
	}
	for _, pool := range wrongPools() {
		for _, q := range append(wrongQuotas(), []int{0}, []int{1}, []int{16}, []int{4, 4, 4, 4}, []int{0, 0}) {
			checkErrno(t, pool, quota.Check(pool, q), api.ErrArg)
		}
	}
}

// P8.1: all lists of up to MaxTenants numbers in and beside their bounds. A sum may be above any pool.
func TestSum(t *testing.T) {
	for many := range maxTenants + 1 {
		for _, q := range listsOf(many, upTo(-1, maxPages+1)) {
			want, wantE := wantSum(q)
			sum, e := quota.Sum(q)
			checkNumber(t, q, sum, e, want, wantE)
		}
	}
	for q, want := range map[[maxTenants]int]int{{16, 16, 16, 16}: 64, {0, 0, 0, 0}: 0, {1, 2, 3, 4}: 10, {16, 1, 0, 0}: 17, {0, 0, 0, 16}: 16} {
		sum, e := quota.Sum(q[:])
		checkNumber(t, q, sum, e, want, api.OK)
	}
}

// P8.1: none of them is no fault of a sum.
func TestSumOfNone(t *testing.T) {
	for _, q := range [][]int{nil, {}, roomy(nil)} {
		sum, e := quota.Sum(q)
		checkNumber(t, "none", sum, e, 0, api.OK)
	}
}

// P8.1: how many there are is looked for ahead of what they are.
func TestSumOfWrongOnes(t *testing.T) {
	for _, q := range wrongQuotas() {
		want := api.ErrArg
		switch {
		case len(q) == 0:
			continue
		case len(q) > maxTenants:
			want = api.ErrMany
		}
		sum, e := quota.Sum(q)
		checkNumber(t, q, sum, e, 0, want)
	}
	for _, wrong := range []int{-1, 17, top, least} {
		for at := range maxTenants + 1 {
			for many := at + 1; many <= maxTenants+1; many++ {
				q := slices.Repeat([]int{1}, many)
				q[at] = wrong
				want := api.ErrArg
				if many > maxTenants {
					want = api.ErrMany
				}
				sum, e := quota.Sum(q)
				checkNumber(t, q, sum, e, 0, want)
			}
		}
	}
}

// P8.1, P8.2: set up, down, and to what it was; all quotas of a small pool, with all tenants and numbers of pages.
func TestSet(t *testing.T) {
	for pool := 1; pool <= 5; pool++ {
		for many := 1; many <= maxTenants; many++ {
			for _, q := range listsOf(many, upTo(0, pool)) {
				for tenant := -1; tenant <= maxTenants; tenant++ {
					for pages := -1; pages <= pool+1; pages++ {
						setBoth(t, pool, q, tenant, pages)
					}
				}
			}
		}
	}
}

// P8.2: quotas of all pools.
func TestSetOfAnyQuotas(t *testing.T) {
	r := rand.New(rand.NewSource(81))
	for range 1000 {
		pool := 1 + r.Intn(maxPages)
		q := randomQuotas(r, pool)
		for tenant := -1; tenant <= maxTenants; tenant++ {
			for pages := -1; pages <= maxPages+1; pages++ {
				setBoth(t, pool, q, tenant, pages)
			}
		}
	}
}

// P8.2: the edges of what a tenant may get: all that is left, and one page more.
func TestSetToTheEdges(t *testing.T) {
	for pool := 2; pool <= maxPages; pool++ {
		for _, tenant := range []int{0, 1} {
			q, want := []int{1, 1}, []int{1, 1}
			want[tenant] = pool - 1
			then, e := quota.Set(pool, q, tenant, pool-1)
			checkQuotas(t, pool, then, e, want, api.OK)
			then, e = quota.Set(pool, q, tenant, pool)
			checkQuotas(t, pool, then, e, nil, api.ErrQuota)
			want[tenant] = 0
			then, e = quota.Set(pool, q, tenant, 0)
			checkQuotas(t, pool, then, e, want, api.OK)
		}
		then, e := quota.Set(pool, []int{0}, 0, pool)
		checkQuotas(t, pool, then, e, []int{pool}, api.OK)
		want := api.ErrQuota
		if pool == maxPages {
			want = api.ErrArg
		}
		then, e = quota.Set(pool, []int{0}, 0, pool+1)
		checkQuotas(t, pool, then, e, nil, want)
	}
	then, e := quota.Set(1, []int{0}, 0, maxPages)
	checkQuotas(t, "more than the pool", then, e, nil, api.ErrQuota)
	then, e = quota.Set(1, []int{0}, 0, maxPages+1)
	checkQuotas(t, "more than any pool", then, e, nil, api.ErrArg)
}

// P8.2: which error stands first, of all pairs and triples of wrong ones; and nothing stands beside it.
func TestSetOfWrongOnes(t *testing.T) {
	numbers := []int{-1, 0, 1, 2, 3, 4, 5, 15, 16, 17, 18, 1 << 32, 1<<32 + 1, top, least}
	right := [][]int{{0}, {1}, {16}, {1, 1}, {0, 4}, {8, 8}, {4, 4, 4, 4}}
	for _, q := range slices.Concat(wrongQuotas(), right) {
		for _, pool := range append(wrongPools(), 1, 2, 4, 16) {
			for _, tenant := range numbers {
				for _, pages := range numbers {
					setBoth(t, pool, q, tenant, pages)
				}
			}
		}
	}
}

// P8.2: a tenant that the house may have, but that has no quota, has none to be set.
func TestSetOfATenantWithoutOne(t *testing.T) {
	for many := 1; many <= maxTenants; many++ {
		q := make([]int, many)
		for tenant := -2; tenant <= maxTenants+1; tenant++ {
			then, e := quota.Set(16, q, tenant, 0)
			if tenant >= 0 && tenant < many {
				checkQuotas(t, tenant, then, e, q, api.OK)
			} else {
				checkQuotas(t, tenant, then, e, nil, api.ErrArg)
			}
		}
	}
}

// P8.4: what stands behind quotas is neither read nor changed.
func TestQuotasAreOnlyRead(t *testing.T) {
	r := rand.New(rand.NewSource(84))
	lists := append(wrongQuotas(), []int{1}, []int{2, 2}, []int{4, 4, 4, 4})
	for range 200 {
		lists = append(lists, randomQuotas(r, maxPages))
	}
	for _, l := range lists {
		q := roomy(l)
		was := whole(q)
		sum, e := quota.Sum(q)
		want, wantE := wantSum(l)
		checkNumber(t, q, sum, e, want, wantE)
		checkErrno(t, q, quota.Check(maxPages, q), wantCheck(maxPages, l))
		for tenant := range maxTenants {
			for _, pages := range []int{-1, 0, 1, 16, 17} {
				setBoth(t, maxPages, q, tenant, pages)
			}
		}
		if !slices.Equal(whole(q), was) {
			t.Fatalf("%s changed", short(was))
		}
	}
}

// P8.4: what is set shares no memory with what it is made of, nor two that are set with each other, whichever is changed.
func TestSetIsNewMemory(t *testing.T) {
	for many := 1; many <= maxTenants; many++ {
		for tenant := range many {
			for _, pages := range []int{0, 1, 2} {
				for _, q := range [][]int{roomy(slices.Repeat([]int{1}, many)), slices.Clip(slices.Repeat([]int{1}, many))} {
					was := whole(q)
					a, _ := quota.Set(maxPages, q, tenant, pages)
					b, _ := quota.Set(maxPages, q, tenant, pages)
					want := slices.Clone(b)
					spoil(a)
					if !slices.Equal(whole(q), was) || !slices.Equal(b, want) {
						t.Fatalf("%v, %v: what is set shares memory", q, b)
					}
					spoil(q)
					if !slices.Equal(b, want) {
						t.Fatalf("%v, %v: what is set shares memory with what was handed in", q, b)
					}
					c, _ := quota.Set(maxPages, was[:many], tenant, pages)
					checkQuotas(t, "anew", c, api.OK, want, api.OK)
				}
			}
		}
	}
}
