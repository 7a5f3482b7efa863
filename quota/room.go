package quota

import (
	"cloakroom/api"
	"cloakroom/slab"
)

// Room tells whether a tenant has fewer pages than its quota.
func Room(s api.Slab, q []int, tenant int) (bool, api.Errno) {
	have, e := owned(s, q, tenant)
	if e != api.OK {
		return false, e
	}
	return have < q[tenant], api.OK
}

// Over is by how many a tenant has more pages than its quota.
func Over(s api.Slab, q []int, tenant int) (int, api.Errno) {
	have, e := owned(s, q, tenant)
	if e != api.OK {
		return 0, e
	}
	return max(have-q[tenant], 0), api.OK
}

// owned is how many pages a tenant has that has a quota, too. The slab's pages are the pool.
func owned(s api.Slab, q []int, tenant int) (int, api.Errno) {
	if e := slab.Check(s); e != api.OK {
		return 0, e
	}
	if e := Check(len(s.Pages), q); e != api.OK {
		return 0, e
	}
	if !hasQuota(q, tenant) {
		return 0, api.ErrArg
	}
	return slab.Owned(s, tenant)
}
