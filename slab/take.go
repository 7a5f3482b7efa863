package slab

import "cloakroom/api"

// Take takes a chunk for a tenant: one in a page that it has, as long as there is one; else the first of a free page, if it has fewer pages than its quota.
func Take(s api.Slab, tenant, class, quota int) (left api.Slab, page, chunk int, e api.Errno) {
	if e = checkTenant(s, tenant); e != api.OK {
		return api.Slab{}, 0, 0, e
	}
	if !isClass(class) || quota < 0 || quota > api.MaxPages {
		return api.Slab{}, 0, 0, api.ErrArg
	}
	page, chunk, ok := room(s, tenant, class)
	if !ok && owned(s, tenant) < quota {
		page, ok = freePage(s)
	}
	if !ok {
		return api.Slab{}, 0, 0, api.ErrFull
	}
	left = copied(s)
	left.Pages[page] = api.Page{Tenant: tenant, Class: class, Used: s.Pages[page].Used | bit(chunk)}
	return left, page, chunk, api.OK
}

// Free gives a chunk back.
func Free(s api.Slab, page, chunk int) (api.Slab, api.Errno) {
	if e := Check(s); e != api.OK {
		return api.Slab{}, e
	}
	if page < 0 || page >= len(s.Pages) {
		return api.Slab{}, api.ErrArg
	}
	p := s.Pages[page]
	if chunk < 0 || chunk >= chunksOf(p.Class) || !isUsed(p, chunk) {
		return api.Slab{}, api.ErrNone
	}
	p.Used &^= bit(chunk)
	if isFree(p) {
		p = api.Page{}
	}
	left := copied(s)
	left.Pages[page] = p
	return left, api.OK
}

// room is the least chunk that is not used, in the least page of that tenant and class that has one.
func room(s api.Slab, tenant, class int) (page, chunk int, ok bool) {
	many := chunksOf(class)
pages:
	for i, p := range s.Pages {
		if !isOf(p, tenant) || p.Class != class {
			continue
		}
		for k := range many {
			if !isUsed(p, k) {
				page, chunk, ok = i, k, true
				break pages
			}
		}
	}
	return page, chunk, ok
}

// freePage is the least one.
func freePage(s api.Slab) (page int, ok bool) {
	for i, p := range s.Pages {
		if isFree(p) {
			return i, true
		}
	}
	return 0, false
}

// isUsed asks for a chunk that the page has: its number is not below 0.
func isUsed(p api.Page, chunk int) bool {
	return p.Used>>uint(chunk)&1 == 1
}

func bit(chunk int) uint16 {
	return uint16(1) << uint(chunk)
}

// copied has no spare room, and shares nothing with the slab.
func copied(s api.Slab) api.Slab {
	c := make([]api.Page, len(s.Pages))
	copy(c, s.Pages)
	return api.Slab{Pages: c}
}
