package engine

import (
	"cloakroom/api"
	"cloakroom/quota"
	"cloakroom/slab"
)

// Tick lets the clock go on: what is due leaves.
func (e *Engine) Tick(now int) ([]api.Change, api.Errno) {
	if !e.isMade() {
		return nil, api.ErrNil
	}
	due, f := e.wheel.Tick(now)
	if f != api.OK {
		return nil, f
	}
	// In the wheel's order: what is left in the kept row hangs on who goes ahead of whom, and so it is the same however many steps the clock takes.
	for _, n := range due {
		if place, is := e.find(n); is {
			e.leave(place)
		}
	}
	return []api.Change{{Kind: api.ChClock, To: now}}, api.OK
}

// Quota sets a tenant's: what stands in pages that it may no longer have is evicted.
func (e *Engine) Quota(tenant, pages int) ([]api.Change, api.Errno) {
	if !e.isMade() {
		return nil, api.ErrNil
	}
	then, f := quota.Set(len(e.pages.Pages), e.quotas, tenant, pages)
	if f != api.OK {
		return nil, f
	}
	e.quotas = then
	var l []api.Change
	for e.isOver(tenant) {
		last, _ := slab.Last(*e.pages, tenant)
		l = append(l, e.emptyPage(last)...)
	}
	return append(l, api.Change{Kind: api.ChQuota, Tenant: tenant, To: pages}), api.OK
}

func (e *Engine) isOver(tenant int) bool {
	many, _ := quota.Over(*e.pages, e.quotas, tenant)
	return many > 0
}

// emptyPage evicts what stands in a page, chunk by chunk.
func (e *Engine) emptyPage(page int) []api.Change {
	var l []api.Change
	used := e.pages.Pages[page].Used
	for chunk := range mostChunks {
		if used>>uint(chunk)&1 == 1 {
			l = append(l, dropped(e.leave(placeOf(page, chunk)), api.WhyEvicted))
		}
	}
	return l
}
