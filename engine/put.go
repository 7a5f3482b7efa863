package engine

import (
	"strings"

	"cloakroom/api"
	"cloakroom/lru"
	"cloakroom/slab"
)

// put puts an item, instead of the one of its name and, where there is no room, of those that go first.
func (e *Engine) put(tenant int, x api.Item) (uint8, []api.Change) {
	class, fits := classOf(x)
	if !fits {
		return api.ResLarge, nil
	}
	was := *e
	old, is := e.find(api.Name{Tenant: tenant, Key: x.Key})
	if is {
		e.release(old)
	}
	place, victims, ok := e.room(tenant, class)
	if !ok {
		*e = was
		return api.ResMemory, nil
	}
	if is {
		e.forget(old)
	}
	var l []api.Change
	for _, victim := range victims {
		l = append(l, dropped(e.forget(victim), api.WhyEvicted))
	}
	e.last++
	x.Unique = e.last
	k := api.Kept{Tenant: tenant, Item: x}
	e.stand(place, k)
	return api.ResDone, append(l, putting(k))
}

// room is a chunk that is taken, and the places of those that are released for it. Where there is none, some may be released nevertheless: the caller takes that back.
func (e *Engine) room(tenant, class int) (place int, victims []int, ok bool) {
	for {
		if place, ok = e.take(tenant, class); ok {
			return place, victims, true
		}
		key, f := lru.Victim(*e.orders[tenant][class])
		if f != api.OK {
			return 0, nil, false
		}
		victim, _ := e.find(api.Name{Tenant: tenant, Key: key})
		e.release(victim)
		victims = append(victims, victim)
	}
}

// take takes a chunk, if there is one by the tenant's quota.
func (e *Engine) take(tenant, class int) (place int, ok bool) {
	left, page, chunk, f := slab.Take(*e.pages, tenant, class, e.quotas[tenant])
	if f != api.OK {
		return 0, false
	}
	e.pages = &left
	return placeOf(page, chunk), true
}

// stand lets an item be there, at a place that was taken for it.
func (e *Engine) stand(place int, k api.Kept) {
	// Texts may be pieces of long ones, which would be kept with them.
	k.Item.Key, k.Item.Value = strings.Clone(k.Item.Key), strings.Clone(k.Item.Value)
	order := e.orderAt(place)
	o, _ := lru.Add(**order, k.Item.Key)
	*order = &o
	e.places.Put(nameOf(k), place)
	e.keep(place, k)
}

// keep says what an item is that is there, and when it is due; it is the last that was put.
func (e *Engine) keep(place int, k api.Kept) {
	n := nameOf(k)
	if k.Item.Until == 0 {
		e.wheel.Del(n)
	} else {
		e.wheel.Add(n, k.Item.Until)
	}
	e.items.put(place, k)
}

// hit tells its order that an item was asked for.
func (e *Engine) hit(place int) {
	order := e.orderAt(place)
	o, _ := lru.Hit(**order, e.items.kept[place].Item.Key)
	*order = &o
}

// leave is all that happens when an item leaves.
func (e *Engine) leave(place int) api.Name {
	e.release(place)
	return e.forget(place)
}

// release is the half of leaving that a copy of the struct takes back.
func (e *Engine) release(place int) {
	order := e.orderAt(place)
	o, _ := lru.Del(**order, e.items.kept[place].Item.Key)
	*order = &o
	page, chunk := chunkAt(place)
	left, _ := slab.Free(*e.pages, page, chunk)
	e.pages = &left
}

// forget is the other half, which nothing takes back. The place may have been taken anew meanwhile, but nothing stands there yet.
func (e *Engine) forget(place int) api.Name {
	n := nameOf(e.items.kept[place])
	e.places.Del(n)
	e.wheel.Del(n)
	e.items.drop(place)
	return n
}

// orderAt is where the order is kept of the page's tenant and class.
func (e *Engine) orderAt(place int) **api.Order {
	page, _ := chunkAt(place)
	p := e.pages.Pages[page]
	return &e.orders[p.Tenant][p.Class]
}

func putting(k api.Kept) api.Change {
	return api.Change{Kind: api.ChPut, Tenant: k.Tenant, Item: k.Item}
}

func dropped(n api.Name, why uint8) api.Change {
	return api.Change{Kind: api.ChDrop, Tenant: n.Tenant, Key: n.Key, Why: why}
}
