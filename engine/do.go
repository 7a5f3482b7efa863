package engine

import (
	"cloakroom/api"
	"cloakroom/item"
	"cloakroom/order"
)

// Do does a command: its result, and what it changed.
func (e *Engine) Do(c api.Command) (api.Result, []api.Change, api.Errno) {
	if !e.isMade() {
		return api.Result{}, nil, api.ErrNil
	}
	names, f := order.Names(c)
	if f != api.OK {
		return api.Result{}, nil, f
	}
	if !e.hasQuota(c.Tenant) {
		return api.Result{Kind: api.ResRefused}, nil, api.OK
	}
	r, l := e.doNames(c, names)
	return r, l, api.OK
}

func (e *Engine) doNames(c api.Command, names []api.Name) (api.Result, []api.Change) {
	switch c.Kind {
	case api.CmdGet:
		return e.get(names), nil
	case api.CmdDelete:
		return e.drop(names)
	case api.CmdFlush:
		return e.flush(c.Tenant)
	}
	place, is := e.find(names[0])
	if !is {
		return e.doMissing(c)
	}
	return e.doThere(c, place)
}

func (e *Engine) get(names []api.Name) api.Result {
	var l []api.Item
	for _, n := range names {
		if place, is := e.find(n); is {
			e.hit(place)
			l = append(l, e.items.kept[place].Item)
		}
	}
	return api.Result{Kind: api.ResDone, Items: l}
}

func (e *Engine) drop(names []api.Name) (api.Result, []api.Change) {
	var l []api.Change
	for _, n := range names {
		if place, is := e.find(n); is {
			l = append(l, dropped(e.leave(place), api.WhyDeleted))
		}
	}
	if len(l) == 0 {
		return api.Result{Kind: api.ResNone}, nil
	}
	return api.Result{Kind: api.ResDone, Number: uint64(len(l))}, l
}

func (e *Engine) flush(tenant int) (api.Result, []api.Change) {
	for _, place := range e.items.ofTenant(tenant) {
		e.leave(place)
	}
	return api.Result{Kind: api.ResDone}, []api.Change{{Kind: api.ChClear, Tenant: tenant}}
}

// doMissing does a command of one key, under which nothing is there.
func (e *Engine) doMissing(c api.Command) (api.Result, []api.Change) {
	switch c.Kind {
	case api.CmdSet, api.CmdAdd:
		return e.set(c)
	}
	return api.Result{Kind: api.ResNone}, nil
}

// doThere does a command of one key, under which something is there.
func (e *Engine) doThere(c api.Command, place int) (api.Result, []api.Change) {
	x := e.items.kept[place].Item
	switch c.Kind {
	case api.CmdAdd:
		return api.Result{Kind: api.ResThere}, nil
	case api.CmdCas:
		if x.Unique != c.Unique {
			return api.Result{Kind: api.ResThere}, nil
		}
	case api.CmdIncr, api.CmdDecr:
		return e.count(c, x)
	case api.CmdAppend:
		return e.extend(c, x)
	case api.CmdTouch:
		return e.touch(c, place)
	}
	return e.set(c)
}

func (e *Engine) set(c api.Command) (api.Result, []api.Change) {
	kind, l := e.put(c.Tenant, api.Item{Key: c.Keys[0], Value: c.Value, Flags: c.Flags, Until: e.until(c)})
	return api.Result{Kind: kind}, l
}

func (e *Engine) count(c api.Command, x api.Item) (api.Result, []api.Change) {
	value, number, is := item.Count(x.Value, c.By, c.Kind == api.CmdDecr)
	if !is {
		return api.Result{Kind: api.ResNumber}, nil
	}
	x.Value = value
	kind, l := e.put(c.Tenant, x)
	if kind != api.ResDone {
		number = 0
	}
	return api.Result{Kind: kind, Number: number}, l
}

func (e *Engine) extend(c api.Command, x api.Item) (api.Result, []api.Change) {
	value, f := item.Join(x.Value, c.Value)
	if f != api.OK {
		return api.Result{Kind: api.ResLarge}, nil
	}
	x.Value = value
	kind, l := e.put(c.Tenant, x)
	return api.Result{Kind: kind}, l
}

// touch changes nothing that an item's chunk hangs on: so it needs no room, and is never refused.
func (e *Engine) touch(c api.Command, place int) (api.Result, []api.Change) {
	k := e.items.kept[place]
	k.Item.Until = e.until(c)
	e.hit(place)
	e.keep(place, k)
	return api.Result{Kind: api.ResDone}, []api.Change{putting(k)}
}

// until is never refused: the clock is a moment, and For one, as the command may be.
func (e *Engine) until(c api.Command) int {
	until, _ := item.Until(e.now(), c.For)
	return until
}
