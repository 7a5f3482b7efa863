package shards

import (
	"iter"

	"cloakroom/api"
	"cloakroom/engine"
	"cloakroom/order"
	"cloakroom/ticket"
)

// Put lets a ticket wait in the inboxes of its shards: its number.
func (h *House) Put(t api.Ticket) (int, api.Errno) {
	if !h.isMade() {
		return 0, api.ErrNil
	}
	left, number, f := ticket.Put(h.state.boxes, t)
	if f != api.OK {
		return 0, f
	}
	h.state.boxes = left
	return number, api.OK
}

// Ready are the shards that can go on, rising.
func (h *House) Ready() ([]int, api.Errno) {
	if !h.isMade() {
		return nil, api.ErrNil
	}
	return ticket.Ready(h.state.boxes)
}

// Waiting is how many tickets wait. One of several shards stands in several inboxes, with one number.
func (h *House) Waiting() (int, api.Errno) {
	if !h.isMade() {
		return 0, api.ErrNil
	}
	numbers := map[int]struct{}{}
	for _, box := range h.state.boxes.Boxes {
		for _, t := range box {
			numbers[t.Number] = struct{}{}
		}
	}
	return len(numbers), api.OK
}

// Step lets a shard go on: its first ticket is done, by all that need it.
func (h *House) Step(shard int) (number int, r api.Result, l []api.Change, e api.Errno) {
	if !h.isMade() {
		return 0, api.Result{}, nil, api.ErrNil
	}
	left, t, e := ticket.Take(h.state.boxes, shard)
	if e != api.OK {
		return 0, api.Result{}, nil, e
	}
	h.state.boxes = left
	r, l = h.state.do(t)
	return t.Number, r, l, api.OK
}

// do is of tickets that were put, and so may be: what the layers below are asked for it they don't refuse, but for a quota.
func (s *state) do(t api.Ticket) (api.Result, []api.Change) {
	switch t.Kind {
	case api.TickClock:
		return s.tick(t)
	case api.TickQuota:
		return s.quota(t)
	}
	return s.command(t)
}

func (s *state) command(t api.Ticket) (api.Result, []api.Change) {
	var results []api.Result
	var l []api.Change
	for shard, e := range s.of(t) {
		part, _ := order.Part(t.Command, shard, len(s.shards))
		r, more, _ := e.Do(part)
		results = append(results, r)
		l = behind(l, more)
	}
	r, _ := order.Merge(t.Command, len(s.shards), results)
	return r, l
}

// tick: a moment that is past already leaves the clock where it is.
func (s *state) tick(t api.Ticket) (api.Result, []api.Change) {
	var l []api.Change
	for _, e := range s.of(t) {
		i, _ := e.Image()
		more, _ := e.Tick(max(t.To, i.Clock))
		l = behind(l, more)
	}
	return api.Result{Kind: api.ResDone}, l
}

// quota: as all shards have the same pages and quotas, the first one refuses what any of them would, and nothing is to be taken back.
func (s *state) quota(t api.Ticket) (api.Result, []api.Change) {
	var l []api.Change
	for _, e := range s.of(t) {
		more, f := e.Quota(t.Tenant, t.To)
		if f != api.OK {
			return api.Result{Kind: api.ResRefused}, nil
		}
		l = behind(l, more)
	}
	return api.Result{Kind: api.ResDone}, l
}

// of goes through a ticket's shards, rising.
func (s *state) of(t api.Ticket) iter.Seq2[int, *engine.Engine] {
	return func(yield func(int, *engine.Engine) bool) {
		l, _ := ticket.Shards(t, len(s.shards))
		for _, shard := range l {
			if !yield(shard, s.shards[shard]) {
				return
			}
		}
	}
}

// behind puts a shard's changes behind those of the ones ahead of it. A change that is of all shards is the last one of each of them: that of the one ahead goes, and so it stands once, the last of all.
func behind(l, more []api.Change) []api.Change {
	if last := len(l) - 1; last >= 0 && isOfAll(l[last].Kind) {
		l = l[:last]
	}
	return append(l, more...)
}

func isOfAll(kind uint8) bool {
	switch kind {
	case api.ChClear, api.ChClock, api.ChQuota:
		return true
	}
	return false
}
