package ticket

import (
	"slices"

	"cloakroom/api"
)

// Put puts a ticket last in the inboxes of all its shards, and numbers it.
func Put(q api.Queue, t api.Ticket) (api.Queue, int, api.Errno) {
	if e := Check(q); e != api.OK {
		return api.Queue{}, 0, e
	}
	if !mayBe(t) {
		return api.Queue{}, 0, api.ErrBad
	}
	shards := needs(t, len(q.Boxes))
	if q.Next == endNumber || hasFull(q, shards) {
		return api.Queue{}, 0, api.ErrFull
	}
	t.Number = q.Next
	left := copied(q)
	left.Next++
	for _, i := range shards {
		left.Boxes[i] = append(left.Boxes[i], copiedTicket(t))
	}
	return left, t.Number, api.OK
}

// Ready are the shards that may take their first ticket, rising.
func Ready(q api.Queue) ([]int, api.Errno) {
	if e := Check(q); e != api.OK {
		return nil, e
	}
	var l []int
	for i := range q.Boxes {
		if isReady(q, i) {
			l = append(l, i)
		}
	}
	return l, api.OK
}

// Take takes a shard's first ticket out of all inboxes.
func Take(q api.Queue, shard int) (api.Queue, api.Ticket, api.Errno) {
	if e := Check(q); e != api.OK {
		return api.Queue{}, api.Ticket{}, e
	}
	if shard < 0 || shard >= len(q.Boxes) {
		return api.Queue{}, api.Ticket{}, api.ErrArg
	}
	if !isReady(q, shard) {
		return api.Queue{}, api.Ticket{}, api.ErrNone
	}
	first := copiedTicket(q.Boxes[shard][0])
	left := copied(q)
	for _, i := range needs(first, len(q.Boxes)) {
		left.Boxes[i] = slices.Delete(left.Boxes[i], 0, 1)
	}
	return left, first, api.OK
}

// isReady: those that have a ticket first must be all that need it.
func isReady(q api.Queue, shard int) bool {
	if len(q.Boxes[shard]) == 0 {
		return false
	}
	first := q.Boxes[shard][0]
	holders := holdersAt(q, [api.MaxShards]int{}, first)
	return slices.Equal(holders, needs(first, len(q.Boxes)))
}

func hasFull(q api.Queue, shards []int) bool {
	for _, i := range shards {
		if len(q.Boxes[i]) == api.MaxBox {
			return true
		}
	}
	return false
}

// copied shares no list with the inboxes: a ticket of several shards has its keys in each of them anew.
func copied(q api.Queue) api.Queue {
	left := api.Queue{Next: q.Next, Boxes: make([][]api.Ticket, len(q.Boxes))}
	for i := range q.Boxes {
		for k := range q.Boxes[i] {
			left.Boxes[i] = append(left.Boxes[i], copiedTicket(q.Boxes[i][k]))
		}
	}
	return left
}

// copiedTicket: but for its command's keys a ticket has no memory of its own.
func copiedTicket(t api.Ticket) api.Ticket {
	t.Command.Keys = slices.Clone(t.Command.Keys)
	return t
}
