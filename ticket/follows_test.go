package ticket_test

import (
	"fmt"
	"math/rand"
	"slices"
	"testing"

	"cloakroom/api"
	"cloakroom/ticket"
)

// roomy is a list with spare room behind it, in which something stands.
func roomy[T any](l []T, behind ...T) []T {
	return append(slices.Clone(l), behind...)[:len(l)]
}

// whole is a list with its spare room.
func whole[T any](l []T) []T { return l[:cap(l)] }

// roomyTicket has spare room behind its keys.
func roomyTicket(t api.Ticket) api.Ticket {
	t.Command.Keys = roomy(t.Command.Keys, "a", "", "spare")
	return t
}

// roomyQueue has spare room behind each list.
func roomyQueue(q api.Queue) api.Queue {
	q = clone(q)
	for i := range q.Boxes {
		for k := range q.Boxes[i] {
			q.Boxes[i][k] = roomyTicket(q.Boxes[i][k])
		}
		q.Boxes[i] = roomy(q.Boxes[i], roomyTicket(get("x")), clock(7), api.Ticket{Number: -3})
	}
	q.Boxes = roomy(q.Boxes, row(0, clock(8)), nil)
	return q
}

// oneMemory has all inboxes in one memory, each with the next one as its spare room, and the keys of one ticket in one list.
func oneMemory(q api.Queue) api.Queue {
	all := slices.Concat(clone(q).Boxes...)
	for i, t := range all {
		first := slices.IndexFunc(all, func(x api.Ticket) bool { return sameTicket(x, t) })
		all[i].Command.Keys = all[first].Command.Keys
	}
	q.Boxes = slices.Clone(q.Boxes)
	from := 0
	for i := range q.Boxes {
		q.Boxes[i] = all[from : from+len(q.Boxes[i])]
		from += len(q.Boxes[i])
	}
	return q
}

// wholes tells all that stands in inboxes, and in the spare room of their lists.
func wholes(q api.Queue) string {
	text := fmt.Sprint(q.Next, cap(q.Boxes))
	for _, box := range whole(q.Boxes) {
		text += fmt.Sprint(len(box), cap(box))
		for _, t := range whole(box) {
			text += wholeTicket(t)
		}
	}
	return text
}

func wholeTicket(t api.Ticket) string {
	return fmt.Sprintf("%+v %d %q", t, len(t.Command.Keys), whole(t.Command.Keys))
}

// spoil changes each list, and its spare room.
func spoil(q api.Queue) {
	for i, box := range whole(q.Boxes) {
		for k := range whole(box) {
			spoilTicket(whole(box)[k])
			whole(box)[k] = api.Ticket{Number: 99, Kind: 99}
		}
		whole(q.Boxes)[i] = nil
	}
}

func spoilTicket(t api.Ticket) {
	for i := range whole(t.Command.Keys) {
		whole(t.Command.Keys)[i] = "spoilt"
	}
}

// P12.4: what is handed in is only read, its spare room neither changed nor told, whether or not it is refused.
func TestWhatIsHandedInIsOnlyRead(t *testing.T) {
	r := rand.New(rand.NewSource(124))
	for range 800 {
		m := randomModel(r, r.Intn(10))
		wrong := spoilt(r, m.queue())
		for _, q := range []api.Queue{roomyQueue(m.queue()), oneMemory(m.queue()), roomyQueue(wrong)} {
			x := roomyTicket(randomTicket(r))
			if r.Intn(8) == 0 {
				x.To = -1
			}
			was, wasX := wholes(q), wholeTicket(x)
			ticket.Check(q)
			ticket.Ready(q)
			for n := range 6 {
				ticket.Shards(x, n)
				ticket.Take(q, n-1)
			}
			ticket.Put(q, x)
			if wholes(q) != was || wholeTicket(x) != wasX {
				t.Fatalf("%s, %s changed", was, wasX)
			}
		}
		q, again := roomyQueue(m.queue()), *m
		bothPut(t, q, &again, roomyTicket(randomTicket(r)))
		for shard := range m.n {
			again = *m
			bothTake(t, q, &again, shard)
			again = *m
			bothTake(t, oneMemory(q), &again, shard)
		}
		checkReady(t, q, m.ready(), api.OK)
	}
}

// P12.4: what is answered shares nothing with what was handed in, whichever of the two is changed.
func TestWhatIsAnsweredIsNewMemory(t *testing.T) {
	r := rand.New(rand.NewSource(125))
	for range 800 {
		m := randomModel(r, r.Intn(10))
		for _, of := range []func(api.Queue) api.Queue{roomyQueue, oneMemory} {
			q, x, shard := of(m.queue()), roomyTicket(randomTicket(r)), r.Intn(m.n)
			was, wasX := wholes(q), wholeTicket(x)
			put, _, _ := ticket.Put(q, x)
			took, first, _ := ticket.Take(q, shard)
			spoil(put)
			spoil(took)
			spoilTicket(first)
			if wholes(q) != was || wholeTicket(x) != wasX {
				t.Fatalf("%s, %s changed", was, wasX)
			}
			put, _, _ = ticket.Put(q, x)
			took, first, _ = ticket.Take(q, shard)
			was, wasTook, wasX := wholes(put), wholes(took), wholeTicket(first)
			spoil(q)
			spoilTicket(x)
			if wholes(put) != was || wholes(took) != wasTook || wholeTicket(first) != wasX {
				t.Fatalf("what was answered changed: %s, %s, %s", was, wasTook, wasX)
			}
		}
	}
}

// checkApart ends the test unless no two lists of an answer share memory: each has, its spare room too, a mark of its own, which is still there when all have one.
func checkApart(t *testing.T, q api.Queue, more ...api.Ticket) {
	t.Helper()
	tickets := slices.Concat(append(slices.Clone(q.Boxes), more)...)
	for i, x := range tickets {
		for k := range whole(x.Command.Keys) {
			whole(x.Command.Keys)[k] = fmt.Sprint(i)
		}
	}
	for i, x := range tickets {
		for _, key := range whole(x.Command.Keys) {
			if key != fmt.Sprint(i) {
				t.Fatalf("two tickets share their keys: %s", short(q))
			}
		}
	}
	for i, box := range q.Boxes {
		for k := range whole(box) {
			whole(box)[k].Number = i
		}
	}
	for i, box := range q.Boxes {
		for k := range whole(box) {
			if whole(box)[k].Number != i {
				t.Fatalf("two inboxes share their tickets: %s", short(q))
			}
		}
	}
}

// P12.4: nor do two lists of one answer share any memory, not even those of one ticket in several inboxes.
func TestListsOfAnAnswerShareNothing(t *testing.T) {
	r := rand.New(rand.NewSource(126))
	for range 2000 {
		m := randomModel(r, r.Intn(10))
		for _, of := range []func(api.Queue) api.Queue{roomyQueue, oneMemory} {
			q := of(m.queue())
			left, _, _ := ticket.Put(q, get("a", "b", "c", "d"))
			checkApart(t, left)
			for shard := range m.n {
				left, first, e := ticket.Take(q, shard)
				if e == api.OK {
					checkApart(t, left, first)
				}
			}
		}
	}
	for n := 1; n <= maxShards; n++ {
		q, _ := ticket.New(n)
		checkApart(t, q)
		other, _ := ticket.New(n)
		q.Boxes[0] = row(0, clock(1))
		if len(other.Boxes[0]) != 0 {
			t.Fatal("two new ones share their inboxes")
		}
		l, _ := ticket.Shards(clock(1), n)
		l[0] = 9
		checkShards(t, clock(1), n, []int{0, 1, 2, 3}[:n], api.OK)
	}
}

// P12.4, R2: what is answered hangs on the arguments alone: the same inboxes may be gone on from again and again, in several ways.
func TestAskedAgain(t *testing.T) {
	r := rand.New(rand.NewSource(127))
	m := &model{n: 3, line: row(0, getAt(3, 0), getAt(3, 0, 1), getAt(3, 2), clock(1)), next: 4}
	q := roomyQueue(m.queue())
	for range 300 {
		for shard := -1; shard <= 3; shard++ {
			again := *m
			bothTake(t, q, &again, shard)
		}
		again := *m
		bothPut(t, q, &again, randomTicket(r))
		checkReady(t, q, []int{0, 2}, api.OK)
	}
}

// P12.5, W2: where a ticket waits, in any inboxes that may be, a shard is ready, and those that are can take; the others can't.
func TestSomebodyIsReady(t *testing.T) {
	r := rand.New(rand.NewSource(128))
	for range 2000 {
		q := randomModel(r, r.Intn(20)).queue()
		for {
			l, e := ticket.Ready(q)
			waits := slices.ContainsFunc(q.Boxes, func(box []api.Ticket) bool { return len(box) > 0 })
			if e != api.OK || waits != (len(l) > 0) {
				t.Fatalf("Ready(%s): %v, error %d", short(q), l, e)
			}
			for shard := range q.Boxes {
				_, _, e := ticket.Take(q, shard)
				if (e == api.OK) != slices.Contains(l, shard) {
					t.Fatalf("Take(%s, %d): error %d, though %v are ready", short(q), shard, e, l)
				}
			}
			if !waits {
				break
			}
			q, _, _ = ticket.Take(q, l[r.Intn(len(l))])
		}
	}
}

// run is puts of a list of tickets, and takes between them: how many were put, and the numbers that were taken, in order.
type run struct {
	q     api.Queue
	put   int
	taken []int
}

// checkTaken ends the test unless what was taken was put, once, and ahead of all that were put behind it and need one of its shards.
func checkTaken(t *testing.T, n int, l []api.Ticket, taken []int) {
	t.Helper()
	for i, b := range taken {
		if b < 0 || b >= len(l) || slices.Contains(taken[:i], b) {
			t.Fatalf("taken were %v, of %s", taken, short(l))
		}
		for a := range b {
			for shard := range n {
				if hits(l[a], shard, n) && hits(l[b], shard, n) && !slices.Contains(taken[:i], a) {
					t.Fatalf("taken were %v: %d ahead of %d, of %s", taken, b, a, short(l))
				}
			}
		}
	}
}

// everyWay goes on in each way: the next put, if there is one, or a take by any shard that is ready. It tells how many ways there are.
func (w run) everyWay(t *testing.T, l []api.Ticket) int {
	ready, e := ticket.Ready(w.q)
	if e != api.OK {
		t.Fatal(short(w.q), e)
	}
	if len(ready) == 0 && w.put == len(l) {
		checkTaken(t, len(w.q.Boxes), l, w.taken)
		if len(w.taken) != len(l) {
			t.Fatalf("taken were %v, of %s", w.taken, short(l))
		}
		return 1
	}
	ways := 0
	if w.put < len(l) {
		left, number, e := ticket.Put(w.q, l[w.put])
		if e != api.OK || number != w.put {
			t.Fatal(short(w.q), number, e)
		}
		ways += run{left, w.put + 1, w.taken}.everyWay(t, l)
	}
	for _, shard := range ready {
		left, x, e := ticket.Take(w.q, shard)
		if e != api.OK || x.Number >= w.put || !sameTicket(numbered(l[x.Number], x.Number), x) {
			t.Fatal(short(w.q), shard, short(x), e)
		}
		ways += run{left, w.put, append(slices.Clone(w.taken), x.Number)}.everyWay(t, l)
	}
	return ways
}

// P12.6, W1, W2: all rows of up to four tickets of two shards, of one, the other or both, in all ways in which they may be put and taken.
func TestWhoeverIsTakenWhen(t *testing.T) {
	kinds := []api.Ticket{getAt(2, 0), getAt(2, 1), getAt(2, 1, 0), clock(3)}
	ways := 0
	for many := range 5 {
		for i := range 1 << (2 * many) {
			var l []api.Ticket
			for k := range many {
				l = append(l, kinds[i>>(2*k)&3])
			}
			q, _ := ticket.New(2)
			ways += run{q: q}.everyWay(t, l)
		}
	}
	if ways < 5000 {
		t.Error("too few", ways)
	}
}

// P12.6, W1: long runs of 1 to 4 shards: each ticket that was put is taken once, in an order that keeps that of the puts, shard by shard.
func TestEachIsTakenOnceInOrder(t *testing.T) {
	turned := 0
	for seed := range int64(40) {
		r := rand.New(rand.NewSource(seed))
		n := 1 + int(seed)%maxShards
		q, _ := ticket.New(n)
		var l []api.Ticket
		var taken []int
		for len(taken) < 150 {
			if len(l) < 150 && r.Intn(100) < 55 {
				x := randomTicket(r)
				left, number, e := ticket.Put(q, x)
				if e != api.OK || number != len(l) {
					t.Fatal(short(x), number, e)
				}
				q, l = left, append(l, x)
				continue
			}
			ready, _ := ticket.Ready(q)
			if len(ready) == 0 {
				continue
			}
			left, x, e := ticket.Take(q, ready[r.Intn(len(ready))])
			if e != api.OK || x.Number >= len(l) || !sameTicket(numbered(l[x.Number], x.Number), x) {
				t.Fatal(short(x), e)
			}
			q, taken = left, append(taken, x.Number)
		}
		checkTaken(t, n, l, taken)
		if !slices.IsSorted(taken) {
			turned++
		}
		if !sameQueue(q, api.Queue{Next: 150, Boxes: make([][]api.Ticket, n)}) {
			t.Fatalf("left is %s", short(q))
		}
	}
	if turned < 10 {
		t.Error("nearly all were taken as they were put:", turned)
	}
}

// FuzzTicket looks for steps by which inboxes come to something else than one line of tickets tells, and for inboxes of which something else is told than of their own tickets in one line.
func FuzzTicket(f *testing.F) {
	f.Add(uint8(2), []byte("\x00a\x02a\x00b\x80\x00\x81\x00\x01b\x03\x05\x04\x07"))
	f.Add(uint8(4), []byte("\x02a\x02b\x02c\x03\x01\x82\x01\x80\x03\xc0\x01\xc1\x02\xc2\x03"))
	f.Add(uint8(1), []byte("\x03\xff\x04\xff\x05\x00\x80\x00\xc3\x00"))
	f.Fuzz(func(t *testing.T, shards uint8, steps []byte) {
		m := &model{n: 1 + int(shards)%maxShards}
		q, _ := ticket.New(m.n)
		for ; len(steps) >= 2; steps = steps[2:] {
			a, b := steps[0], steps[1]
			key := string('a' + rune(b%26))
			switch {
			case a >= 192:
				wrong := spoilt(rand.New(rand.NewSource(int64(a)<<8|int64(b))), q)
				checkCheck(t, wrong, wantCheck(wrong))
			case a >= 128:
				q = bothTake(t, q, m, int(a)&7-1)
			default:
				l := []api.Ticket{get(key), set(key, "v"), del(key, "A", "B"), clock(int(b)), quota(int(b)>>5, int(b)&31), flush(), get(key, key), {Kind: b}}
				q = bothPut(t, q, m, l[int(a)%len(l)])
			}
			checkReady(t, q, m.ready(), api.OK)
		}
	})
}
