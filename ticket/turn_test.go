package ticket_test

import (
	"math/rand"
	"slices"
	"testing"

	"cloakroom/api"
	"cloakroom/ticket"
)

// putAll puts tickets one behind the other in new inboxes.
func putAll(t *testing.T, n int, l ...api.Ticket) api.Queue {
	t.Helper()
	q, _ := ticket.New(n)
	for i, x := range l {
		left, number, e := ticket.Put(q, x)
		if number != i || e != api.OK {
			t.Fatalf("Put(%s, %s): %d, error %d", short(q), short(x), number, e)
		}
		q = left
	}
	return q
}

// P12.2, P12.3: the chapter's examples; a and b are keys of the shards 0 and 1 of two.
func TestExamples(t *testing.T) {
	one, both, other := get("a"), get("a", "b"), get("b")
	q := putAll(t, 2, one, both, other)
	checkReady(t, q, []int{0}, api.OK)
	checkTake(t, q, 1, api.Queue{}, api.Ticket{}, api.ErrNone)

	both.Number, other.Number = 1, 2
	q = checkTake(t, q, 0, api.Queue{Next: 3, Boxes: [][]api.Ticket{{both}, {both, other}}}, one, api.OK)
	checkReady(t, q, []int{0, 1}, api.OK)
	checkTake(t, q, 0, api.Queue{Next: 3, Boxes: [][]api.Ticket{nil, {other}}}, both, api.OK)
	q = checkTake(t, q, 1, api.Queue{Next: 3, Boxes: [][]api.Ticket{nil, {other}}}, both, api.OK)
	checkReady(t, q, []int{1}, api.OK)
	checkTake(t, q, 0, api.Queue{}, api.Ticket{}, api.ErrNone)
	q = checkTake(t, q, 1, api.Queue{Next: 3, Boxes: make([][]api.Ticket, 2)}, other, api.OK)
	checkReady(t, q, nil, api.OK)
}

// P12.2: written out: whatever number a ticket brings, it has the next one, and stands last in the inboxes of its shards alone.
func TestPut(t *testing.T) {
	one, all, other := numbered(getAt(3, 1), 77), numbered(clock(5), -1), numbered(getAt(3, 2, 0), top)
	q, _ := ticket.New(3)
	one0, all1, other2 := numbered(one, 0), numbered(all, 1), numbered(other, 2)
	q = checkPut(t, q, one, api.Queue{Next: 1, Boxes: [][]api.Ticket{nil, {one0}, nil}}, 0, api.OK)
	q = checkPut(t, q, all, api.Queue{Next: 2, Boxes: [][]api.Ticket{{all1}, {one0, all1}, {all1}}}, 1, api.OK)
	q = checkPut(t, q, other, api.Queue{Next: 3, Boxes: [][]api.Ticket{{all1, other2}, {one0, all1}, {all1, other2}}}, 2, api.OK)
	checkCheck(t, q, api.OK)
	// The same once more is another one.
	one3 := numbered(one, 3)
	checkPut(t, q, one0, api.Queue{Next: 4, Boxes: [][]api.Ticket{{all1, other2}, {one0, all1, one3}, {all1, other2}}}, 3, api.OK)
}

// P12.2: each ticket that may be, in inboxes with none and with some tickets.
func TestPutOfEachTicket(t *testing.T) {
	for _, x := range goodTickets() {
		for n := 1; n <= maxShards; n++ {
			m := &model{n: n}
			q := bothPut(t, m.queue(), m, x)
			q = bothPut(t, q, m, quota(2, 3))
			bothPut(t, q, m, x)
			if len(m.line) != 3 {
				t.Fatalf("%s was refused", short(x))
			}
		}
	}
}

// P12.2: the numbers end at 2^40.
func TestPutAtTheEndOfNumbers(t *testing.T) {
	for _, next := range []int{0, 1, 1 << 32, endNumber - 3, endNumber - 2, endNumber - 1, endNumber} {
		m := &model{n: 2, next: next}
		q := m.queue()
		for _, x := range []api.Ticket{get("a"), get("a", "b"), clock(1), get("b")} {
			q = bothPut(t, q, m, x)
		}
		if want := min(next+4, endNumber); q.Next != want || len(m.line) != want-next {
			t.Fatalf("from %d: %s", next, short(q))
		}
		// What waits there may be taken.
		for _, shard := range m.ready() {
			bothTake(t, q, m, shard)
			break
		}
	}
	last := numbered(get("a"), endNumber-1)
	checkPut(t, api.Queue{Next: endNumber - 1, Boxes: make([][]api.Ticket, 1)}, get("a"), api.Queue{Next: endNumber, Boxes: [][]api.Ticket{{last}}}, endNumber-1, api.OK)
	checkPut(t, api.Queue{Next: endNumber, Boxes: make([][]api.Ticket, 1)}, get("a"), api.Queue{}, 0, api.ErrFull)
	checkPut(t, api.Queue{Next: endNumber, Boxes: [][]api.Ticket{{last}}}, clock(1), api.Queue{}, 0, api.ErrFull)
}

// P12.2: an inbox of 256 tickets is full; that others are not does not help who needs it, and it doesn't hinder who needs others.
func TestPutInFullInboxes(t *testing.T) {
	for n := 1; n <= maxShards; n++ {
		for full := range n {
			m := &model{n: n}
			for range maxBox - 1 {
				m.line = append(m.line, numbered(getAt(n, full), m.next))
				m.next++
			}
			q := bothPut(t, m.queue(), m, getAt(n, full))
			if len(q.Boxes[full]) != maxBox {
				t.Fatal(n, full, len(q.Boxes[full]))
			}
			for set := 1; set < 1<<n; set++ {
				x := getAt(n, shardsOf(set)...)
				again := *m
				left := bothPut(t, q, &again, x)
				if (left.Next == q.Next) != (set>>full&1 == 1) {
					t.Fatalf("shard %d of %d is full: %s", full, n, short(x))
				}
			}
			for _, x := range []api.Ticket{flush(), clock(1), quota(0, 1)} {
				checkPut(t, q, x, api.Queue{}, 0, api.ErrFull)
			}
			// When one was taken, there is room for one.
			q = bothTake(t, q, m, full)
			q = bothPut(t, q, m, clock(9))
			checkPut(t, q, getAt(n, full), api.Queue{}, 0, api.ErrFull)
		}
	}
}

// P12.2: inboxes that are full by tickets of all shards.
func TestPutBehindManyOfAllShards(t *testing.T) {
	m := &model{n: 4}
	for i := range maxBox {
		m.line = append(m.line, numbered([]api.Ticket{flush(), clock(i), quota(i%4, i%17)}[i%3], i))
	}
	m.next = maxBox
	q := m.queue()
	checkCheck(t, q, api.OK)
	checkReady(t, q, []int{0, 1, 2, 3}, api.OK)
	for shard := range 4 {
		checkPut(t, q, getAt(4, shard), api.Queue{}, 0, api.ErrFull)
		again := *m
		left := bothTake(t, q, &again, shard)
		bothPut(t, left, &again, getAt(4, shard))
	}
}

// P12.2: which error stands first: inboxes that may not be, a ticket that may not be, no room.
func TestWhichErrorOfPut(t *testing.T) {
	full := api.Queue{Next: endNumber, Boxes: [][]api.Ticket{row(0, slices.Repeat([]api.Ticket{clock(1)}, maxBox)...)}}
	checkPut(t, full, get("a"), api.Queue{}, 0, api.ErrFull)
	checkPut(t, full, get(), api.Queue{}, 0, api.ErrBad)
	checkPut(t, full, api.Ticket{}, api.Queue{}, 0, api.ErrBad)
	checkPut(t, full, clock(-1), api.Queue{}, 0, api.ErrBad)
	wrong := clone(full)
	wrong.Next++
	checkPut(t, wrong, get("a"), api.Queue{}, 0, api.ErrBad)
	checkPut(t, wrong, get(), api.Queue{}, 0, api.ErrBad)
}

// P12.3: which error stands first: inboxes that may not be, a shard that is none, one that is not ready.
func TestWhichErrorOfTake(t *testing.T) {
	for n := 1; n <= maxShards; n++ {
		q, _ := ticket.New(n)
		busy := putAll(t, n, clock(1), flush())
		wrong := clone(busy)
		wrong.Next = 1
		for _, shard := range append(edgeNumbers(), -4, -3, 1<<32+2) {
			checkTake(t, wrong, shard, api.Queue{}, api.Ticket{}, api.ErrBad)
			if shard < 0 || shard >= n {
				checkTake(t, q, shard, api.Queue{}, api.Ticket{}, api.ErrArg)
				checkTake(t, busy, shard, api.Queue{}, api.Ticket{}, api.ErrArg)
			} else {
				checkTake(t, q, shard, api.Queue{}, api.Ticket{}, api.ErrNone)
			}
		}
	}
}

// P12.3: who is ready, written out: a shard waits for each of its first ticket's shards, however many are ahead of it there.
func TestReady(t *testing.T) {
	for _, c := range []struct {
		n    int
		l    []api.Ticket
		want []int
	}{
		{1, nil, nil}, {4, nil, nil},
		{1, []api.Ticket{get("a")}, []int{0}}, {1, []api.Ticket{flush(), get("a")}, []int{0}},
		{4, []api.Ticket{getAt(4, 2)}, []int{2}}, {4, []api.Ticket{getAt(4, 3), getAt(4, 1)}, []int{1, 3}},
		{4, []api.Ticket{clock(1)}, []int{0, 1, 2, 3}}, {4, []api.Ticket{quota(0, 1), getAt(4, 1), clock(1)}, []int{0, 1, 2, 3}},
		{4, []api.Ticket{getAt(4, 1), clock(1)}, []int{1}}, {4, []api.Ticket{getAt(4, 3), flush()}, []int{3}},
		{4, []api.Ticket{getAt(4, 0, 1), getAt(4, 1, 2), getAt(4, 2, 3)}, []int{0, 1}},
		{4, []api.Ticket{getAt(4, 2, 3), getAt(4, 1, 2), getAt(4, 0, 1)}, []int{2, 3}},
		{4, []api.Ticket{getAt(4, 0, 1), getAt(4, 2, 3)}, []int{0, 1, 2, 3}},
		{4, []api.Ticket{getAt(4, 0, 3), getAt(4, 1), getAt(4, 1, 2)}, []int{0, 1, 3}},
		{3, []api.Ticket{getAt(3, 0), getAt(3, 0), getAt(3, 0, 2), getAt(3, 2)}, []int{0}},
		{3, []api.Ticket{getAt(3, 1), getAt(3, 0, 1), getAt(3, 2)}, []int{1, 2}},
	} {
		checkReady(t, putAll(t, c.n, c.l...), c.want, api.OK)
	}
}

// P12.2, P12.3: written out: tickets of different shards that have one number are two tickets: one is taken without the other.
func TestTurnsOfOneNumber(t *testing.T) {
	x, y := get("a"), command(api.Command{Kind: api.CmdGet, Tenant: 1, Keys: []string{"a"}})
	q := api.Queue{Next: 1, Boxes: [][]api.Ticket{{x}, {y}}}
	checkReady(t, q, []int{0, 1}, api.OK)
	checkTake(t, q, 0, api.Queue{Next: 1, Boxes: [][]api.Ticket{nil, {y}}}, x, api.OK)
	checkTake(t, q, 1, api.Queue{Next: 1, Boxes: [][]api.Ticket{{x}, nil}}, y, api.OK)
	q = checkPut(t, q, x, api.Queue{Next: 2, Boxes: [][]api.Ticket{{x, numbered(x, 1)}, {y}}}, 1, api.OK)
	q = checkPut(t, q, clock(3), api.Queue{Next: 3, Boxes: [][]api.Ticket{{x, numbered(x, 1), numbered(clock(3), 2)}, {y, numbered(clock(3), 2)}}}, 2, api.OK)
	checkReady(t, q, []int{0, 1}, api.OK)

	// Two of two shards each, and then one that waits for both.
	near, far, all := numbered(getAt(4, 0, 2), 5), numbered(getAt(4, 1, 3), 5), numbered(flush(), 6)
	q = api.Queue{Next: 7, Boxes: [][]api.Ticket{{near, all}, {far, all}, {near, all}, {far, all}}}
	checkReady(t, q, []int{0, 1, 2, 3}, api.OK)
	q = checkTake(t, q, 3, api.Queue{Next: 7, Boxes: [][]api.Ticket{{near, all}, {all}, {near, all}, {all}}}, far, api.OK)
	checkReady(t, q, []int{0, 2}, api.OK)
	checkTake(t, q, 1, api.Queue{}, api.Ticket{}, api.ErrNone)
	q = checkTake(t, q, 2, api.Queue{Next: 7, Boxes: [][]api.Ticket{{all}, {all}, {all}, {all}}}, near, api.OK)
	checkReady(t, q, []int{0, 1, 2, 3}, api.OK)
}

// P12.2, P12.3: long runs of puts and takes, held against one line of tickets.
func TestLongRuns(t *testing.T) {
	most := 0
	for seed := range int64(24) {
		r := rand.New(rand.NewSource(seed))
		m := &model{n: 1 + int(seed)%maxShards}
		q, _ := ticket.New(m.n)
		if seed%3 == 2 {
			m.next = endNumber - 150
			q.Next = m.next
		}
		puts := []int{40, 50, 60}[seed/4%3]
		for range 300 {
			if r.Intn(100) < puts {
				q = bothPut(t, q, m, randomTicket(r))
			} else {
				q = bothTake(t, q, m, r.Intn(m.n+2)-1)
			}
			checkReady(t, q, m.ready(), api.OK)
			most = max(most, len(m.line))
		}
	}
	if most < 50 {
		t.Error("no line came to be long:", most)
	}
}

// P12.3: any inboxes that may be, with gaps in their numbers: who is ready, and what is taken.
func TestReadyAndTakeOfAnyInboxes(t *testing.T) {
	r := rand.New(rand.NewSource(123))
	for range 3000 {
		m := randomModel(r, r.Intn(12))
		q := m.queue()
		checkCheck(t, q, api.OK)
		checkReady(t, q, m.ready(), api.OK)
		for shard := -1; shard <= m.n; shard++ {
			again := *m
			bothTake(t, q, &again, shard)
		}
		bothPut(t, q, m, randomTicket(r))
	}
}
