package ticket_test

import (
	"math/rand"
	"slices"
	"testing"

	"cloakroom/api"
	"cloakroom/ticket"
)

// P12.1: inboxes of 1 to 4 shards, without tickets; no others.
func TestNew(t *testing.T) {
	for _, n := range append(edgeNumbers(), -4, -3, 6, 8, 260, 1<<32+4) {
		q, e := ticket.New(n)
		if n < 1 || n > maxShards {
			if e != api.ErrArg || !sameQueue(q, api.Queue{}) {
				t.Errorf("New(%d): %v, error %d", n, q, e)
			}
			continue
		}
		if want := (api.Queue{Boxes: make([][]api.Ticket, n)}); e != api.OK || !sameQueue(q, want) {
			t.Errorf("New(%d): %v, error %d", n, q, e)
		}
		checkCheck(t, q, api.OK)
		checkReady(t, q, nil, api.OK)
	}
}

// P12.1: a ticket that may be, of whatever number, has the shards of its command, or all.
func TestShards(t *testing.T) {
	r := rand.New(rand.NewSource(121))
	l := goodTickets()
	for range 500 {
		l = append(l, randomTicket(r))
	}
	for _, x := range l {
		for n := 1; n <= maxShards; n++ {
			want, e := wantShards(x, n)
			if e != api.OK || len(want) == 0 {
				t.Fatalf("%s: the test's own rule says %d", short(x), e)
			}
			checkShards(t, x, n, want, api.OK)
			for _, number := range edgeNumbers() {
				checkShards(t, numbered(x, number), n, want, api.OK)
			}
		}
	}
}

// P12.1: written out: commands of one, of several, and of all shards. Of tenant 0 and two shards a is in the first one, b in the second one.
func TestShardsWrittenOut(t *testing.T) {
	checkShards(t, get("a"), 2, []int{0}, api.OK)
	checkShards(t, get("b"), 2, []int{1}, api.OK)
	checkShards(t, get("b", "a"), 2, []int{0, 1}, api.OK)
	checkShards(t, set("b", "v"), 2, []int{1}, api.OK)
	checkShards(t, get("a", "c", "e"), 2, []int{0}, api.OK)
	checkShards(t, get("a", "b"), 1, []int{0}, api.OK)
	for n, want := range [][]int{1: {0}, 2: {0, 1}, 3: {0, 1, 2}, 4: {0, 1, 2, 3}} {
		if n > 0 {
			checkShards(t, flush(), n, want, api.OK)
			checkShards(t, clock(0), n, want, api.OK)
			checkShards(t, clock(maxClock), n, want, api.OK)
			checkShards(t, quota(0, 0), n, want, api.OK)
			checkShards(t, quota(3, 16), n, want, api.OK)
		}
	}
	for n := 2; n <= maxShards; n++ {
		checkShards(t, getAt(n, n-1, 0), n, []int{0, n - 1}, api.OK)
		checkShards(t, getAt(n, 1), n, []int{1}, api.OK)
	}
	// Whose the key is counts: tenant 1's a is elsewhere.
	checkShards(t, command(api.Command{Kind: api.CmdGet, Tenant: 1, Keys: []string{"a"}}), 2, []int{1}, api.OK)
}

// P12.1, P12.2: tickets that may not be, with any number, are refused; and so they are ahead of an n that may not be.
func TestTicketsThatMayNotBe(t *testing.T) {
	q, _ := ticket.New(2)
	for _, x := range wrongTickets() {
		if wantMayBe(x) {
			t.Fatalf("the test's own rule lets %s be", short(x))
		}
		for _, n := range edgeNumbers() {
			checkShards(t, x, n, nil, api.ErrBad)
		}
		for _, number := range []int{-1, 0, 1, endNumber} {
			checkShards(t, numbered(x, number), 1, nil, api.ErrBad)
			checkPut(t, q, numbered(x, number), api.Queue{}, 0, api.ErrBad)
		}
	}
}

// P12.1: of tickets that may be, numbers of shards that may not.
func TestShardsOfTooManyShards(t *testing.T) {
	for _, x := range goodTickets() {
		for _, n := range edgeNumbers() {
			if n < 1 || n > maxShards {
				checkShards(t, x, n, nil, api.ErrArg)
			}
		}
	}
}

// P12.1: inboxes of none to many shards.
func TestCheckOfManyShards(t *testing.T) {
	checkRefused(t, api.Queue{})
	checkRefused(t, api.Queue{Next: 5, Boxes: [][]api.Ticket{}})
	for _, n := range []int{1, 2, 3, 4, 5, 6, 8, 16, 256, 257, 260, 1 << 16} {
		for _, next := range []int{0, 1, endNumber} {
			q := api.Queue{Next: next, Boxes: make([][]api.Ticket, n)}
			if n > maxShards {
				checkRefused(t, q)
				continue
			}
			checkCheck(t, q, api.OK)
			for i := range q.Boxes {
				q.Boxes[i] = []api.Ticket{}
			}
			checkCheck(t, q, api.OK)
		}
	}
	// A ticket that stands in all of five, as all of its would be.
	all := api.Queue{Next: 1}
	for range 5 {
		all.Boxes = append(all.Boxes, row(0, clock(1)))
	}
	checkRefused(t, all)
	all.Boxes = all.Boxes[:4]
	checkCheck(t, all, api.OK)
}

// P12.1: Next, and numbers that are below it, or not.
func TestCheckOfNumbers(t *testing.T) {
	for _, next := range edgeNumbers() {
		q := api.Queue{Next: next, Boxes: make([][]api.Ticket, 2)}
		if next < 0 || next > endNumber {
			checkRefused(t, q)
		} else {
			checkCheck(t, q, api.OK)
		}
		for _, number := range edgeNumbers() {
			for _, q := range []api.Queue{
				{Next: next, Boxes: [][]api.Ticket{row(number, get("a"))}},
				{Next: next, Boxes: [][]api.Ticket{nil, row(number, get("b"))}},
				{Next: next, Boxes: [][]api.Ticket{row(number, clock(1)), row(number, clock(1)), row(number, clock(1))}},
			} {
				if next < 0 || next > endNumber || number < 0 || number >= next {
					checkRefused(t, q)
				} else {
					checkCheck(t, q, api.OK)
				}
			}
		}
	}
}

// P12.1: numbers rise, with gaps or without, and no two of an inbox are the same.
func TestCheckOfNumbersThatRise(t *testing.T) {
	for _, c := range []struct {
		numbers []int
		want    api.Errno
	}{
		{[]int{0, 1, 2}, api.OK}, {[]int{0, 2, 9}, api.OK}, {[]int{7, 8, 9}, api.OK}, {[]int{1, 5, 8}, api.OK},
		{[]int{0, 0}, api.ErrBad}, {[]int{0, 0, 1}, api.ErrBad}, {[]int{0, 1, 1}, api.ErrBad}, {[]int{9, 9}, api.ErrBad},
		{[]int{1, 0}, api.ErrBad}, {[]int{0, 2, 1}, api.ErrBad}, {[]int{2, 1, 0}, api.ErrBad}, {[]int{1, 2, 0}, api.ErrBad}, {[]int{5, 9, 5}, api.ErrBad},
		{[]int{-1, 0, 1}, api.ErrBad}, {[]int{0, -1}, api.ErrBad}, {[]int{-2, -1}, api.ErrBad}, {[]int{8, 9, 10}, api.ErrBad}, {[]int{9, 10}, api.ErrBad}, {[]int{least, 0}, api.ErrBad}, {[]int{0, top}, api.ErrBad},
	} {
		for n := 1; n <= maxShards; n++ {
			for _, of := range []api.Ticket{getAt(n, 0), getAt(n, n-1), flush(), clock(3), quota(1, 2)} {
				var box []api.Ticket
				for _, number := range c.numbers {
					box = append(box, numbered(of, number))
				}
				q := api.Queue{Next: 10, Boxes: make([][]api.Ticket, n)}
				for shard := range n {
					if hits(of, shard, n) {
						q.Boxes[shard] = slices.Clone(box)
					}
				}
				checkCheck(t, q, c.want)
				if c.want != api.OK {
					checkRefused(t, q)
				}
			}
		}
	}
}

// P12.1: inboxes of 255, 256 and 257 tickets, at each shard.
func TestCheckOfLongInboxes(t *testing.T) {
	for _, many := range []int{255, 256, 257, 512, 513, 1 << 12} {
		for n := 1; n <= maxShards; n++ {
			all := api.Queue{Next: endNumber, Boxes: make([][]api.Ticket, n)}
			for shard := range n {
				box := row(endNumber-many, slices.Repeat([]api.Ticket{getAt(n, shard)}, many)...)
				q := api.Queue{Next: endNumber, Boxes: make([][]api.Ticket, n)}
				q.Boxes[shard] = box
				all.Boxes[shard] = row(endNumber-many, slices.Repeat([]api.Ticket{clock(1)}, many)...)
				if many > maxBox {
					checkRefused(t, q)
				} else {
					checkCheck(t, q, api.OK)
				}
			}
			if many > maxBox {
				checkRefused(t, all)
			} else {
				checkCheck(t, all, api.OK)
			}
		}
	}
}

// P12.1: a ticket that may not be, at the front, in the middle and at the end, though all else is right.
func TestCheckOfWrongTickets(t *testing.T) {
	for _, x := range wrongTickets() {
		for place := range 3 {
			l := []api.Ticket{clock(1), clock(2), clock(3)}
			l[place] = x
			checkRefused(t, api.Queue{Next: 3, Boxes: [][]api.Ticket{row(0, l...)}})
			checkRefused(t, api.Queue{Next: 3, Boxes: [][]api.Ticket{row(0, l...), row(0, l...)}})
		}
		checkRefused(t, api.Queue{Next: 3, Boxes: [][]api.Ticket{nil, row(0, x)}})
	}
	for _, x := range goodTickets() {
		for n := 1; n <= maxShards; n++ {
			m := &model{n: n, next: 4, line: row(1, clock(1), x, flush())}
			checkCheck(t, m.queue(), api.OK)
		}
	}
}

// P12.1: of each ticket all sets of inboxes in which it may stand: those of its shards will do, no others.
func TestCheckOfWhereATicketStands(t *testing.T) {
	for n := 1; n <= maxShards; n++ {
		l := []api.Ticket{flush(), clock(1), quota(1, 1)}
		for set := 1; set < 1<<n; set++ {
			l = append(l, getAt(n, shardsOf(set)...))
		}
		for _, x := range l {
			for set := 1; set < 1<<n; set++ {
				q := api.Queue{Next: 9, Boxes: make([][]api.Ticket, n)}
				want := api.OK
				for shard := range n {
					is := set>>shard&1 == 1
					if is {
						q.Boxes[shard] = row(4, withOwnKeys(x))
					}
					if is != hits(x, shard, n) {
						want = api.ErrBad
					}
				}
				checkCheck(t, q, want)
				// Others ahead of it and behind it make no difference.
				for shard := range n {
					q.Boxes[shard] = slices.Concat(row(1, clock(5)), q.Boxes[shard], row(7, clock(6)))
				}
				checkCheck(t, q, want)
			}
		}
	}
}

// P12.1: a ticket that is not the same in all inboxes may not be, whichever thing of it differs; nor one in whose place another one of its number stands.
func TestCheckOfTicketsThatDiffer(t *testing.T) {
	cas := command(api.Command{Kind: api.CmdCas, Keys: []string{"b"}, Value: "v", Flags: 1, For: 1, Unique: 1})
	pairs := [][2]api.Ticket{
		{get("a", "b"), get("b", "a")}, {get("a", "b"), get("a", "b", "c")}, {get("a", "b"), get("a", "d")}, {get("a", "b"), del("a", "b")}, {get("a", "b"), flush()},
		{get("a", "b"), get("b")}, {get("a"), get("a", "b")}, {get("a"), get("a")}, {get("b"), get("b")}, {get("b"), get("a")}, {set("b", "v"), set("a", "v")}, {cas, get("a")}, {get("a", "b"), clock(1)}, {clock(1), get("b")},
		{flush(), command(api.Command{Kind: api.CmdFlush, Tenant: 1})}, {flush(), clock(0)}, {flush(), quota(0, 0)},
		{clock(1), clock(2)}, {clock(0), quota(0, 0)}, {clock(1), quota(0, 1)}, {quota(1, 1), quota(1, 2)}, {quota(1, 1), quota(2, 1)},
	}
	for _, p := range pairs {
		for _, x := range [][2]api.Ticket{p, {p[1], p[0]}} {
			first := api.Queue{Next: 1, Boxes: [][]api.Ticket{{x[0]}, {x[1]}}}
			behind := api.Queue{Next: 9, Boxes: [][]api.Ticket{row(2, get("a"), x[0], clock(1)), row(3, x[1], clock(1))}}
			if !meet(x[0], x[1], 2) && hits(x[0], 0, 2) {
				// Each stands where it is to: they are two tickets, which have one number.
				checkCheck(t, first, api.OK)
				checkCheck(t, behind, api.OK)
				continue
			}
			checkRefused(t, first)
			checkRefused(t, behind)
		}
	}
	// The same but for the number.
	for _, x := range []api.Ticket{get("a", "b"), flush(), clock(1), quota(0, 1)} {
		checkCheck(t, api.Queue{Next: 9, Boxes: [][]api.Ticket{row(3, x), row(3, x)}}, api.OK)
		checkRefused(t, api.Queue{Next: 9, Boxes: [][]api.Ticket{row(3, x), row(4, x)}})
		checkRefused(t, api.Queue{Next: 9, Boxes: [][]api.Ticket{row(4, x), row(3, x)}})
		checkRefused(t, api.Queue{Next: 9, Boxes: [][]api.Ticket{row(3, x, x), row(4, x, x)}})
	}
	// In another order: numbers rise in one of them alone.
	checkRefused(t, api.Queue{Next: 9, Boxes: [][]api.Ticket{row(0, flush(), clock(1)), {numbered(clock(1), 1), numbered(flush(), 0)}}})
}

// P12.1: two tickets may have one number, if no shard needs both: of all pairs of sets of shards just those that have none in common.
func TestCheckOfOneNumber(t *testing.T) {
	for n := 1; n <= maxShards; n++ {
		for a := 1; a < 1<<n; a++ {
			for b := 1; b < 1<<n; b++ {
				x, y := numbered(getAt(n, shardsOf(a)...), 4), numbered(getAt(n, shardsOf(b)...), 4)
				y.Command.Kind = api.CmdDelete
				q := api.Queue{Next: 9, Boxes: make([][]api.Ticket, n)}
				for shard := range n {
					if a>>shard&1 == 1 {
						q.Boxes[shard] = append(q.Boxes[shard], withOwnKeys(x))
					}
					if b>>shard&1 == 1 {
						q.Boxes[shard] = append(q.Boxes[shard], withOwnKeys(y))
					}
				}
				if a&b != 0 {
					checkRefused(t, q)
					// Where both were the second one goes: then it lacks one of its shards, unless it is nowhere any more.
					for shard := range n {
						q.Boxes[shard] = q.Boxes[shard][:min(len(q.Boxes[shard]), 1)]
					}
					want := api.OK
					if b&^a != 0 {
						want = api.ErrBad
					}
					checkCheck(t, q, want)
					continue
				}
				checkCheck(t, q, api.OK)
				checkReady(t, q, shardsOf(a|b), api.OK)
			}
		}
	}
}

// P12.1: as many tickets of one number as there are shards, again and again.
func TestCheckOfManyOfOneNumber(t *testing.T) {
	for n := 1; n <= maxShards; n++ {
		for _, next := range []int{maxBox, endNumber} {
			q := api.Queue{Next: next, Boxes: make([][]api.Ticket, n)}
			for shard := range n {
				q.Boxes[shard] = row(next-maxBox, slices.Repeat([]api.Ticket{getAt(n, shard)}, maxBox)...)
			}
			checkCheck(t, q, api.OK)
			checkReady(t, q, shardsOf(1<<n-1), api.OK)
			q.Boxes[n-1][maxBox-1].Number++
			checkRefused(t, q)
		}
	}
}

// P12.1: a list of keys that is empty is the same as none.
func TestCheckOfEmptyKeys(t *testing.T) {
	for _, x := range []api.Ticket{flush(), clock(1), quota(0, 1)} {
		y := x
		x.Command.Keys, y.Command.Keys = nil, []string{}
		checkCheck(t, api.Queue{Next: 1, Boxes: [][]api.Ticket{{x}, {y}}}, api.OK)
		checkCheck(t, api.Queue{Next: 1, Boxes: [][]api.Ticket{{y}, {x}}}, api.OK)
		checkReady(t, api.Queue{Next: 1, Boxes: [][]api.Ticket{{y}, {x}}}, []int{0, 1}, api.OK)
	}
}

// spoilt is inboxes of which one thing is another one: some may be nevertheless.
func spoilt(r *rand.Rand, q api.Queue) api.Queue {
	q = clone(q)
	i := r.Intn(len(q.Boxes))
	j := r.Intn(len(q.Boxes))
	if len(q.Boxes[i]) == 0 {
		q.Next = []int{-1, q.Next, q.Next + 1, endNumber, endNumber + 1}[r.Intn(5)]
		return q
	}
	k := r.Intn(len(q.Boxes[i]))
	x := &q.Boxes[i][k]
	switch r.Intn(13) {
	case 0:
		q.Boxes[i] = slices.Delete(q.Boxes[i], k, k+1)
	case 1:
		q.Boxes[j] = append(q.Boxes[j], withOwnKeys(*x))
	case 2:
		x.Number += r.Intn(3) - 1
	case 3:
		*x = numbered(randomTicket(r), x.Number)
	case 4:
		at := r.Intn(len(q.Boxes[j]) + 1)
		q.Boxes[j] = slices.Insert(q.Boxes[j], at, numbered(randomTicket(r), x.Number+r.Intn(3)-1))
	case 5:
		q.Next = x.Number + r.Intn(2)
	case 6:
		q.Boxes[i], q.Boxes[j] = q.Boxes[j], q.Boxes[i]
	case 7:
		q.Boxes = append(q.Boxes, nil)
	case 8:
		q.Boxes = slices.Delete(q.Boxes, i, i+1)
	case 9:
		x.To ^= r.Intn(2)
		x.Tenant ^= r.Intn(2)
	case 10:
		x.Command.Flags ^= uint32(r.Intn(2))
		x.Command.Unique ^= uint64(r.Intn(2))
		x.Command.Tenant ^= r.Intn(2)
	case 11:
		number := x.Number
		for i := range q.Boxes {
			q.Boxes[i] = slices.DeleteFunc(q.Boxes[i], func(t api.Ticket) bool { return t.Number == number })
		}
	case 12:
		was, by := *x, r.Intn(5)-2
		for i := range q.Boxes {
			for k := range q.Boxes[i] {
				if sameTicket(q.Boxes[i][k], was) {
					q.Boxes[i][k].Number += by
				}
			}
		}
	}
	return q
}

// P12.1: inboxes of which one thing is spoilt are told as their own tickets, put in one line, tell.
func TestCheckOfSpoiltInboxes(t *testing.T) {
	r := rand.New(rand.NewSource(122))
	var good, bad int
	for range 30000 {
		q := spoilt(r, randomModel(r, r.Intn(8)).queue())
		want := wantCheck(q)
		checkCheck(t, q, want)
		if want == api.OK {
			good++
			checkReady(t, q, modelOf(q).ready(), api.OK)
		} else {
			bad++
			checkReady(t, q, nil, want)
		}
	}
	if good < 3000 || bad < 3000 {
		t.Error("too few", good, bad)
	}
}
