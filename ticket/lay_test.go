package ticket_test

import (
	"cmp"
	"fmt"
	"hash/fnv"
	"math/rand"
	"reflect"
	"slices"
	"strconv"
	"strings"
	"testing"

	"cloakroom/api"
	"cloakroom/order"
	"cloakroom/ticket"
)

const (
	least = -1 << 63
	top   = 1<<63 - 1
)

// The limits, written out, so that the program's own numbers are held against them.
const (
	maxShards  = 4
	maxTenants = 4
	maxPages   = 16
	maxBox     = 256
	maxClock   = 1099511627776
	endNumber  = 1099511627776
)

// command, clock and quota are tickets of the three kinds.
func command(c api.Command) api.Ticket { return api.Ticket{Kind: api.TickCommand, Command: c} }

func clock(to int) api.Ticket { return api.Ticket{Kind: api.TickClock, To: to} }

func quota(tenant, pages int) api.Ticket {
	return api.Ticket{Kind: api.TickQuota, Tenant: tenant, To: pages}
}

// get, del, set and flush are tickets of commands of tenant 0.
func get(keys ...string) api.Ticket {
	return command(api.Command{Kind: api.CmdGet, Keys: keys})
}

func del(keys ...string) api.Ticket {
	return command(api.Command{Kind: api.CmdDelete, Keys: keys})
}

func set(key, value string) api.Ticket {
	return command(api.Command{Kind: api.CmdSet, Keys: []string{key}, Value: value})
}

func flush() api.Ticket { return command(api.Command{Kind: api.CmdFlush}) }

// numbered is a ticket with a number.
func numbered(t api.Ticket, number int) api.Ticket {
	t.Number = number
	return t
}

// row is tickets with the numbers from one on.
func row(from int, l ...api.Ticket) []api.Ticket {
	l = slices.Clone(l)
	for i := range l {
		l[i].Number = from + i
	}
	return l
}

// homeOf is a key's shard, by the library's hash.
func homeOf(tenant int, key string, n int) int {
	h := fnv.New64a()
	h.Write([]byte{byte(tenant)})
	h.Write([]byte(key))
	return int(h.Sum64() % uint64(n))
}

// keyAt is tenant 0's i-th key in a shard.
func keyAt(shard, n, i int) string {
	for j := 0; ; j++ {
		key := "k" + strconv.Itoa(j)
		if homeOf(0, key, n) == shard {
			if i == 0 {
				return key
			}
			i--
		}
	}
}

// getAt is a get that needs just these shards.
func getAt(n int, shards ...int) api.Ticket {
	var keys []string
	for _, shard := range shards {
		keys = append(keys, keyAt(shard, n, 0))
	}
	return get(keys...)
}

// shardsOf are those of a set: shard i is in it, if bit i is.
func shardsOf(set int) []int {
	return slices.DeleteFunc([]int{0, 1, 2, 3}, func(i int) bool { return set>>i&1 == 0 })
}

// wantMayBe is what the document says of a ticket.
func wantMayBe(t api.Ticket) bool {
	c := t.Command
	none := c.Kind == 0 && c.Tenant == 0 && len(c.Keys) == 0 && c.Value == "" && c.Flags == 0 && c.For == 0 && c.Unique == 0 && c.By == 0
	switch {
	case t.Kind == 1 && t.Tenant == 0 && t.To == 0:
		return order.Check(c) == api.OK
	case t.Kind == 2 && t.Tenant == 0 && t.To >= 0 && t.To <= maxClock:
		return none
	case t.Kind == 3 && t.Tenant >= 0 && t.Tenant <= 3 && t.To >= 0 && t.To <= 16:
		return none
	}
	return false
}

// hits tells whether a ticket that may be needs a shard.
func hits(t api.Ticket, shard, n int) bool {
	if t.Kind != 1 || t.Command.Kind == api.CmdFlush {
		return true
	}
	for _, key := range t.Command.Keys {
		if homeOf(t.Command.Tenant, key, n) == shard {
			return true
		}
	}
	return false
}

// wantShards is what Shards is to tell.
func wantShards(t api.Ticket, n int) ([]int, api.Errno) {
	if !wantMayBe(t) {
		return nil, api.ErrBad
	}
	if n < 1 || n > maxShards {
		return nil, api.ErrArg
	}
	var l []int
	for shard := range n {
		if hits(t, shard, n) {
			l = append(l, shard)
		}
	}
	return l, api.OK
}

// model is inboxes as one line of tickets, each once, the eldest first.
type model struct {
	n, next int
	line    []api.Ticket
}

// queue is the inboxes of a model.
func (m *model) queue() api.Queue {
	q := api.Queue{Next: m.next, Boxes: make([][]api.Ticket, m.n)}
	for _, t := range m.line {
		for shard := range m.n {
			if hits(t, shard, m.n) {
				q.Boxes[shard] = append(q.Boxes[shard], withOwnKeys(t))
			}
		}
	}
	return q
}

// modelOf has each of the tickets that stand somewhere once; those of one number stand as they come.
func modelOf(q api.Queue) *model {
	m := &model{n: len(q.Boxes), next: q.Next}
	for _, t := range slices.Concat(q.Boxes...) {
		if !slices.ContainsFunc(m.line, func(x api.Ticket) bool { return sameTicket(x, t) }) {
			m.line = append(m.line, t)
		}
	}
	slices.SortStableFunc(m.line, func(a, b api.Ticket) int { return cmp.Compare(a.Number, b.Number) })
	return m
}

// rises tells whether numbers of an inbox do.
func rises(box []api.Ticket) bool {
	for k := 1; k < len(box); k++ {
		if box[k].Number <= box[k-1].Number {
			return false
		}
	}
	return true
}

// wantCheck: inboxes may be, if their numbers rise, and they are what comes of their own tickets, each once, put in one line by their numbers.
func wantCheck(q api.Queue) api.Errno {
	if len(q.Boxes) < 1 || len(q.Boxes) > maxShards || q.Next < 0 || q.Next > endNumber {
		return api.ErrBad
	}
	for _, box := range q.Boxes {
		if len(box) > maxBox || !rises(box) {
			return api.ErrBad
		}
		for _, t := range box {
			if !wantMayBe(t) || t.Number < 0 || t.Number >= q.Next {
				return api.ErrBad
			}
		}
	}
	if !sameQueue(modelOf(q).queue(), q) {
		return api.ErrBad
	}
	return api.OK
}

func (m *model) put(t api.Ticket) (int, api.Errno) {
	if !wantMayBe(t) {
		return 0, api.ErrBad
	}
	q := m.queue()
	for shard := range m.n {
		if hits(t, shard, m.n) && len(q.Boxes[shard]) >= maxBox {
			return 0, api.ErrFull
		}
	}
	if m.next >= endNumber {
		return 0, api.ErrFull
	}
	m.line = append(m.line, numbered(withOwnKeys(t), m.next))
	m.next++
	return m.next - 1, api.OK
}

// first is the place in the line of a shard's eldest ticket; -1, if it has none, or another shard of it has an elder one.
func (m *model) first(shard int) int {
	at := slices.IndexFunc(m.line, func(t api.Ticket) bool { return hits(t, shard, m.n) })
	for i := 0; i < at; i++ {
		for other := range m.n {
			if hits(m.line[i], other, m.n) && hits(m.line[at], other, m.n) {
				return -1
			}
		}
	}
	return at
}

func (m *model) ready() []int {
	var l []int
	for shard := range m.n {
		if m.first(shard) >= 0 {
			l = append(l, shard)
		}
	}
	return l
}

func (m *model) take(shard int) (api.Ticket, api.Errno) {
	if shard < 0 || shard >= m.n {
		return api.Ticket{}, api.ErrArg
	}
	at := m.first(shard)
	if at < 0 {
		return api.Ticket{}, api.ErrNone
	}
	t := m.line[at]
	m.line = slices.Delete(slices.Clone(m.line), at, at+1)
	return t, api.OK
}

// withOwnKeys is a ticket whose keys are new memory.
func withOwnKeys(t api.Ticket) api.Ticket {
	t.Command.Keys = slices.Clone(t.Command.Keys)
	return t
}

// clone is inboxes as new memory.
func clone(q api.Queue) api.Queue {
	q.Boxes = slices.Clone(q.Boxes)
	for i := range q.Boxes {
		q.Boxes[i] = slices.Clone(q.Boxes[i])
		for k := range q.Boxes[i] {
			q.Boxes[i][k] = withOwnKeys(q.Boxes[i][k])
		}
	}
	return q
}

// sameTicket holds tickets against each other; lists without elements are the same.
func sameTicket(a, b api.Ticket) bool {
	keys := slices.Equal(a.Command.Keys, b.Command.Keys)
	a.Command.Keys, b.Command.Keys = nil, nil
	return keys && reflect.DeepEqual(a, b)
}

// sameQueue does so with inboxes.
func sameQueue(a, b api.Queue) bool {
	return a.Next == b.Next && slices.EqualFunc(a.Boxes, b.Boxes, func(x, y []api.Ticket) bool {
		return slices.EqualFunc(x, y, sameTicket)
	})
}

// plainCommands have the fewest things, one of each kind.
func plainCommands() []api.Command {
	l := []api.Command{{Kind: api.CmdFlush}}
	for kind := api.CmdGet; kind < api.CmdFlush; kind++ {
		l = append(l, api.Command{Kind: kind, Keys: []string{"k"}})
	}
	return l
}

// wrongCommands may not be, each by one thing.
func wrongCommands() []api.Command {
	k := []string{"k"}
	return []api.Command{
		{}, {Keys: k}, {Kind: 12}, {Kind: 12, Keys: k}, {Kind: 255, Keys: k}, {Kind: 1}, {Kind: 2}, {Kind: 10},
		{Kind: 1, Keys: strings.Split("abcdefghi", "")}, {Kind: 2, Keys: []string{"a", "b"}}, {Kind: 11, Keys: k}, {Kind: 1, Keys: []string{"a", "a"}},
		{Kind: 1, Keys: []string{""}}, {Kind: 1, Keys: []string{strings.Repeat("k", 33)}}, {Kind: 1, Tenant: -1, Keys: k}, {Kind: 1, Tenant: 4, Keys: k}, {Kind: 11, Tenant: 4},
		{Kind: 2, Keys: k, Value: strings.Repeat("v", 513)}, {Kind: 1, Keys: k, Value: "v"}, {Kind: 2, Keys: k, For: -1}, {Kind: 2, Keys: k, For: maxClock + 1},
		{Kind: 9, Keys: k, Flags: 1}, {Kind: 2, Keys: k, Unique: 1}, {Kind: 1, Keys: k, By: 1}, {Kind: 11, For: 1},
	}
}

// scraps are commands that have but one thing, which is not zero.
func scraps() []api.Command {
	return []api.Command{
		{Kind: 1}, {Kind: 11}, {Kind: 255}, {Tenant: 1}, {Tenant: -1}, {Keys: []string{"k"}}, {Keys: []string{""}}, {Keys: []string{"a", "b"}},
		{Value: "v"}, {Value: "\x00"}, {Flags: 1}, {For: 1}, {For: -1}, {Unique: 1}, {By: 1}, {By: 1 << 63},
		{Kind: 1, Keys: []string{"k"}}, {Kind: 2, Keys: []string{"k"}, Value: "v"},
	}
}

// edgeNumbers are in and beside what numbers may be.
func edgeNumbers() []int {
	return []int{least, least + 1, -endNumber, -1 << 32, -257, -256, -2, -1, 0, 1, 2, 3, 4, 5, 15, 16, 17, 255, 256, 257, 1 << 16, 1 << 32, 1<<32 + 1, maxClock - 1, maxClock, maxClock + 1, 1 << 41, top - 1, top}
}

// goodTickets may be, at their edges and between.
func goodTickets() []api.Ticket {
	l := []api.Ticket{{Kind: 2, Command: api.Command{Keys: []string{}}}, {Kind: 3, Command: api.Command{Keys: []string{}}}}
	for _, to := range []int{0, 1, 4, 16, 17, 1 << 32, maxClock - 1, maxClock} {
		l = append(l, clock(to))
	}
	for tenant := range maxTenants {
		for _, pages := range []int{0, 1, 15, maxPages} {
			l = append(l, quota(tenant, pages))
		}
	}
	for _, c := range plainCommands() {
		for tenant := range maxTenants {
			c.Tenant = tenant
			l = append(l, command(c))
		}
	}
	return append(l, get("a", "b", "c", "d", "e", "f", "g", "h"), del("d", "c", "b"), get("\x00\xff"), set(strings.Repeat("k", 32), strings.Repeat("v", 512)),
		command(api.Command{Kind: api.CmdCas, Tenant: 3, Keys: []string{"k"}, Value: "v", Flags: 1<<32 - 1, For: maxClock, Unique: 1<<64 - 1}),
		command(api.Command{Kind: api.CmdIncr, Keys: []string{"k"}, By: 1<<64 - 1}))
}

// wrongTickets may not be.
func wrongTickets() []api.Ticket {
	var l []api.Ticket
	for _, c := range wrongCommands() {
		l = append(l, command(c))
	}
	for _, c := range scraps() {
		l = append(l, api.Ticket{Kind: api.TickClock, Command: c}, api.Ticket{Kind: api.TickQuota, Command: c}, api.Ticket{Kind: api.TickClock, Command: c, To: 5}, api.Ticket{Kind: api.TickQuota, Command: c, Tenant: 1, To: 5})
	}
	for _, kind := range []uint8{0, 4, 5, 11, 129, 130, 131, 255} {
		l = append(l, api.Ticket{Kind: kind}, api.Ticket{Kind: kind, Command: get("a").Command}, api.Ticket{Kind: kind, To: 5}, api.Ticket{Kind: kind, Tenant: 1, To: 5})
	}
	for _, n := range edgeNumbers() {
		if n != 0 {
			both := get("a")
			both.Tenant, both.To = n, n
			tenant, to := get("a"), flush()
			tenant.Tenant, to.To = n, n
			l = append(l, both, tenant, to, api.Ticket{Kind: api.TickClock, Tenant: n}, api.Ticket{Kind: api.TickClock, Tenant: n, To: 5})
		}
		if n < 0 || n > maxClock {
			l = append(l, clock(n))
		}
		if n < 0 || n > 16 {
			l = append(l, quota(0, n), quota(3, n))
		}
		if n < 0 || n > 3 {
			l = append(l, quota(n, 0), quota(n, 16))
		}
	}
	return l
}

// randomKeys are a few short ones, no two the same.
func randomKeys(r *rand.Rand, many int) []string {
	var l []string
	for _, i := range r.Perm(26)[:many] {
		l = append(l, string('a'+rune(i)))
	}
	return l
}

// randomTicket may be; often it is a command of one shard, or of few.
func randomTicket(r *rand.Rand) api.Ticket {
	t := api.Ticket{Number: []int{0, r.Intn(9), -1, least, top, endNumber}[r.Intn(6)]}
	switch r.Intn(10) {
	case 0:
		t.Kind, t.To = api.TickClock, int(r.Uint64()>>r.Intn(64)%(maxClock+1))
	case 1:
		t.Kind, t.Tenant, t.To = api.TickQuota, r.Intn(maxTenants), r.Intn(maxPages+1)
	case 2, 3:
		t.Kind, t.Command = api.TickCommand, api.Command{Kind: []uint8{api.CmdGet, api.CmdDelete}[r.Intn(2)], Tenant: r.Intn(maxTenants), Keys: randomKeys(r, 1+r.Intn(8))}
	default:
		l := plainCommands()
		t.Kind, t.Command = api.TickCommand, l[r.Intn(len(l))]
		t.Command.Tenant = r.Intn(maxTenants)
		if len(t.Command.Keys) == 1 {
			t.Command.Keys = randomKeys(r, 1)
		}
	}
	return t
}

// meet tells whether two tickets that may be need one shard.
func meet(a, b api.Ticket, n int) bool {
	for shard := range n {
		if hits(a, shard, n) && hits(b, shard, n) {
			return true
		}
	}
	return false
}

// oneNumber gives the last ticket of the line the number of the one ahead of it, if it meets none of that number.
func (m *model) oneNumber() {
	last := len(m.line) - 1
	if last < 1 {
		return
	}
	number := m.line[last-1].Number
	for _, t := range m.line[:last] {
		if t.Number == number && meet(t, m.line[last], m.n) {
			return
		}
	}
	m.line[last].Number = number
}

// randomModel has tickets in the line, whose numbers have gaps; some that need different shards have one number.
func randomModel(r *rand.Rand, many int) *model {
	m := &model{n: 1 + r.Intn(maxShards), next: r.Intn(3)}
	if r.Intn(4) == 0 {
		m.next = int(r.Int63n(endNumber - 5*maxBox))
	}
	for range many {
		m.put(randomTicket(r))
		m.next += r.Intn(3) / 2
		if r.Intn(2) == 0 {
			m.oneNumber()
		}
	}
	return m
}

// short is how something is told where a test fails: inboxes may be long.
func short(what any) string {
	text := fmt.Sprintf("%+q", fmt.Sprintf("%+v", what))
	return text[:min(len(text), 600)]
}

// checkCheck ends the test, as the other checks do: what many inputs fail in is mostly one thing.
func checkCheck(t *testing.T, q api.Queue, want api.Errno) {
	t.Helper()
	if e := ticket.Check(q); e != want {
		t.Fatalf("Check(%s): error %d, want %d", short(q), e, want)
	}
}

func checkShards(t *testing.T, x api.Ticket, n int, want []int, wantE api.Errno) {
	t.Helper()
	if l, e := ticket.Shards(x, n); !slices.Equal(l, want) || e != wantE {
		t.Fatalf("Shards(%s, %d): %v, error %d, want %v, error %d", short(x), n, l, e, want, wantE)
	}
}

func checkPut(t *testing.T, q api.Queue, x api.Ticket, want api.Queue, number int, wantE api.Errno) api.Queue {
	t.Helper()
	left, n, e := ticket.Put(q, x)
	if !sameQueue(left, want) || n != number || e != wantE {
		t.Fatalf("Put(%s, %s): %s, %d, error %d, want %s, %d, error %d", short(q), short(x), short(left), n, e, short(want), number, wantE)
	}
	return left
}

func checkReady(t *testing.T, q api.Queue, want []int, wantE api.Errno) {
	t.Helper()
	if l, e := ticket.Ready(q); !slices.Equal(l, want) || e != wantE {
		t.Fatalf("Ready(%s): %v, error %d, want %v, error %d", short(q), l, e, want, wantE)
	}
}

func checkTake(t *testing.T, q api.Queue, shard int, want api.Queue, x api.Ticket, wantE api.Errno) api.Queue {
	t.Helper()
	left, got, e := ticket.Take(q, shard)
	if !sameQueue(left, want) || !sameTicket(got, x) || e != wantE {
		t.Fatalf("Take(%s, %d): %s, %s, error %d, want %s, %s, error %d", short(q), shard, short(left), short(got), e, short(want), short(x), wantE)
	}
	return left
}

// checkRefused ends the test unless each call tells of inboxes that may not be just that.
func checkRefused(t *testing.T, q api.Queue) {
	t.Helper()
	checkCheck(t, q, api.ErrBad)
	checkReady(t, q, nil, api.ErrBad)
	for _, x := range []api.Ticket{get("a"), flush(), clock(1), {}} {
		checkPut(t, q, x, api.Queue{}, 0, api.ErrBad)
	}
	for _, shard := range []int{least, -1, 0, 1, 2, 3, 4, 5, top} {
		checkTake(t, q, shard, api.Queue{}, api.Ticket{}, api.ErrBad)
	}
}

// bothPut puts a ticket in inboxes and in a model of them; the inboxes are as they were where it was refused.
func bothPut(t *testing.T, q api.Queue, m *model, x api.Ticket) api.Queue {
	t.Helper()
	number, e := m.put(x)
	if e != api.OK {
		checkPut(t, q, x, api.Queue{}, 0, e)
		return q
	}
	left := checkPut(t, q, x, m.queue(), number, e)
	checkCheck(t, left, api.OK)
	return left
}

// bothTake takes in both.
func bothTake(t *testing.T, q api.Queue, m *model, shard int) api.Queue {
	t.Helper()
	x, e := m.take(shard)
	if e != api.OK {
		checkTake(t, q, shard, api.Queue{}, api.Ticket{}, e)
		return q
	}
	left := checkTake(t, q, shard, m.queue(), x, e)
	checkCheck(t, left, api.OK)
	return left
}
