package shards_test

import (
	"cmp"
	"fmt"
	"hash/fnv"
	"math/rand"
	"slices"
	"strconv"
	"strings"
	"testing"

	"cloakroom/api"
	"cloakroom/engine"
	"cloakroom/shards"
)

const (
	least = -1 << 63
	top   = 1<<63 - 1
	all   = 1<<64 - 1
)

// The limits, written out, so that the program's own numbers are held against them.
const (
	maxKey     = 32
	maxItem    = 256
	maxTenants = 4
	maxShards  = 4
	maxPages   = 16
	maxKeys    = 8
	maxBox     = 256
	maxClock   = 1099511627776
)

// command, clock and quota are tickets of the three kinds.
func command(c api.Command) api.Ticket { return api.Ticket{Kind: api.TickCommand, Command: c} }

func clock(to int) api.Ticket { return api.Ticket{Kind: api.TickClock, To: to} }

func quota(tenant, pages int) api.Ticket {
	return api.Ticket{Kind: api.TickQuota, Tenant: tenant, To: pages}
}

func set(tenant int, key, value string) api.Ticket {
	return command(api.Command{Kind: api.CmdSet, Tenant: tenant, Keys: []string{key}, Value: value})
}

// lasts is a ticket whose command has For.
func lasts(t api.Ticket, many int) api.Ticket {
	t.Command.For = many
	return t
}

// of is a ticket whose command is of another kind.
func of(kind uint8, t api.Ticket) api.Ticket {
	t.Command.Kind = kind
	return t
}

func get(tenant int, keys ...string) api.Ticket {
	return command(api.Command{Kind: api.CmdGet, Tenant: tenant, Keys: keys})
}

func del(tenant int, keys ...string) api.Ticket {
	return command(api.Command{Kind: api.CmdDelete, Tenant: tenant, Keys: keys})
}

func flush(tenant int) api.Ticket {
	return command(api.Command{Kind: api.CmdFlush, Tenant: tenant})
}

func incr(tenant int, key string, by uint64) api.Ticket {
	return command(api.Command{Kind: api.CmdIncr, Tenant: tenant, Keys: []string{key}, By: by})
}

func kept(tenant int, key, value string, until int, unique uint64) api.Kept {
	return api.Kept{Tenant: tenant, Item: api.Item{Key: key, Value: value, Until: until, Unique: unique}}
}

// fill is a value with which an item of a key has so many bytes.
func fill(key string, size int) string { return strings.Repeat("v", size-8-len(key)) }

// homeOf is a name's shard, by the library's hash.
func homeOf(tenant int, key string, n int) int {
	h := fnv.New64a()
	h.Write([]byte{byte(tenant)})
	h.Write([]byte(key))
	return int(h.Sum64() % uint64(n))
}

// keyAt is a tenant's i-th key in a shard.
func keyAt(tenant, shard, n, i int) string {
	for j := 10; ; j++ {
		key := "k" + strconv.Itoa(j)
		if homeOf(tenant, key, n) == shard {
			if i == 0 {
				return key
			}
			i--
		}
	}
}

// keysAt are tenant 0's first keys, one of each of these shards.
func keysAt(n int, shards ...int) []string {
	var keys []string
	for _, shard := range shards {
		keys = append(keys, keyAt(0, shard, n, 0))
	}
	return keys
}

// shardsOf are a ticket's, rising.
func shardsOf(t api.Ticket, n int) []int {
	var l []int
	for shard := range n {
		in := func(key string) bool { return homeOf(t.Command.Tenant, key, n) == shard }
		if t.Kind != api.TickCommand || t.Command.Kind == api.CmdFlush || slices.ContainsFunc(t.Command.Keys, in) {
			l = append(l, shard)
		}
	}
	return l
}

// meet tells whether two tickets need one shard.
func meet(a, b api.Ticket, n int) bool {
	return slices.ContainsFunc(shardsOf(a, n), func(shard int) bool { return slices.Contains(shardsOf(b, n), shard) })
}

// model is a house as one line of tickets, each once, the eldest first; its shards are those of the layer below, which are asked key by key.
type model struct {
	pages, now, next int
	quotas           []int
	line             []api.Ticket
	shards           []*engine.Engine
}

// loadModel is of images that may be.
func loadModel(t *testing.T, n, pages int, i api.Image) *model {
	t.Helper()
	m := &model{pages: pages, now: i.Clock, quotas: slices.Clone(i.Quotas)}
	for shard := range n {
		e, f := engine.Load(pages, imageAt(i, shard, n))
		if f != api.OK {
			t.Fatalf("shard %d of %d, of %s: error %d", shard, n, short(i), f)
		}
		m.shards = append(m.shards, e)
	}
	return m
}

// imageAt is an image with the items of one shard alone.
func imageAt(i api.Image, shard, n int) api.Image {
	i.Items = slices.DeleteFunc(slices.Clone(i.Items), func(k api.Kept) bool { return homeOf(k.Tenant, k.Item.Key, n) != shard })
	return i
}

// boxed is how many tickets a shard's inbox has.
func (m *model) boxed(shard int) int {
	many := 0
	for _, t := range m.line {
		if slices.Contains(shardsOf(t, len(m.shards)), shard) {
			many++
		}
	}
	return many
}

// put is of tickets that may be.
func (m *model) put(t api.Ticket) (int, api.Errno) {
	for _, shard := range shardsOf(t, len(m.shards)) {
		if m.boxed(shard) >= maxBox {
			return 0, api.ErrFull
		}
	}
	t.Number = m.next
	t.Command.Keys = slices.Clone(t.Command.Keys)
	m.line = append(m.line, t)
	m.next++
	return t.Number, api.OK
}

// first is the place in the line of a shard's eldest ticket; -1, if it has none, or an elder one needs one of its shards.
func (m *model) first(shard int) int {
	n := len(m.shards)
	at := slices.IndexFunc(m.line, func(t api.Ticket) bool { return slices.Contains(shardsOf(t, n), shard) })
	if at >= 0 && slices.ContainsFunc(m.line[:at], func(t api.Ticket) bool { return meet(t, m.line[at], n) }) {
		return -1
	}
	return at
}

func (m *model) ready() []int {
	var l []int
	for shard := range m.shards {
		if m.first(shard) >= 0 {
			l = append(l, shard)
		}
	}
	return l
}

// step does a ticket, if there is one that the shard can take.
func (m *model) step(shard int) (int, api.Result, []api.Change, api.Errno) {
	if shard < 0 || shard >= len(m.shards) {
		return 0, api.Result{}, nil, api.ErrArg
	}
	at := m.first(shard)
	if at < 0 {
		return 0, api.Result{}, nil, api.ErrNone
	}
	t := m.line[at]
	m.line = slices.Delete(slices.Clone(m.line), at, at+1)
	r, l := m.do(t)
	return t.Number, r, l, api.OK
}

func (m *model) do(t api.Ticket) (api.Result, []api.Change) {
	switch t.Kind {
	case api.TickClock:
		return m.tick(t.To)
	case api.TickQuota:
		return m.quota(t.Tenant, t.To)
	}
	c := t.Command
	switch {
	case c.Tenant >= len(m.quotas):
		return api.Result{Kind: api.ResRefused}, nil
	case c.Kind == api.CmdGet, c.Kind == api.CmdDelete:
		return m.keyByKey(c)
	case c.Kind == api.CmdFlush:
		for _, e := range m.shards {
			e.Do(c)
		}
		return api.Result{Kind: api.ResDone}, []api.Change{{Kind: api.ChClear, Tenant: c.Tenant}}
	}
	r, l, _ := m.shards[homeOf(c.Tenant, c.Keys[0], len(m.shards))].Do(c)
	return r, l
}

// keyByKey does a get or a delete as so many of one key, in their order; of the changes those of one shard come ahead of the next one's.
func (m *model) keyByKey(c api.Command) (api.Result, []api.Change) {
	sum, n := api.Result{Kind: api.ResDone}, len(m.shards)
	var l []api.Change
	for _, key := range c.Keys {
		one := api.Command{Kind: c.Kind, Tenant: c.Tenant, Keys: []string{key}}
		r, more, _ := m.shards[homeOf(c.Tenant, key, n)].Do(one)
		sum.Items = append(sum.Items, r.Items...)
		sum.Number += r.Number
		l = append(l, more...)
	}
	if c.Kind == api.CmdDelete && sum.Number == 0 {
		sum.Kind = api.ResNone
	}
	slices.SortStableFunc(l, func(a, b api.Change) int {
		return cmp.Compare(homeOf(a.Tenant, a.Key, n), homeOf(b.Tenant, b.Key, n))
	})
	return sum, l
}

func (m *model) tick(to int) (api.Result, []api.Change) {
	m.now = max(m.now, to)
	for _, e := range m.shards {
		e.Tick(m.now)
	}
	return api.Result{Kind: api.ResDone}, []api.Change{{Kind: api.ChClock, To: m.now}}
}

// mayQuota tells whether a tenant's quota may be so many pages.
func (m *model) mayQuota(tenant, pages int) bool {
	if tenant >= len(m.quotas) {
		return false
	}
	sum := pages - m.quotas[tenant]
	for _, q := range m.quotas {
		sum += q
	}
	return sum <= m.pages
}

// quota leaves out what each shard tells last: that is told once.
func (m *model) quota(tenant, pages int) (api.Result, []api.Change) {
	if !m.mayQuota(tenant, pages) {
		return api.Result{Kind: api.ResRefused}, nil
	}
	var l []api.Change
	for _, e := range m.shards {
		more, _ := e.Quota(tenant, pages)
		l = append(l, slices.DeleteFunc(more, func(c api.Change) bool { return c.Kind != api.ChDrop })...)
	}
	m.quotas[tenant] = pages
	return api.Result{Kind: api.ResDone}, append(l, api.Change{Kind: api.ChQuota, Tenant: tenant, To: pages})
}

func (m *model) image() api.Image {
	i := api.Image{Clock: m.now, Quotas: slices.Clone(m.quotas)}
	for _, e := range m.shards {
		of, _ := e.Image()
		i.Items = append(i.Items, of.Items...)
	}
	return i
}

// twin is a house with its model: what is done is done to both, and fails the test unless both come to the same.
type twin struct {
	t *testing.T
	h *shards.House
	m *model
}

func made(t *testing.T, n, pages int, quotas []int, now int) *shards.House {
	t.Helper()
	h, f := shards.New(n, pages, quotas, now)
	if f != api.OK || h == nil {
		t.Fatalf("New(%d, %d, %v, %d): %v, error %d", n, pages, quotas, now, h, f)
	}
	return h
}

func loaded(t *testing.T, n, pages int, i api.Image) *shards.House {
	t.Helper()
	h, f := shards.Load(n, pages, i)
	if f != api.OK || h == nil {
		t.Fatalf("Load(%d, %d, %s): %v, error %d", n, pages, short(i), h, f)
	}
	return h
}

func newTwin(t *testing.T, n, pages int, quotas []int, now int) *twin {
	t.Helper()
	w := &twin{t, made(t, n, pages, quotas, now), loadModel(t, n, pages, api.Image{Clock: now, Quotas: quotas})}
	w.check("made")
	return w
}

func loadTwin(t *testing.T, n, pages int, i api.Image) *twin {
	t.Helper()
	w := &twin{t, loaded(t, n, pages, i), loadModel(t, n, pages, i)}
	w.check("loaded")
	return w
}

func (w *twin) check(what any) {
	w.t.Helper()
	checkImage(w.t, what, w.h, w.m.image())
	w.checkWaits(what)
}

// checkWaits leaves the image out, which no put and no refused step may change.
func (w *twin) checkWaits(what any) {
	w.t.Helper()
	if l, f := w.h.Ready(); f != api.OK || !slices.Equal(l, w.m.ready()) {
		w.t.Fatalf("%s: ready are %v, error %d, want %v", short(what), l, f, w.m.ready())
	}
	checkWaiting(w.t, what, w.h, len(w.m.line))
}

// put is of tickets that may be.
func (w *twin) put(t api.Ticket) int {
	w.t.Helper()
	want, wantF := w.m.put(t)
	number, f := w.h.Put(t)
	if number != want || f != wantF {
		w.t.Fatalf("Put(%s): %d, error %d, want %d, error %d", short(t), number, f, want, wantF)
	}
	w.checkWaits(t)
	return number
}

// step tells what the ticket came to, for what else the test asks of it.
func (w *twin) step(shard int) (int, api.Result, []api.Change) {
	w.t.Helper()
	want, wantR, wantL, wantF := w.m.step(shard)
	number, r, l, f := w.h.Step(shard)
	if number != want || !sameResult(r, wantR) || !slices.Equal(l, wantL) || f != wantF {
		w.t.Fatalf("Step(%d): %d, %s, %s, error %d, want %d, %s, %s, error %d", shard, number, short(r), short(l), f, want, short(wantR), short(wantL), wantF)
	}
	w.check(shard)
	return number, r, l
}

// do puts a ticket where none waits, and lets one of its shards do it.
func (w *twin) do(t api.Ticket) (api.Result, []api.Change) {
	w.t.Helper()
	number := w.put(t)
	l := shardsOf(t, len(w.m.shards))
	at, r, changes := w.step(l[number%len(l)])
	if at != number {
		w.t.Fatalf("%s: number %d, want %d", short(t), at, number)
	}
	return r, changes
}

// drain does all that waits, by shards as the source tells.
func (w *twin) drain(r *rand.Rand) {
	w.t.Helper()
	for len(w.m.line) > 0 {
		l := w.m.ready()
		w.step(l[r.Intn(len(l))])
	}
}

// comes ends the test unless a ticket, put where none waits, comes to a result and to changes, told by told.
func comes(t *testing.T, h *shards.House, x api.Ticket, want api.Result, changes string) {
	t.Helper()
	number, f := h.Put(x)
	ready, _ := h.Ready()
	if f != api.OK || len(ready) == 0 {
		t.Fatalf("Put(%s): error %d, ready are %v", short(x), f, ready)
	}
	done, r, l, f := h.Step(ready[len(ready)-1])
	if f != api.OK || done != number || !sameResult(r, want) || told(l) != changes {
		t.Fatalf("%s: %d, %s, %s, error %d, want %d, %s, %s", short(x), done, short(r), told(l), f, number, short(want), changes)
	}
}

// told is changes in short: +0k:7 what is put with its Unique, -0k what was deleted, !0k what was evicted, all0, at5, quota0:2.
func told(l []api.Change) string {
	var s []string
	for _, c := range l {
		switch c {
		case api.Change{Kind: api.ChPut, Tenant: c.Tenant, Item: c.Item}:
			s = append(s, fmt.Sprintf("+%d%s:%d", c.Tenant, c.Item.Key, c.Item.Unique))
		case api.Change{Kind: api.ChDrop, Tenant: c.Tenant, Key: c.Key, Why: api.WhyDeleted}:
			s = append(s, fmt.Sprintf("-%d%s", c.Tenant, c.Key))
		case api.Change{Kind: api.ChDrop, Tenant: c.Tenant, Key: c.Key, Why: api.WhyEvicted}:
			s = append(s, fmt.Sprintf("!%d%s", c.Tenant, c.Key))
		case api.Change{Kind: api.ChClear, Tenant: c.Tenant}:
			s = append(s, fmt.Sprintf("all%d", c.Tenant))
		case api.Change{Kind: api.ChClock, To: c.To}:
			s = append(s, fmt.Sprintf("at%d", c.To))
		case api.Change{Kind: api.ChQuota, Tenant: c.Tenant, To: c.To}:
			s = append(s, fmt.Sprintf("quota%d:%d", c.Tenant, c.To))
		default:
			s = append(s, fmt.Sprintf("wrong%v", c))
		}
	}
	return strings.Join(s, " ")
}

// only is a result without items and number.
func only(kind uint8) api.Result { return api.Result{Kind: kind} }

func counted(n uint64) api.Result { return api.Result{Kind: api.ResDone, Number: n} }

// found is the result of a get.
func found(l ...api.Item) api.Result { return api.Result{Kind: api.ResDone, Items: l} }

// short is how something is told where a test fails: texts may be long.
func short(what any) string {
	text := fmt.Sprintf("%+q", fmt.Sprintf("%+v", what))
	return text[:min(len(text), 600)]
}

// sameResult holds results against each other; lists without elements are the same.
func sameResult(a, b api.Result) bool {
	return a.Kind == b.Kind && a.Number == b.Number && slices.Equal(a.Items, b.Items)
}

// sameImage holds images against each other; lists without elements are the same.
func sameImage(a, b api.Image) bool {
	return a.Clock == b.Clock && a.Epoch == b.Epoch && a.Number == b.Number && a.Primary == b.Primary &&
		slices.Equal(a.Quotas, b.Quotas) && slices.Equal(a.Items, b.Items)
}

func checkImage(t *testing.T, what any, h *shards.House, want api.Image) {
	t.Helper()
	if i, f := h.Image(); f != api.OK || !sameImage(i, want) {
		t.Fatalf("%s: image %s, error %d, want %s", short(what), short(i), f, short(want))
	}
}

func checkWaiting(t *testing.T, what any, h *shards.House, want int) {
	t.Helper()
	if many, f := h.Waiting(); f != api.OK || many != want {
		t.Fatalf("%s: %d tickets wait, error %d, want %d", short(what), many, f, want)
	}
}

func checkReady(t *testing.T, what any, h *shards.House, want ...int) {
	t.Helper()
	if l, f := h.Ready(); f != api.OK || !slices.Equal(l, want) {
		t.Fatalf("%s: ready are %v, error %d, want %v", short(what), l, f, want)
	}
}

// checkRefused ends the test unless a step tells an error, and nothing else.
func checkRefused(t *testing.T, what any, h *shards.House, shard int, want api.Errno) {
	t.Helper()
	number, r, l, f := h.Step(shard)
	if f != want || number != 0 || !sameResult(r, api.Result{}) || len(l) != 0 {
		t.Fatalf("%s: Step(%d): %d, %s, %s, error %d, want error %d", short(what), shard, number, short(r), short(l), f, want)
	}
}

// checkNotPut ends the test unless a put tells an error, and nothing else.
func checkNotPut(t *testing.T, h *shards.House, x api.Ticket, want api.Errno) {
	t.Helper()
	if number, f := h.Put(x); f != want || number != 0 {
		t.Fatalf("Put(%s): %d, error %d, want error %d", short(x), number, f, want)
	}
}

// imageOf is asked of houses that were made.
func imageOf(h *shards.House) api.Image {
	i, _ := h.Image()
	return i
}

// keysOf are an image's keys, each behind its tenant.
func keysOf(i api.Image) string {
	var l []string
	for _, k := range i.Items {
		l = append(l, strconv.Itoa(k.Tenant)+k.Item.Key)
	}
	return strings.Join(l, " ")
}

// randomTicket may be. Its keys are few, so that most are there; some tenants have no quota.
func randomTicket(r *rand.Rand, m *model) api.Ticket {
	x := api.Ticket{Number: []int{0, r.Intn(9), -1, least, top}[r.Intn(5)]}
	tenant := r.Intn(len(m.quotas) + r.Intn(20)/19)
	switch r.Intn(12) {
	case 0:
		x.Kind, x.To = api.TickClock, max(0, min(m.now-3+r.Intn(12), maxClock))
	case 1:
		x.Kind, x.Tenant, x.To = api.TickQuota, tenant%maxTenants, r.Intn(m.pages+1)>>r.Intn(2)
	default:
		x.Kind, x.Command = api.TickCommand, randomCommand(r, m, tenant%maxTenants)
	}
	return x
}

func randomCommand(r *rand.Rand, m *model, tenant int) api.Command {
	kinds := []uint8{1, 1, 1, 2, 2, 2, 2, 2, 2, 2, 3, 3, 4, 5, 6, 6, 7, 8, 9, 9, 10, 10, 11}
	c := api.Command{Kind: kinds[r.Intn(len(kinds))], Tenant: tenant, Keys: []string{randomKey(r)}}
	if c.Kind == api.CmdFlush && r.Intn(4) > 0 {
		c.Kind = api.CmdGet
	}
	switch c.Kind {
	case api.CmdGet, api.CmdDelete:
		for range r.Intn(maxKeys) {
			if key := randomKey(r); !slices.Contains(c.Keys, key) {
				c.Keys = append(c.Keys, key)
			}
		}
	case api.CmdSet, api.CmdAdd, api.CmdReplace, api.CmdCas:
		c.Value, c.Flags, c.For = randomValue(r), uint32(r.Intn(3)), []int{0, 0, 1, 5, 30}[r.Intn(5)]
	case api.CmdIncr, api.CmdDecr:
		c.By = r.Uint64() >> r.Intn(64)
	case api.CmdAppend:
		c.Value = randomValue(r)[:r.Intn(2)]
	case api.CmdTouch:
		c.For = r.Intn(20)
	case api.CmdFlush:
		c.Keys = nil
	}
	if c.Kind == api.CmdCas {
		c.Unique = uniqueOf(m, tenant, c.Keys[0])
	}
	return c
}

// uniqueOf is the number of what is there under a name, now; 0, if nothing is.
func uniqueOf(m *model, tenant int, key string) uint64 {
	for _, k := range m.image().Items {
		if k.Tenant == tenant && k.Item.Key == key {
			return k.Item.Unique
		}
	}
	return 0
}

func randomKey(r *rand.Rand) string { return string([]byte{'a' + byte(r.Intn(26))}) }

func randomValue(r *rand.Rand) string {
	if r.Intn(3) == 0 {
		return strconv.Itoa(r.Intn(11))
	}
	sizes := []int{1, 6, 7, 8, 23, 24, 55, 56, 119, 120, 247, 248}
	return strings.Repeat("v", sizes[r.Intn(len(sizes))])
}

// randomQuotas have a sum that a shard has pages for; some are 0.
func randomQuotas(r *rand.Rand, pages int) []int {
	l := make([]int, 1+r.Intn(maxTenants))
	for i := range l {
		l[i] = r.Intn(pages + 1)
		pages -= l[i]
	}
	r.Shuffle(len(l), func(i, j int) { l[i], l[j] = l[j], l[i] })
	return l
}

// randomTwin is a house of so many shards, of any pages, quotas and clock.
func randomTwin(t *testing.T, r *rand.Rand, n int) *twin {
	t.Helper()
	pages := 1 + r.Intn(maxPages)>>r.Intn(4)
	now := []int{0, 1, 100, maxClock - 40}[r.Intn(4)]
	return newTwin(t, n, pages, randomQuotas(r, pages), now)
}

// randomTurn puts something, or lets somebody go on, be he ready or not.
func (w *twin) randomTurn(r *rand.Rand, most int) {
	w.t.Helper()
	if len(w.m.line) < most && r.Intn(2) == 0 {
		w.put(randomTicket(r, w.m))
		return
	}
	w.step(r.Intn(len(w.m.shards)+2) - 1)
}
