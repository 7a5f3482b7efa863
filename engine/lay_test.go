package engine_test

import (
	"cmp"
	"fmt"
	"maps"
	"math/rand"
	"slices"
	"strconv"
	"strings"
	"testing"

	"cloakroom/api"
	"cloakroom/engine"
)

const (
	least = -1 << 63
	top   = 1<<63 - 1
	all   = 1<<64 - 1
)

// The limits, written out, so that the program's own numbers are held against them.
const (
	maxKey     = 32
	maxItem    = 256
	maxTenants = 4
	maxPages   = 16
	maxClock   = 1099511627776
)

// leaf is a page of the model: whose, and the key in each of its chunks; a chunk's place is asked by going through all of them.
type leaf struct {
	tenant, class int
	chunks        []string
}

func (p leaf) free() bool {
	return !slices.ContainsFunc(p.chunks, func(k string) bool { return k != "" })
}

// line is an order of the model: one line of keys, the newest first, of which so many are kept.
type line struct {
	keys []string
	kept int
}

func (l *line) level() { l.kept = min(l.kept, (len(l.keys)+1)/2) }

func (l *line) del(key string) {
	i := slices.Index(l.keys, key)
	l.keys = slices.Delete(slices.Clone(l.keys), i, i+1)
	if i < l.kept {
		l.kept--
	}
	l.level()
}

func (l *line) add(key string) { l.keys = slices.Insert(slices.Clone(l.keys), l.kept, key) }

func (l *line) hit(key string) {
	i := slices.Index(l.keys, key)
	l.keys = slices.Insert(slices.Delete(slices.Clone(l.keys), i, i+1), 0, key)
	if i >= l.kept {
		l.kept++
	}
	l.level()
}

// model is what a shard is to be, by lists that are gone through each time. What may be refused is done to a copy of all of it.
type model struct {
	now    int
	quotas []int
	pages  []leaf
	items  []api.Kept
	lines  map[[2]int]line
	last   uint64
}

func newModel(pages int, quotas []int, now int) *model {
	return &model{now: now, quotas: slices.Clone(quotas), pages: make([]leaf, pages), lines: map[[2]int]line{}}
}

func (m *model) copied() *model {
	c := *m
	c.quotas, c.items, c.lines, c.pages = slices.Clone(m.quotas), slices.Clone(m.items), maps.Clone(m.lines), slices.Clone(m.pages)
	for i := range c.pages {
		c.pages[i].chunks = slices.Clone(c.pages[i].chunks)
	}
	return &c
}

// classFor is by how many bytes a chunk must have; 5: none has so many.
func classFor(x api.Item) int {
	class := 0
	for room := 16; room < 8+len(x.Key)+len(x.Value); room *= 2 {
		class++
	}
	return class
}

// index is where a name's item stands; -1, if there is none.
func (m *model) index(tenant int, key string) int {
	return slices.IndexFunc(m.items, func(k api.Kept) bool { return k.Tenant == tenant && k.Item.Key == key })
}

func (m *model) turn(tenant, class int, how func(*line)) {
	l := m.lines[[2]int{tenant, class}]
	how(&l)
	m.lines[[2]int{tenant, class}] = l
}

func (m *model) leave(tenant int, key string) {
	i := m.index(tenant, key)
	x := m.items[i].Item
	m.items = slices.Delete(slices.Clone(m.items), i, i+1)
	m.turn(tenant, classFor(x), func(l *line) { l.del(key) })
	for i, p := range m.pages {
		if at := slices.Index(p.chunks, key); p.tenant == tenant && at >= 0 {
			p.chunks[at] = ""
			if p.free() {
				m.pages[i] = leaf{}
			}
		}
	}
}

func (m *model) owned(tenant int) []int {
	var l []int
	for i, p := range m.pages {
		if !p.free() && p.tenant == tenant {
			l = append(l, i)
		}
	}
	return l
}

// take gives a key a chunk, if there is one.
func (m *model) take(tenant, class int, key string) bool {
	for _, i := range m.owned(tenant) {
		if at := slices.Index(m.pages[i].chunks, ""); m.pages[i].class == class && at >= 0 {
			m.pages[i].chunks[at] = key
			return true
		}
	}
	if len(m.owned(tenant)) >= m.quotas[tenant] {
		return false
	}
	for i, p := range m.pages {
		if p.free() {
			m.pages[i] = leaf{tenant, class, make([]string, 16>>class)}
			m.pages[i].chunks[0] = key
			return true
		}
	}
	return false
}

// put is done to a copy, which is taken for the model if nothing was refused.
func (m *model) put(tenant int, x api.Item) (uint8, []api.Change) {
	class, c := classFor(x), m.copied()
	if class > 4 {
		return api.ResLarge, nil
	}
	if c.index(tenant, x.Key) >= 0 {
		c.leave(tenant, x.Key)
	}
	var l []api.Change
	for !c.take(tenant, class, x.Key) {
		row := c.lines[[2]int{tenant, class}].keys
		if len(row) == 0 {
			return api.ResMemory, nil
		}
		victim := row[len(row)-1]
		c.leave(tenant, victim)
		l = append(l, api.Change{Kind: api.ChDrop, Tenant: tenant, Key: victim, Why: api.WhyEvicted})
	}
	c.last++
	x.Unique = c.last
	c.turn(tenant, class, func(l *line) { l.add(x.Key) })
	c.items = append(c.items, api.Kept{Tenant: tenant, Item: x})
	*m = *c
	return api.ResDone, append(l, api.Change{Kind: api.ChPut, Tenant: tenant, Item: x})
}

func (m *model) set(c api.Command) (api.Result, []api.Change) {
	x := api.Item{Key: c.Keys[0], Value: c.Value, Flags: c.Flags, Until: m.until(c.For)}
	kind, l := m.put(c.Tenant, x)
	return api.Result{Kind: kind}, l
}

func (m *model) until(many int) int {
	if many == 0 || m.now+many > maxClock {
		return 0
	}
	return m.now + many
}

// do is of commands that may be.
func (m *model) do(c api.Command) (api.Result, []api.Change) {
	if c.Tenant >= len(m.quotas) {
		return api.Result{Kind: api.ResRefused}, nil
	}
	switch c.Kind {
	case api.CmdGet:
		return m.get(c), nil
	case api.CmdDelete:
		return m.del(c)
	case api.CmdFlush:
		for m.leaveOne(func(k api.Kept) bool { return k.Tenant == c.Tenant }) {
		}
		return api.Result{Kind: api.ResDone}, []api.Change{{Kind: api.ChClear, Tenant: c.Tenant}}
	case api.CmdSet:
		return m.set(c)
	}
	at := m.index(c.Tenant, c.Keys[0])
	if c.Kind == api.CmdAdd && at < 0 {
		return m.set(c)
	}
	if at < 0 {
		return api.Result{Kind: api.ResNone}, nil
	}
	return m.doThere(c, m.items[at].Item)
}

func (m *model) doThere(c api.Command, x api.Item) (api.Result, []api.Change) {
	switch c.Kind {
	case api.CmdAdd:
		return api.Result{Kind: api.ResThere}, nil
	case api.CmdCas:
		if c.Unique != x.Unique {
			return api.Result{Kind: api.ResThere}, nil
		}
	case api.CmdIncr, api.CmdDecr:
		return m.count(c, x)
	case api.CmdAppend:
		x.Value += c.Value
		kind, l := m.put(c.Tenant, x)
		return api.Result{Kind: kind}, l
	case api.CmdTouch:
		x.Until = m.until(c.For)
		at := m.index(c.Tenant, x.Key)
		m.items = append(slices.Delete(slices.Clone(m.items), at, at+1), api.Kept{Tenant: c.Tenant, Item: x})
		m.turn(c.Tenant, classFor(x), func(l *line) { l.hit(x.Key) })
		return api.Result{Kind: api.ResDone}, []api.Change{{Kind: api.ChPut, Tenant: c.Tenant, Item: x}}
	}
	return m.set(c)
}

// count reads numbers by the library, which takes also such as are no number's text.
func (m *model) count(c api.Command, x api.Item) (api.Result, []api.Change) {
	n, err := strconv.ParseUint(x.Value, 10, 64)
	if err != nil || strconv.FormatUint(n, 10) != x.Value {
		return api.Result{Kind: api.ResNumber}, nil
	}
	if c.Kind == api.CmdIncr {
		n += c.By
	} else {
		n -= min(n, c.By)
	}
	x.Value = strconv.FormatUint(n, 10)
	kind, l := m.put(c.Tenant, x)
	if kind != api.ResDone {
		return api.Result{Kind: kind}, l
	}
	return api.Result{Kind: kind, Number: n}, l
}

func (m *model) get(c api.Command) api.Result {
	r := api.Result{Kind: api.ResDone}
	for _, key := range c.Keys {
		if at := m.index(c.Tenant, key); at >= 0 {
			x := m.items[at].Item
			r.Items = append(r.Items, x)
			m.turn(c.Tenant, classFor(x), func(l *line) { l.hit(key) })
		}
	}
	return r
}

func (m *model) del(c api.Command) (api.Result, []api.Change) {
	r, l := api.Result{Kind: api.ResNone}, []api.Change(nil)
	for _, key := range c.Keys {
		if m.index(c.Tenant, key) >= 0 {
			m.leave(c.Tenant, key)
			r.Kind = api.ResDone
			r.Number++
			l = append(l, api.Change{Kind: api.ChDrop, Tenant: c.Tenant, Key: key, Why: api.WhyDeleted})
		}
	}
	return r, l
}

// leaveOne lets one item leave that is as asked, if there is one.
func (m *model) leaveOne(is func(api.Kept) bool) bool {
	at := slices.IndexFunc(m.items, is)
	if at >= 0 {
		m.leave(m.items[at].Tenant, m.items[at].Item.Key)
	}
	return at >= 0
}

// tick goes on moment by moment, as far as an item is due there; of one moment names rise.
func (m *model) tick(now int) []api.Change {
	var due []api.Kept
	for _, k := range m.items {
		if k.Item.Until != 0 && k.Item.Until <= now {
			due = append(due, k)
		}
	}
	slices.SortFunc(due, func(a, b api.Kept) int {
		return cmp.Or(cmp.Compare(a.Item.Until, b.Item.Until), cmp.Compare(a.Tenant, b.Tenant), cmp.Compare(a.Item.Key, b.Item.Key))
	})
	for _, k := range due {
		m.leave(k.Tenant, k.Item.Key)
	}
	m.now = now
	return []api.Change{{Kind: api.ChClock, To: now}}
}

// quota is of quotas that may be.
func (m *model) quota(tenant, pages int) []api.Change {
	var l []api.Change
	m.quotas[tenant] = pages
	for len(m.owned(tenant)) > pages {
		own := m.owned(tenant)
		for _, key := range slices.Clone(m.pages[own[len(own)-1]].chunks) {
			if key != "" {
				m.leave(tenant, key)
				l = append(l, api.Change{Kind: api.ChDrop, Tenant: tenant, Key: key, Why: api.WhyEvicted})
			}
		}
	}
	return append(l, api.Change{Kind: api.ChQuota, Tenant: tenant, To: pages})
}

// load puts an image's items, which may be and have room, each in its turn.
func (m *model) load(l []api.Kept) {
	for _, k := range l {
		m.take(k.Tenant, classFor(k.Item), k.Item.Key)
		m.turn(k.Tenant, classFor(k.Item), func(l *line) { l.add(k.Item.Key) })
		m.items = append(m.items, k)
		m.last = max(m.last, k.Item.Unique)
	}
}

func (m *model) image() api.Image {
	return api.Image{Clock: m.now, Quotas: slices.Clone(m.quotas), Items: slices.Clone(m.items)}
}

func (m *model) slab() api.Slab {
	s := api.Slab{Pages: make([]api.Page, len(m.pages))}
	for i, p := range m.pages {
		s.Pages[i].Tenant, s.Pages[i].Class = p.tenant, p.class
		for at, key := range p.chunks {
			if key != "" {
				s.Pages[i].Used |= 1 << at
			}
		}
	}
	return s
}

// twin is a shard with its model: what is done is done to both, and fails the test unless both come to the same.
type twin struct {
	t *testing.T
	e *engine.Engine
	m *model
}

func made(t *testing.T, pages int, quotas []int, now int) *engine.Engine {
	t.Helper()
	e, f := engine.New(pages, quotas, now)
	if f != api.OK || e == nil {
		t.Fatalf("New(%d, %v, %d): %v, error %d", pages, quotas, now, e, f)
	}
	return e
}

func loaded(t *testing.T, pages int, i api.Image) *engine.Engine {
	t.Helper()
	e, f := engine.Load(pages, i)
	if f != api.OK || e == nil {
		t.Fatalf("Load(%d, %s): %v, error %d", pages, short(i), e, f)
	}
	return e
}

func newTwin(t *testing.T, pages int, quotas []int, now int) *twin {
	t.Helper()
	w := &twin{t, made(t, pages, quotas, now), newModel(pages, quotas, now)}
	w.check("made")
	return w
}

func loadTwin(t *testing.T, pages int, i api.Image) *twin {
	t.Helper()
	w := &twin{t, loaded(t, pages, i), newModel(pages, i.Quotas, i.Clock)}
	w.m.load(i.Items)
	w.check("loaded")
	return w
}

func (w *twin) check(what any) {
	w.t.Helper()
	checkImage(w.t, what, w.e, w.m.image())
	checkSlab(w.t, what, w.e, w.m.slab())
}

// do tells what the command came to, for what else the test asks of it.
func (w *twin) do(c api.Command) (api.Result, []api.Change) {
	w.t.Helper()
	want, wantL := w.m.do(c)
	r, l, f := w.e.Do(c)
	if f != api.OK || !sameResult(r, want) || !slices.Equal(l, wantL) {
		w.t.Fatalf("Do(%s): %s, %s, error %d, want %s, %s", short(c), short(r), short(l), f, short(want), short(wantL))
	}
	w.check(c)
	return r, l
}

func (w *twin) tick(now int) {
	w.t.Helper()
	want := w.m.tick(now)
	if l, f := w.e.Tick(now); f != api.OK || !slices.Equal(l, want) {
		w.t.Fatalf("Tick(%d): %s, error %d, want %s", now, short(l), f, short(want))
	}
	w.check(now)
}

func (w *twin) quota(tenant, pages int) []api.Change {
	w.t.Helper()
	want := w.m.quota(tenant, pages)
	l, f := w.e.Quota(tenant, pages)
	if f != api.OK || !slices.Equal(l, want) {
		w.t.Fatalf("Quota(%d, %d): %s, error %d, want %s", tenant, pages, short(l), f, short(want))
	}
	w.check([]int{tenant, pages})
	return l
}

// mayQuota tells whether a tenant's quota may be so many pages.
func (m *model) mayQuota(tenant, pages int) bool {
	sum := pages - m.quotas[tenant]
	for _, q := range m.quotas {
		sum += q
	}
	return sum <= len(m.pages)
}

// comes ends the test unless a command comes to a result and to changes, told by told.
func comes(t *testing.T, e *engine.Engine, c api.Command, want api.Result, changes string) {
	t.Helper()
	r, l, f := e.Do(c)
	if f != api.OK || !sameResult(r, want) || told(l) != changes {
		t.Fatalf("Do(%s): %s, %s, error %d, want %s, %s", short(c), short(r), told(l), f, short(want), changes)
	}
}

// told is changes in short: +0k:7 what is put with its Unique, -0k what was deleted, !0k what was evicted, all0, at5, quota0:2.
func told(l []api.Change) string {
	var s []string
	for _, c := range l {
		switch c {
		case api.Change{Kind: api.ChPut, Tenant: c.Tenant, Item: c.Item}:
			s = append(s, fmt.Sprintf("+%d%s:%d", c.Tenant, c.Item.Key, c.Item.Unique))
		case api.Change{Kind: api.ChDrop, Tenant: c.Tenant, Key: c.Key, Why: api.WhyDeleted}:
			s = append(s, fmt.Sprintf("-%d%s", c.Tenant, c.Key))
		case api.Change{Kind: api.ChDrop, Tenant: c.Tenant, Key: c.Key, Why: api.WhyEvicted}:
			s = append(s, fmt.Sprintf("!%d%s", c.Tenant, c.Key))
		case api.Change{Kind: api.ChClear, Tenant: c.Tenant}:
			s = append(s, fmt.Sprintf("all%d", c.Tenant))
		case api.Change{Kind: api.ChClock, To: c.To}:
			s = append(s, fmt.Sprintf("at%d", c.To))
		case api.Change{Kind: api.ChQuota, Tenant: c.Tenant, To: c.To}:
			s = append(s, fmt.Sprintf("quota%d:%d", c.Tenant, c.To))
		default:
			s = append(s, fmt.Sprintf("wrong%v", c))
		}
	}
	return strings.Join(s, " ")
}

// only is a result without items and number.
func only(kind uint8) api.Result { return api.Result{Kind: kind} }

func counted(n uint64) api.Result { return api.Result{Kind: api.ResDone, Number: n} }

func set(tenant int, key, value string) api.Command {
	return api.Command{Kind: api.CmdSet, Tenant: tenant, Keys: []string{key}, Value: value}
}

func get(tenant int, keys ...string) api.Command {
	return api.Command{Kind: api.CmdGet, Tenant: tenant, Keys: keys}
}

func del(tenant int, keys ...string) api.Command {
	return api.Command{Kind: api.CmdDelete, Tenant: tenant, Keys: keys}
}

func flush(tenant int) api.Command { return api.Command{Kind: api.CmdFlush, Tenant: tenant} }

func incr(tenant int, key string, by uint64) api.Command {
	return api.Command{Kind: api.CmdIncr, Tenant: tenant, Keys: []string{key}, By: by}
}

func decr(tenant int, key string, by uint64) api.Command {
	return api.Command{Kind: api.CmdDecr, Tenant: tenant, Keys: []string{key}, By: by}
}

func more(tenant int, key, value string) api.Command {
	return api.Command{Kind: api.CmdAppend, Tenant: tenant, Keys: []string{key}, Value: value}
}

func touch(tenant int, key string, many int) api.Command {
	return api.Command{Kind: api.CmdTouch, Tenant: tenant, Keys: []string{key}, For: many}
}

func cas(tenant int, key, value string, unique uint64) api.Command {
	return api.Command{Kind: api.CmdCas, Tenant: tenant, Keys: []string{key}, Value: value, Unique: unique}
}

// of is a command of another kind.
func of(kind uint8, c api.Command) api.Command {
	c.Kind = kind
	return c
}

// lasts is a command with For.
func lasts(c api.Command, many int) api.Command {
	c.For = many
	return c
}

// fill is a value with which an item of a key has so many bytes.
func fill(key string, size int) string { return strings.Repeat("v", size-8-len(key)) }

// short is how something is told where a test fails: texts may be long.
func short(what any) string {
	text := fmt.Sprintf("%+q", fmt.Sprintf("%+v", what))
	return text[:min(len(text), 600)]
}

// sameResult holds results against each other; lists without elements are the same.
func sameResult(a, b api.Result) bool {
	return a.Kind == b.Kind && a.Number == b.Number && slices.Equal(a.Items, b.Items)
}

// sameImage holds images against each other; lists without elements are the same.
func sameImage(a, b api.Image) bool {
	return a.Clock == b.Clock && a.Epoch == b.Epoch && a.Number == b.Number && a.Primary == b.Primary &&
		slices.Equal(a.Quotas, b.Quotas) && slices.Equal(a.Items, b.Items)
}

func checkImage(t *testing.T, what any, e *engine.Engine, want api.Image) {
	t.Helper()
	if i, f := e.Image(); f != api.OK || !sameImage(i, want) {
		t.Fatalf("%s: image %s, error %d, want %s", short(what), short(i), f, short(want))
	}
}

func checkSlab(t *testing.T, what any, e *engine.Engine, want api.Slab) {
	t.Helper()
	if s, f := e.Slab(); f != api.OK || !slices.Equal(s.Pages, want.Pages) {
		t.Fatalf("%s: slab %v, error %d, want %v", short(what), s, f, want)
	}
}

// imageOf and slabOf are asked of shards that were made.
func imageOf(e *engine.Engine) api.Image {
	i, _ := e.Image()
	return i
}

func slabOf(e *engine.Engine) api.Slab {
	s, _ := e.Slab()
	return s
}

// keysOf are an image's keys, each behind its tenant.
func keysOf(i api.Image) string {
	var l []string
	for _, k := range i.Items {
		l = append(l, strconv.Itoa(k.Tenant)+k.Item.Key)
	}
	return strings.Join(l, " ")
}

// randomCommand may be. Its keys are few, so that most are there; sizes are of all classes, and some too large.
func randomCommand(r *rand.Rand, m *model) api.Command {
	kinds := []uint8{1, 1, 1, 2, 2, 2, 2, 2, 3, 3, 4, 5, 5, 6, 6, 7, 8, 8, 9, 9, 10, 11}
	c := api.Command{Kind: kinds[r.Intn(len(kinds))], Tenant: r.Intn(len(m.quotas)), Keys: []string{randomKey(r)}}
	if c.Kind == api.CmdFlush && r.Intn(4) > 0 {
		c.Kind = api.CmdGet
	}
	switch c.Kind {
	case api.CmdGet, api.CmdDelete:
		for range r.Intn(4) {
			if key := randomKey(r); !slices.Contains(c.Keys, key) {
				c.Keys = append(c.Keys, key)
			}
		}
	case api.CmdSet, api.CmdAdd, api.CmdReplace, api.CmdCas:
		c.Value, c.Flags, c.For = randomValue(r), uint32(r.Intn(3)), randomFor(r, m.now)
	case api.CmdIncr, api.CmdDecr:
		c.By = r.Uint64() >> r.Intn(64)
	case api.CmdAppend:
		c.Value = randomValue(r)[:r.Intn(2)]
	case api.CmdTouch:
		c.For = randomFor(r, m.now)
	case api.CmdFlush:
		c.Keys = nil
	}
	if at := m.index(c.Tenant, firstOf(c.Keys)); c.Kind == api.CmdCas && at >= 0 {
		c.Unique = m.items[at].Item.Unique + uint64(r.Intn(4)/3)
	}
	return c
}

func firstOf(keys []string) string { return append(slices.Clone(keys), "")[0] }

// randomKey is one of few; some are so long that an item is at a class's edge.
func randomKey(r *rand.Rand) string {
	key := string([]byte{'a' + byte(r.Intn(20))})
	if key > "p" {
		return strings.Repeat(key, 7)
	}
	return key
}

func randomValue(r *rand.Rand) string {
	switch r.Intn(4) {
	case 0:
		return strconv.Itoa(r.Intn(11))
	case 1:
		return strconv.FormatUint(r.Uint64()>>r.Intn(64), 10)
	}
	sizes := []int{1, 6, 7, 8, 20, 23, 24, 50, 55, 56, 100, 119, 120, 200, 241, 247, 248}
	return strings.Repeat("v", sizes[r.Intn(len(sizes))])
}

func randomFor(r *rand.Rand, now int) int {
	switch r.Intn(8) {
	case 0:
		return max(0, min(maxClock, maxClock-now-1+r.Intn(3)))
	case 1, 2:
		return 1 + r.Intn(20)
	}
	return 0
}

// randomQuotas have a sum that a shard has pages for; some are 0.
func randomQuotas(r *rand.Rand, pages int) []int {
	l := make([]int, 1+r.Intn(maxTenants))
	for i := range l {
		l[i] = r.Intn(pages + 1)
		pages -= l[i]
	}
	r.Shuffle(len(l), func(i, j int) { l[i], l[j] = l[j], l[i] })
	return l
}

// randomStep does something to a twin, and tells the changes.
func (w *twin) randomStep(r *rand.Rand) []api.Change {
	w.t.Helper()
	switch r.Intn(20) {
	case 0:
		now := min(w.m.now+r.Intn(12), maxClock)
		w.tick(now)
		return []api.Change{{Kind: api.ChClock, To: now}}
	case 1:
		if tenant, pages := r.Intn(len(w.m.quotas)), r.Intn(len(w.m.pages)+1); w.m.mayQuota(tenant, pages) {
			return w.quota(tenant, pages)
		}
	}
	_, l := w.do(randomCommand(r, w.m))
	return l
}

// randomTwin is a shard of any pages, quotas and clock.
func randomTwin(t *testing.T, r *rand.Rand) *twin {
	t.Helper()
	pages := 1 + r.Intn(maxPages)>>r.Intn(4)
	now := []int{0, 1, 100, maxClock - 40}[r.Intn(4)]
	return newTwin(t, pages, randomQuotas(r, pages), now)
}
