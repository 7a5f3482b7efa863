package order_test

import (
	"fmt"
	"hash/fnv"
	"math/rand"
	"reflect"
	"slices"
	"strconv"
	"strings"
	"testing"

	"cloakroom/api"
	"cloakroom/order"
)

const (
	least = -1 << 63
	top   = 1<<63 - 1
	all   = 1<<64 - 1
)

// The limits, written out, so that the program's own numbers are held against them.
const (
	maxKey     = 32
	maxValue   = 512
	maxKeys    = 8
	maxTenants = 4
	maxShards  = 4
	maxClock   = 1099511627776
)

// rule is what the document says of a kind: from how many to how many keys, and which fields may be other than zero.
type rule struct {
	kind                        uint8
	from, to                    int
	value, time, flags, cas, by bool
}

// rules are those of the eleven kinds.
func rules() []rule {
	return []rule{
		{kind: 1, from: 1, to: 8},
		{kind: 2, from: 1, to: 1, value: true, time: true, flags: true},
		{kind: 3, from: 1, to: 1, value: true, time: true, flags: true},
		{kind: 4, from: 1, to: 1, value: true, time: true, flags: true},
		{kind: 5, from: 1, to: 1, value: true, time: true, flags: true, cas: true},
		{kind: 6, from: 1, to: 1, by: true},
		{kind: 7, from: 1, to: 1, by: true},
		{kind: 8, from: 1, to: 1, value: true},
		{kind: 9, from: 1, to: 1, time: true},
		{kind: 10, from: 1, to: 8},
		{kind: 11},
	}
}

// fits tells whether a command is as its kind's rule asks.
func (r rule) fits(c api.Command) bool {
	seen := map[string]int{}
	for _, key := range c.Keys {
		if seen[key]++; key == "" || len(key) > 32 || seen[key] > 1 {
			return false
		}
	}
	return c.Tenant >= 0 && c.Tenant <= 3 &&
		len(c.Keys) >= r.from && len(c.Keys) <= r.to &&
		len(c.Value) <= 512 && (r.value || c.Value == "") &&
		c.For >= 0 && c.For <= maxClock && (r.time || c.For == 0) &&
		(r.flags || c.Flags == 0) && (r.cas || c.Unique == 0) && (r.by || c.By == 0)
}

// wantCheck is what Check is to tell.
func wantCheck(c api.Command) api.Errno {
	for _, r := range rules() {
		if r.kind == c.Kind && r.fits(c) {
			return api.OK
		}
	}
	return api.ErrOrder
}

// wantNames is what Names is to tell.
func wantNames(c api.Command) ([]api.Name, api.Errno) {
	l := []api.Name{}
	for _, key := range c.Keys {
		l = append(l, api.Name{Tenant: c.Tenant, Key: key})
	}
	if e := wantCheck(c); e != api.OK {
		return nil, e
	}
	return l, api.OK
}

// homeOf is the shard of a tenant's key, by the library's hash.
func homeOf(tenant int, key string, n int) int {
	h := fnv.New64a()
	h.Write([]byte{byte(tenant)})
	h.Write([]byte(key))
	return int(h.Sum64() % uint64(n))
}

// keysAt are the keys of a shard, in their order.
func keysAt(c api.Command, shard, n int) []string {
	var l []string
	for _, key := range c.Keys {
		if homeOf(c.Tenant, key, n) == shard {
			l = append(l, key)
		}
	}
	return l
}

// wantShards is what Shards is to tell.
func wantShards(c api.Command, n int) ([]int, api.Errno) {
	if e := wantCheck(c); e != api.OK {
		return nil, e
	}
	if n < 1 || n > 4 {
		return nil, api.ErrArg
	}
	var l []int
	for shard := range n {
		if c.Kind == 11 || len(keysAt(c, shard, n)) > 0 {
			l = append(l, shard)
		}
	}
	return l, api.OK
}

// wantPart is what Part is to tell.
func wantPart(c api.Command, shard, n int) (api.Command, api.Errno) {
	l, e := wantShards(c, n)
	if e == api.OK && !slices.Contains(l, shard) {
		e = api.ErrArg
	}
	if e != api.OK {
		return api.Command{}, e
	}
	c.Keys = keysAt(c, shard, n)
	return c, api.OK
}

// wantMerge is what Merge is to tell. A result that is one shard's alone is told as it is, unless it is refused.
func wantMerge(c api.Command, n int, l []api.Result) (api.Result, api.Errno) {
	shards, e := wantShards(c, n)
	if e == api.OK && len(shards) != len(l) {
		e = api.ErrMany
	}
	if e != api.OK {
		return api.Result{}, e
	}
	sum := uint64(0)
	first := map[api.Name]api.Item{} // by shards, which stand as tenants here
	for i, r := range l {
		if r.Kind == 7 {
			return api.Result{Kind: 7}, api.OK
		}
		sum += r.Number
		for _, x := range slices.Backward(r.Items) {
			first[api.Name{Tenant: shards[i], Key: x.Key}] = x
		}
	}
	switch {
	case len(l) == 1:
		return l[0], api.OK
	case c.Kind == 10 && sum == 0:
		return api.Result{Kind: 2}, api.OK
	case c.Kind == 10:
		return api.Result{Kind: 1, Number: sum}, api.OK
	}
	r := api.Result{Kind: 1}
	for _, key := range c.Keys {
		if x, is := first[api.Name{Tenant: homeOf(c.Tenant, key, n), Key: key}]; is {
			r.Items = append(r.Items, x)
		}
	}
	return r, api.OK
}

// plain is the command of a kind that has the fewest things.
func plain(r rule) api.Command {
	c := api.Command{Kind: r.kind}
	if r.from > 0 {
		c.Keys = []string{"k"}
	}
	return c
}

// rich is a command of a kind that has all that it may have, as much as it may.
func rich(r rule) api.Command {
	c := api.Command{Kind: r.kind, Tenant: 3, Keys: longKeys(r.to)}
	if r.value {
		c.Value = strings.Repeat("\xff", maxValue)
	}
	if r.time {
		c.For = maxClock
	}
	if r.flags {
		c.Flags = 1<<32 - 1
	}
	if r.cas {
		c.Unique = all
	}
	if r.by {
		c.By = all
	}
	return c
}

// longKeys are so many keys of as many bytes as may be, which differ in the last one alone.
func longKeys(many int) []string {
	var l []string
	for i := range many {
		l = append(l, strings.Repeat("\x00", maxKey-1)+string([]byte{byte(i)}))
	}
	return l
}

// someKeys are so many short keys.
func someKeys(many int) []string {
	var l []string
	for i := range many {
		l = append(l, "k"+strconv.Itoa(i))
	}
	return l
}

// spread is so many keys of a tenant of each of these shards, in turn.
func spread(tenant, many, n int, shards ...int) []string {
	var l []string
	for i := 0; len(l) < many*len(shards); i++ {
		if key := "s" + strconv.Itoa(i); homeOf(tenant, key, n) == shards[len(l)%len(shards)] {
			l = append(l, key)
		}
	}
	return l
}

// get, del and flush are commands of several shards.
func get(tenant int, keys ...string) api.Command {
	return api.Command{Kind: api.CmdGet, Tenant: tenant, Keys: keys}
}

func del(tenant int, keys ...string) api.Command {
	return api.Command{Kind: api.CmdDelete, Tenant: tenant, Keys: keys}
}

func flush(tenant int) api.Command {
	return api.Command{Kind: api.CmdFlush, Tenant: tenant}
}

// edgeNumbers are in and beside what numbers of shards, and shards, may be.
func edgeNumbers() []int {
	return []int{least, least + 1, -1 << 32, -5, -4, -3, -2, -1, 0, 1, 2, 3, 4, 5, 6, 8, 16, 255, 256, 257, 1 << 16, 1 << 32, 1<<32 + 1, 1<<32 + 2, top - 1, top}
}

// wrongCommands may not be, each by one thing.
func wrongCommands() []api.Command {
	k, long, tooMany := []string{"k"}, strings.Repeat("k", maxKey+1), someKeys(maxKeys+1)
	return []api.Command{
		{}, {Keys: k}, {Kind: 12}, {Kind: 12, Keys: k}, {Kind: 255, Keys: k}, {Kind: 1}, {Kind: 1, Keys: []string{}}, {Kind: 10},
		{Kind: 1, Keys: tooMany}, {Kind: 10, Keys: tooMany}, {Kind: 2, Keys: []string{"a", "b"}}, {Kind: 9, Keys: []string{"a", "b"}}, {Kind: 11, Keys: k}, {Kind: 11, Keys: []string{""}},
		{Kind: 1, Keys: []string{"a", "a"}}, {Kind: 10, Keys: []string{"a", "b", "a"}}, {Kind: 1, Keys: []string{""}}, {Kind: 10, Keys: []string{"a", ""}}, {Kind: 1, Keys: []string{long}}, {Kind: 2, Keys: []string{long}},
		{Kind: 1, Tenant: -1, Keys: k}, {Kind: 1, Tenant: 4, Keys: k}, {Kind: 11, Tenant: 4}, {Kind: 11, Tenant: -1}, {Kind: 2, Tenant: 4, Keys: k}, {Kind: 10, Tenant: least, Keys: k},
		{Kind: 2, Keys: k, Value: strings.Repeat("v", maxValue+1)}, {Kind: 1, Keys: k, Value: "v"}, {Kind: 11, Value: "v"}, {Kind: 9, Keys: k, Value: "v"},
		{Kind: 2, Keys: k, For: -1}, {Kind: 2, Keys: k, For: maxClock + 1}, {Kind: 8, Keys: k, For: 1}, {Kind: 11, For: 1}, {Kind: 10, Keys: k, For: 1},
		{Kind: 9, Keys: k, Flags: 1}, {Kind: 11, Flags: 1}, {Kind: 2, Keys: k, Unique: 1}, {Kind: 11, Unique: 1}, {Kind: 5, Keys: k, By: 1}, {Kind: 11, By: 1}, {Kind: 1, Keys: k, By: 1},
	}
}

// randomBytes is a text of any bytes.
func randomBytes(r *rand.Rand, many int) string {
	b := make([]byte, many)
	for i := range b {
		b[i] = byte(r.Intn(256))
	}
	return string(b)
}

// randomKeys are so many, no two the same: some short, some of any bytes.
func randomKeys(r *rand.Rand, many int) []string {
	var l []string
	for len(l) < many {
		key := string('a' + rune(r.Intn(26)))
		if r.Intn(2) == 0 {
			key = randomBytes(r, 1+r.Intn(maxKey))
		}
		if !slices.Contains(l, key) {
			l = append(l, key)
		}
	}
	return l
}

// randomCommand may be.
func randomCommand(r *rand.Rand) api.Command {
	kinds := rules()
	k := kinds[r.Intn(len(kinds))]
	c := api.Command{Kind: k.kind, Tenant: r.Intn(maxTenants), Keys: randomKeys(r, k.from+r.Intn(k.to-k.from+1))}
	if k.value {
		c.Value = randomBytes(r, r.Intn(maxValue+1))
	}
	if k.time {
		c.For = int(r.Uint64() >> r.Intn(64) % (maxClock + 1))
	}
	if k.flags {
		c.Flags = r.Uint32()
	}
	if k.cas {
		c.Unique = r.Uint64()
	}
	if k.by {
		c.By = r.Uint64()
	}
	return c
}

// spoilt is a command of which one thing is another one: some may be nevertheless.
func spoilt(r *rand.Rand, c api.Command) api.Command {
	switch r.Intn(9) {
	case 0:
		c.Kind = uint8(r.Intn(14))
	case 1:
		c.Tenant = r.Intn(7) - 1
	case 2:
		c.Keys = randomKeys(r, r.Intn(maxKeys+3))
	case 3:
		c.Keys = append(slices.Clone(c.Keys), "a", randomBytes(r, r.Intn(40)))
	case 4:
		c.Value = randomBytes(r, r.Intn(maxValue+3))
	case 5:
		c.For = r.Intn(5) - 1 + r.Intn(2)*(maxClock-2)
	case 6:
		c.Flags ^= uint32(r.Intn(2))
	case 7:
		c.Unique ^= uint64(r.Intn(2))
	case 8:
		c.By ^= uint64(r.Intn(2))
	}
	return c
}

// itemOf is an item of a key that no other number makes.
func itemOf(key string, number int) api.Item {
	return api.Item{Key: key, Value: "v" + strconv.Itoa(number), Flags: uint32(number), Until: number, Unique: uint64(number)}
}

// randomResult has items of a command's keys, whosever shard's they are, some twice, and of other keys.
func randomResult(r *rand.Rand, c api.Command) api.Result {
	x := api.Result{Kind: uint8(r.Intn(7)), Number: uint64(r.Intn(3))}
	if r.Intn(12) == 0 {
		x.Kind = api.ResRefused
	}
	for i := range r.Intn(12) {
		key := "other"
		if len(c.Keys) > 0 && r.Intn(5) > 0 {
			key = c.Keys[r.Intn(len(c.Keys))]
		}
		x.Items = append(x.Items, itemOf(key, i))
	}
	return x
}

// randomResults are one for each shard of a command.
func randomResults(r *rand.Rand, c api.Command, n int) []api.Result {
	shards, _ := wantShards(c, n)
	var l []api.Result
	for range shards {
		l = append(l, randomResult(r, c))
	}
	return l
}

// short is how something is told where a test fails: texts may be long.
func short(what any) string {
	text := fmt.Sprintf("%+q", fmt.Sprintf("%+v", what))
	return text[:min(len(text), 400)]
}

// sameCommand holds commands against each other; lists without elements are the same.
func sameCommand(a, b api.Command) bool {
	keys := slices.Equal(a.Keys, b.Keys)
	a.Keys, b.Keys = nil, nil
	return keys && reflect.DeepEqual(a, b)
}

// sameResult holds results against each other; lists without elements are the same.
func sameResult(a, b api.Result) bool {
	return a.Kind == b.Kind && a.Number == b.Number && slices.Equal(a.Items, b.Items)
}

// checkCheck ends the test, as the other checks do: what many inputs fail in is mostly one thing.
func checkCheck(t *testing.T, c api.Command, want api.Errno) {
	t.Helper()
	if e := order.Check(c); e != want {
		t.Fatalf("Check(%s): error %d, want %d", short(c), e, want)
	}
}

func checkNames(t *testing.T, c api.Command, want []api.Name, wantE api.Errno) {
	t.Helper()
	if l, e := order.Names(c); !slices.Equal(l, want) || e != wantE {
		t.Fatalf("Names(%s): %s, error %d, want %s, error %d", short(c), short(l), e, short(want), wantE)
	}
}

func checkShards(t *testing.T, c api.Command, n int, want []int, wantE api.Errno) {
	t.Helper()
	if l, e := order.Shards(c, n); !slices.Equal(l, want) || e != wantE {
		t.Fatalf("Shards(%s, %d): %v, error %d, want %v, error %d", short(c), n, l, e, want, wantE)
	}
}

func checkPart(t *testing.T, c api.Command, shard, n int, want api.Command, wantE api.Errno) {
	t.Helper()
	if p, e := order.Part(c, shard, n); !sameCommand(p, want) || e != wantE {
		t.Fatalf("Part(%s, %d, %d): %s, error %d, want %s, error %d", short(c), shard, n, short(p), e, short(want), wantE)
	}
}

func checkMerge(t *testing.T, c api.Command, n int, l []api.Result, want api.Result, wantE api.Errno) {
	t.Helper()
	if r, e := order.Merge(c, n, l); !sameResult(r, want) || e != wantE {
		t.Fatalf("Merge(%s, %d, %s): %s, error %d, want %s, error %d", short(c), n, short(l), short(r), e, short(want), wantE)
	}
}

// checkCommand ends the test unless Check and Names tell of a command what its kind's rule tells.
func checkCommand(t *testing.T, c api.Command) {
	t.Helper()
	checkCheck(t, c, wantCheck(c))
	l, e := wantNames(c)
	checkNames(t, c, l, e)
}

// checkParts ends the test unless Shards, and Part of any shard, tell what the keys' hashes tell.
func checkParts(t *testing.T, c api.Command, n int) {
	t.Helper()
	l, e := wantShards(c, n)
	checkShards(t, c, n, l, e)
	for shard := -1; shard <= maxShards; shard++ {
		p, e := wantPart(c, shard, n)
		checkPart(t, c, shard, n, p, e)
	}
}

// checkMerged ends the test unless Merge tells what going through the results backward tells.
func checkMerged(t *testing.T, c api.Command, n int, l []api.Result) {
	t.Helper()
	r, e := wantMerge(c, n, l)
	checkMerge(t, c, n, l, r, e)
}
