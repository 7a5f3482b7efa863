package order_test

import (
	"math/rand"
	"reflect"
	"slices"
	"testing"

	"cloakroom/api"
	"cloakroom/order"
)

// roomy is a list with spare room behind it, in which something stands.
func roomy[T any](l []T, behind ...T) []T {
	return append(slices.Clone(l), behind...)[:len(l)]
}

// whole is a list with its spare room, as new memory.
func whole[T any](l []T) []T { return slices.Clone(l[:cap(l)]) }

// spoil changes each element of a list, and its spare room.
func spoil[T any](l []T, with T) {
	for i := range l[:cap(l)] {
		l[:cap(l)][i] = with
	}
}

// roomyResults are results with spare room behind each list.
func roomyResults(l []api.Result) []api.Result {
	l = slices.Clone(l)
	for i := range l {
		l[i].Items = roomy(l[i].Items, itemOf("a", 91), itemOf("b", 92))
	}
	return roomy(l, api.Result{Kind: api.ResRefused}, api.Result{Number: 4})
}

// wholeResults are all of them, with their spare room, as new memory.
func wholeResults(l []api.Result) []api.Result {
	l = whole(l)
	for i := range l {
		l[i].Items = whole(l[i].Items)
	}
	return l
}

// P10.4: what is handed in is only read, its spare room neither changed nor told.
func TestWhatIsHandedInIsOnlyRead(t *testing.T) {
	r := rand.New(rand.NewSource(107))
	for range 3000 {
		c := randomCommand(r)
		n := 1 + r.Intn(maxShards)
		l := roomyResults(randomResults(r, c, n))
		c.Keys = roomy(c.Keys, "a", "b", "", "c")
		wasKeys, wasResults := whole(c.Keys), wholeResults(l)
		checkCommand(t, c)
		checkParts(t, c, n)
		checkMerged(t, c, n, l)
		wrong := c
		wrong.By, wrong.Unique = 1, 1
		checkCommand(t, wrong)
		checkParts(t, wrong, n)
		checkMerged(t, wrong, n, l)
		if !slices.Equal(whole(c.Keys), wasKeys) || !reflect.DeepEqual(wholeResults(l), wasResults) {
			t.Fatalf("%s, %s changed", short(wasKeys), short(wasResults))
		}
	}
}

// P10.4: what is answered shares nothing with what was handed in, whichever of the two is changed.
func TestPartsAreNewMemory(t *testing.T) {
	r := rand.New(rand.NewSource(108))
	for range 3000 {
		c := randomCommand(r)
		n := 1 + r.Intn(maxShards)
		c.Keys = roomy(c.Keys, "a", "b", "c")
		was := whole(c.Keys)
		names, _ := order.Names(c)
		shards, _ := order.Shards(c, n)
		var parts, want []api.Command
		for _, shard := range shards {
			p, _ := order.Part(c, shard, n)
			parts = append(parts, p)
			p.Keys = slices.Clone(p.Keys)
			want = append(want, p)
		}
		wantNames, wantShards := slices.Clone(names), slices.Clone(shards)
		spoil(c.Keys, "spoilt")
		if !slices.Equal(names, wantNames) || !slices.Equal(shards, wantShards) || !slices.EqualFunc(parts, want, sameCommand) {
			t.Fatalf("%s: what was answered changed", short(was))
		}
		copy(c.Keys[:cap(c.Keys)], was)
		for i := range parts {
			spoil(parts[i].Keys, "spoilt")
			if i+1 < len(parts) && !slices.EqualFunc(parts[i+1:], want[i+1:], sameCommand) {
				t.Fatalf("%s: another part changed", short(was))
			}
		}
		spoil(names, api.Name{Tenant: 9})
		spoil(shards, 9)
		if !slices.Equal(whole(c.Keys), was) {
			t.Fatalf("%s changed: %s", short(was), short(c.Keys))
		}
		checkCommand(t, c)
		checkParts(t, c, n)
	}
}

// P10.4: so does a result.
func TestResultsAreNewMemory(t *testing.T) {
	r := rand.New(rand.NewSource(109))
	for range 5000 {
		c := randomCommand(r)
		n := 1 + r.Intn(maxShards)
		l := roomyResults(randomResults(r, c, n))
		was := wholeResults(l)
		want, _ := wantMerge(c, n, l)
		want.Items = slices.Clone(want.Items)
		x, e := order.Merge(c, n, l)
		spoil(x.Items, itemOf("spoilt", 99))
		if e != api.OK || !reflect.DeepEqual(wholeResults(l), was) {
			t.Fatalf("%s changed: error %d", short(was), e)
		}
		x, _ = order.Merge(c, n, l)
		for i := range l {
			spoil(l[i].Items, itemOf("spoilt", 99))
		}
		spoil(l, api.Result{Kind: 99})
		if !sameResult(x, want) {
			t.Fatalf("%s: %s changed", short(was), short(x))
		}
	}
}

// P10.4, R2: what is answered hangs on the arguments alone.
func TestAskedAgain(t *testing.T) {
	r := rand.New(rand.NewSource(110))
	c := get(1, letters()...)
	l := []api.Result{done(keyed("b", "d")...), done(keyed("a", "c")...)}
	want, _ := wantMerge(c, 2, l)
	for range 300 {
		checkParts(t, c, 3)
		checkMerge(t, c, 2, l, want, api.OK)
		other := spoilt(r, randomCommand(r))
		checkCommand(t, other)
		checkParts(t, other, r.Intn(6))
		checkMerged(t, other, 2, l)
	}
}

// checkCut ends the test unless each key of a command is in the part of just one of its shards, and each part may be, and has just that one shard.
func checkCut(t *testing.T, c api.Command, n int) {
	t.Helper()
	shards, e := order.Shards(c, n)
	if e != api.OK || len(shards) < 1 || len(shards) > n || !slices.IsSorted(shards) {
		t.Fatalf("%s: shards %v of %d, error %d", short(c), shards, n, e)
	}
	in := map[string]int{}
	for _, shard := range shards {
		p, e := order.Part(c, shard, n)
		if e != api.OK || order.Check(p) != api.OK {
			t.Fatalf("%s: part %s of shard %d, error %d", short(c), short(p), shard, e)
		}
		for _, key := range p.Keys {
			in[key]++
		}
		only := []int{shard}
		if c.Kind == api.CmdFlush {
			only = shards
		}
		checkShards(t, p, n, only, api.OK)
		checkPart(t, p, shard, n, p, api.OK)
		if p.Keys = c.Keys; !sameCommand(p, c) {
			t.Fatalf("%s: another thing than keys changed: %s", short(c), short(p))
		}
	}
	for _, key := range c.Keys {
		if in[key] != 1 {
			t.Fatalf("%s: key %q is in %d parts", short(c), key, in[key])
		}
	}
	if len(in) != len(c.Keys) {
		t.Fatalf("%s: keys of parts %s", short(c), short(in))
	}
	if len(shards) == 1 {
		checkPart(t, c, shards[0], n, c, api.OK)
	}
}

// P10.5, W1: each key is in one part; each part may be, and has its one shard; with one shard a part is the command.
func TestEachKeyIsInOnePart(t *testing.T) {
	r := rand.New(rand.NewSource(111))
	several := 0
	for range 10000 {
		c := randomCommand(r)
		for n := 1; n <= maxShards; n++ {
			checkCut(t, c, n)
			if l, _ := order.Shards(c, n); len(l) > 1 {
				several++
			}
		}
		checkPart(t, c, 0, 1, c, api.OK)
	}
	if several < 3000 {
		t.Error("too few", several)
	}
}

// P10.5, W1: of all kinds, with the fewest and the most that they may have.
func TestEachKindIsCut(t *testing.T) {
	for _, rule := range rules() {
		for tenant := range maxTenants {
			for n := 1; n <= maxShards; n++ {
				for _, c := range []api.Command{plain(rule), rich(rule)} {
					c.Tenant = tenant
					checkCut(t, c, n)
				}
			}
		}
	}
}

// kept is a map of names; do does a command there as the document says of a shard that evicts nothing.
type kept map[api.Name]api.Item

func (m kept) do(c api.Command) api.Result {
	r := api.Result{Kind: api.ResDone}
	for _, key := range c.Keys {
		name := api.Name{Tenant: c.Tenant, Key: key}
		x, is := m[name]
		switch {
		case c.Kind == api.CmdGet && is:
			r.Items = append(r.Items, x)
		case c.Kind == api.CmdDelete && is:
			delete(m, name)
			r.Number++
		}
	}
	if c.Kind == api.CmdDelete && r.Number == 0 {
		r.Kind = api.ResNone
	}
	for name := range m {
		if c.Kind == api.CmdFlush && name.Tenant == c.Tenant {
			delete(m, name)
		}
	}
	return r
}

// P10.5, W1: a command that is done part by part, in maps of one shard each, comes to what it comes to in one map, and leaves the same.
func TestDonePartByPart(t *testing.T) {
	r := rand.New(rand.NewSource(112))
	for range 300 {
		n := 1 + r.Intn(maxShards)
		one := kept{}
		shards := make([]kept, n)
		for i := range shards {
			shards[i] = kept{}
		}
		for i := range 60 {
			tenant, keys := r.Intn(maxTenants), randomKeys(r, 1+r.Intn(maxKeys))
			for _, key := range keys[:r.Intn(len(keys)+1)] {
				name := api.Name{Tenant: tenant, Key: key}
				one[name] = itemOf(key, i)
				shards[homeOf(tenant, key, n)][name] = itemOf(key, i)
			}
			c := []api.Command{get(tenant, keys...), del(tenant, keys[0]), del(tenant, keys...), flush(tenant)}[r.Intn(9)%4]
			need, _ := order.Shards(c, n)
			var l []api.Result
			for _, shard := range need {
				p, _ := order.Part(c, shard, n)
				l = append(l, shards[shard].do(p))
			}
			checkMerge(t, c, n, l, one.do(c), api.OK)
		}
		many := 0
		for _, m := range shards {
			many += len(m)
			for name, x := range m {
				if one[name] != x {
					t.Fatal(name, x)
				}
			}
		}
		if many != len(one) {
			t.Fatal(many, len(one))
		}
	}
}

// Looks for commands and results of which something else is told than their kind's rule and their keys' hashes tell.
func FuzzOrder(f *testing.F) {
	f.Add(uint8(1), 0, "abc", 1, "", uint32(0), 0, uint64(0), uint64(0), 2, "aabbcx")
	f.Add(uint8(5), 3, "key", 3, "value", uint32(1), 1<<40, uint64(7), uint64(0), 4, "")
	f.Add(uint8(10), 1, "abcdefgh", 1, "", uint32(0), 0, uint64(0), uint64(0), 4, "hgf")
	f.Add(uint8(11), 2, "", 0, "", uint32(0), 0, uint64(0), uint64(0), 3, "a")
	f.Add(uint8(6), -1, "aa", 1, "v", uint32(9), -1, uint64(1), uint64(1), 5, "")
	f.Fuzz(func(t *testing.T, kind uint8, tenant int, keys string, width int, value string, flags uint32, many int, unique, by uint64, n int, items string) {
		c := api.Command{Kind: kind, Tenant: tenant, Value: value, Flags: flags, For: many, Unique: unique, By: by}
		for piece := range slices.Chunk([]byte(keys), 1+width&63) {
			c.Keys = append(c.Keys, string(piece))
		}
		checkCommand(t, c)
		checkParts(t, c, n)
		shards, e := wantShards(c, n)
		l := make([]api.Result, len(shards))
		for i, b := range []byte(items) {
			if len(l) == 0 {
				break
			}
			r := &l[int(b>>2)%len(l)]
			r.Kind, r.Number = b&7, r.Number+uint64(b)
			r.Items = append(r.Items, itemOf(string([]byte{b}), i))
			if len(c.Keys) > 0 {
				r.Items = append(r.Items, itemOf(c.Keys[int(b)%len(c.Keys)], i))
			}
		}
		checkMerged(t, c, n, l)
		checkMerged(t, c, n, append(l, api.Result{}))
		if e == api.OK {
			checkCut(t, c, n)
		}
	})
}
