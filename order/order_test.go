package order_test

import (
	"math/rand"
	"slices"
	"strings"
	"testing"

	"cloakroom/api"
	"cloakroom/order"
)

// P10.1 to P10.3: the chapter's examples.
func TestExamples(t *testing.T) {
	for _, c := range []api.Command{
		get(0), get(0, "a", "a"), get(0, strings.Split("a b c d e f g h i", " ")...), {Kind: api.CmdFlush, Keys: []string{"a"}}, {Kind: 12, Keys: []string{"a"}}, {Kind: 12}, get(4, "a"),
		{Kind: api.CmdGet, Keys: []string{"a"}, By: 1}, {Kind: api.CmdTouch, Keys: []string{"a"}, Flags: 1}, {Kind: api.CmdAppend, Keys: []string{"a"}, Value: "v", For: 1},
	} {
		checkCheck(t, c, api.ErrOrder)
	}
	checkShards(t, flush(0), 3, []int{0, 1, 2}, api.OK)
	checkShards(t, get(0, "a"), 1, []int{0}, api.OK)
	two := del(0, "a", "b")
	checkShards(t, two, 2, []int{0, 1}, api.OK)
	checkMerge(t, two, 2, []api.Result{{Kind: api.ResDone, Number: 1}, {Kind: api.ResNone}}, api.Result{Kind: api.ResDone, Number: 1}, api.OK)
	checkMerge(t, two, 2, []api.Result{{Kind: api.ResNone}, {Kind: api.ResNone}}, api.Result{Kind: api.ResNone}, api.OK)
}

// P10.1: of each kind and tenant, commands with as little and with as much as may be.
func TestCommandsOfEachKind(t *testing.T) {
	for i, r := range rules() {
		if r.kind != uint8(i+1) {
			t.Fatal(r)
		}
		for tenant := range maxTenants {
			for _, c := range []api.Command{plain(r), rich(r)} {
				c.Tenant = tenant
				checkCheck(t, c, api.OK)
				checkCommand(t, c)
			}
		}
	}
}

// P10.1: commands of all kinds, as tenants send them.
func TestOrdinaryCommands(t *testing.T) {
	k := []string{"key"}
	for _, c := range []api.Command{
		get(1, "a", "b", "c"), get(0, "a"), del(2, "b", "a"), del(3, "key"), flush(3),
		{Kind: api.CmdSet, Tenant: 1, Keys: k, Value: "value", Flags: 7, For: 60},
		{Kind: api.CmdSet, Keys: k, Value: "value"},
		{Kind: api.CmdSet, Keys: k},
		{Kind: api.CmdAdd, Keys: k, Value: "value", For: 1},
		{Kind: api.CmdReplace, Keys: k, Value: "value", Flags: 1},
		{Kind: api.CmdCas, Keys: k, Value: "value", Flags: 1, For: 5, Unique: 12},
		{Kind: api.CmdCas, Keys: k, Value: "value"},
		{Kind: api.CmdIncr, Keys: k, By: 1},
		{Kind: api.CmdDecr, Keys: k, By: 10},
		{Kind: api.CmdAppend, Keys: k, Value: "more"},
		{Kind: api.CmdAppend, Keys: k},
		{Kind: api.CmdTouch, Keys: k, For: 60},
		{Kind: api.CmdTouch, Keys: k},
	} {
		checkCheck(t, c, api.OK)
		checkCommand(t, c)
	}
}

// P10.1: all kinds that a byte has, with any number of keys that one of them may have.
func TestKinds(t *testing.T) {
	for kind := range 256 {
		for many := range maxKeys + 2 {
			c := api.Command{Kind: uint8(kind), Keys: someKeys(many)}
			is := many == 0 && kind == 11 || many == 1 && kind > 0 && kind < 11 || many > 1 && many < 9 && (kind == 1 || kind == 10)
			if is != (wantCheck(c) == api.OK) {
				t.Fatal(kind, many)
			}
			checkCommand(t, c)
		}
	}
	for _, kind := range []uint8{0, 12, 255} {
		checkCheck(t, api.Command{Kind: kind}, api.ErrOrder)
		checkCheck(t, api.Command{Kind: kind, Keys: []string{"k"}}, api.ErrOrder)
	}
}

// P10.1: tenants in and beside those that may be.
func TestTenants(t *testing.T) {
	for _, r := range rules() {
		for _, tenant := range edgeNumbers() {
			c := plain(r)
			c.Tenant = tenant
			want := api.ErrOrder
			if tenant >= 0 && tenant < maxTenants {
				want = api.OK
			}
			checkCheck(t, c, want)
			checkCommand(t, c)
		}
	}
}

// P10.1: no key, one, as many as may be, and more.
func TestHowManyKeys(t *testing.T) {
	for _, r := range rules() {
		for _, many := range []int{0, 1, 2, 3, 7, maxKeys, maxKeys + 1, 10, 16, 255, 256, 257, 264, 1 << 12} {
			c := plain(r)
			c.Keys = someKeys(many)
			want := api.ErrOrder
			if many >= r.from && many <= r.to {
				want = api.OK
			}
			checkCheck(t, c, want)
			checkCommand(t, c)
		}
	}
	// As many of the same: they are too many, and none may be held against all others.
	checkCheck(t, get(0, slices.Repeat([]string{"k"}, 1<<20)...), api.ErrOrder)
}

// P10.1: keys of no, of few, of many and of too many bytes, at each place.
func TestLongKeys(t *testing.T) {
	for _, r := range rules() {
		for _, n := range []int{0, 1, 2, maxKey - 1, maxKey, maxKey + 1, 64, 256, 257, 288, 1 << 16} {
			for many := r.from; many <= r.to; many++ {
				for place := range many {
					c := plain(r)
					c.Keys = someKeys(many)
					c.Keys[place] = strings.Repeat("\xc3", n)
					want := api.ErrOrder
					if n > 0 && n <= maxKey {
						want = api.OK
					}
					checkCheck(t, c, want)
					checkCommand(t, c)
				}
			}
		}
	}
	// A key's length is its bytes, not its letters.
	checkCheck(t, get(0, strings.Repeat("é", 16)), api.OK)
	checkCheck(t, get(0, strings.Repeat("é", 17)), api.ErrOrder)
}

// P10.1: two keys that are the same, at any two places.
func TestKeysThatAreTheSame(t *testing.T) {
	for _, of := range []func(int, ...string) api.Command{get, del} {
		for many := 2; many <= maxKeys; many++ {
			for i := range many {
				for j := range many {
					for _, keys := range [][]string{someKeys(many), longKeys(many)} {
						keys[i] = strings.Clone(keys[j])
						want := api.ErrOrder
						if i == j {
							want = api.OK
						}
						checkCheck(t, of(1, keys...), want)
						checkCommand(t, of(1, keys...))
					}
				}
			}
			checkCheck(t, of(1, slices.Repeat([]string{"k"}, many)...), api.ErrOrder)
		}
	}
}

// P10.1: keys that differ a little are not the same, whatever bytes they have.
func TestKeysThatDiffer(t *testing.T) {
	for _, keys := range [][]string{
		{"a", "A"}, {"a", "aa"}, {"aa", "a"}, {"a", "a "}, {"a", " a"}, {"a", "a\x00"}, {"\x00", "\x00\x00"}, {"\x00", "0"}, {"é", "e\u0301"}, {"\xff", "\xfe"}, {"\xff", "\ufffd"}, {"ab", "ba"},
		{"k\n", "k\r\n", "k", "k\r", "\n", "\r", " ", "\t"}, longKeys(maxKeys), {strings.Repeat("a", 32), strings.Repeat("a", 31)},
	} {
		checkCheck(t, get(0, keys...), api.OK)
		checkCheck(t, del(0, keys...), api.OK)
		checkCommand(t, get(2, keys...))
	}
}

// P10.1: values of each length that counts, of each kind.
func TestValues(t *testing.T) {
	for _, r := range rules() {
		for _, n := range []int{0, 1, 2, 255, 256, 257, maxValue - 1, maxValue, maxValue + 1, 1024, 1 << 16, 1<<16 + 1} {
			c := plain(r)
			c.Value = strings.Repeat("\x00", n)
			want := api.ErrOrder
			if n == 0 || r.value && n <= maxValue {
				want = api.OK
			}
			checkCheck(t, c, want)
			checkCommand(t, c)
		}
	}
}

// P10.1: For in and beside what it may be, of each kind.
func TestFor(t *testing.T) {
	for _, r := range rules() {
		for _, n := range append(edgeNumbers(), maxClock-1, maxClock, maxClock+1, -maxClock, 2*maxClock, 1<<62) {
			c := plain(r)
			c.For = n
			want := api.ErrOrder
			if n == 0 || r.time && n > 0 && n <= maxClock {
				want = api.OK
			}
			checkCheck(t, c, want)
			checkCommand(t, c)
		}
	}
}

// P10.1: Flags, Unique and By other than 0, of each kind.
func TestFlagsUniqueAndBy(t *testing.T) {
	for _, r := range rules() {
		for bit := range 64 {
			for _, f := range []struct {
				set func(c *api.Command)
				may bool
			}{
				{func(c *api.Command) { c.Flags = 1 << (bit % 32) }, r.flags},
				{func(c *api.Command) { c.Unique = 1 << bit }, r.cas},
				{func(c *api.Command) { c.By = 1 << bit }, r.by},
			} {
				c := plain(r)
				f.set(&c)
				want := api.ErrOrder
				if f.may {
					want = api.OK
				}
				checkCheck(t, c, want)
				checkCommand(t, c)
			}
		}
	}
}

// P10.1: each kind, and those beside them, with each choice of fields.
func TestEachChoiceOfFields(t *testing.T) {
	may := 0
	for kind := range uint8(14) {
		for keys := range 3 {
			for bits := range 32 {
				c := api.Command{Kind: kind, Tenant: bits % maxTenants, Keys: someKeys(keys)}
				if bits&1 != 0 {
					c.Value = "v"
				}
				if bits&2 != 0 {
					c.For = 1
				}
				if bits&4 != 0 {
					c.Flags = 1
				}
				if bits&8 != 0 {
					c.Unique = 1
				}
				if bits&16 != 0 {
					c.By = 1
				}
				if wantCheck(c) == api.OK {
					may++
				}
				checkCommand(t, c)
			}
		}
	}
	// get and delete 2 each, set, add and replace 8, cas 16, incr, decr, append and touch 2, flush 1.
	if may != 2*2+3*8+16+4*2+1 {
		t.Error(may)
	}
}

// P10.1, P10.2: commands that may not be, by one thing and by several; beside the error stands nothing.
func TestWrongCommands(t *testing.T) {
	for _, c := range wrongCommands() {
		checkCheck(t, c, api.ErrOrder)
		checkNames(t, c, nil, api.ErrOrder)
		checkCommand(t, c)
		for _, spoil := range []func(c *api.Command){
			func(c *api.Command) { c.Tenant = 9 },
			func(c *api.Command) { c.Keys = []string{"", ""} },
			func(c *api.Command) { c.For = -7 },
			func(c *api.Command) { c.Value, c.By, c.Unique = "v", 1, 1 },
		} {
			wrong := c
			spoil(&wrong)
			checkCheck(t, wrong, api.ErrOrder)
		}
	}
}

// P10.1: any commands, and those with another thing in it.
func TestAnyCommands(t *testing.T) {
	r := rand.New(rand.NewSource(104))
	may := 0
	for range 20000 {
		c := randomCommand(r)
		checkCheck(t, c, api.OK)
		checkCommand(t, c)
		c = spoilt(r, c)
		checkCommand(t, c)
		if order.Check(c) == api.OK {
			may++
		}
	}
	if may < 3000 || may > 17000 {
		t.Error("too few of one of them", may)
	}
}

// P10.1: of all kinds get alone reads.
func TestReads(t *testing.T) {
	for kind := range 256 {
		if is := order.Reads(uint8(kind)); is != (kind == 1) {
			t.Error(kind, is)
		}
	}
}

// P10.2: the tenant with each key, in the keys' order, not in a rising one.
func TestNames(t *testing.T) {
	checkNames(t, get(2, "c", "a", "b"), []api.Name{{Tenant: 2, Key: "c"}, {Tenant: 2, Key: "a"}, {Tenant: 2, Key: "b"}}, api.OK)
	checkNames(t, del(0, "a"), []api.Name{{Tenant: 0, Key: "a"}}, api.OK)
	checkNames(t, flush(3), nil, api.OK)
	checkNames(t, api.Command{Kind: api.CmdIncr, Tenant: 3, Keys: []string{"\x00"}, By: 2}, []api.Name{{Tenant: 3, Key: "\x00"}}, api.OK)
	for _, r := range rules() {
		c := rich(r)
		l, e := order.Names(c)
		if e != api.OK || len(l) != r.to {
			t.Fatal(r, l, e)
		}
	}
}
