package binary_test

import (
	"math/rand"
	"strings"
	"testing"

	"cloakroom/api"
	"cloakroom/binary"
)

// other sets one field of a request that some kinds do not name.
type other struct {
	name  string
	named uint8 // the kind whose row names it; 0: none's does
	set   func(r *api.Request)
}

// others are all fields but the Kind, a few values each.
func others() []other {
	return []other{
		{"Close", 0, func(r *api.Request) { r.Close = true }},
		{"On", 3, func(r *api.Request) { r.On = true }},
		{"Tenant", 2, func(r *api.Request) { r.Tenant = 1 }},
		{"Tenant", 2, func(r *api.Request) { r.Tenant = 3 }},
		{"Tenant that may not be", 0, func(r *api.Request) { r.Tenant = 4 }},
		{"Tenant that may not be", 0, func(r *api.Request) { r.Tenant = -1 }},
		{"Tenant that may not be", 0, func(r *api.Request) { r.Tenant = least }},
		{"Tenant that may not be", 0, func(r *api.Request) { r.Tenant = 256 }},
		{"Secret", 2, func(r *api.Request) { r.Secret = "x" }},
		{"Secret", 2, func(r *api.Request) { r.Secret = "\x00" }},
		{"Secret that may not be", 0, func(r *api.Request) { r.Secret = strings.Repeat("s", 17) }},
		{"Kind of a command", 1, func(r *api.Request) { r.Command.Kind = 1 }},
		{"Kind of a command", 1, func(r *api.Request) { r.Command.Kind = 255 }},
		{"Tenant of a command", 1, func(r *api.Request) { r.Command.Tenant = 1 }},
		{"Tenant of a command", 1, func(r *api.Request) { r.Command.Tenant = -1 }},
		{"Keys", 1, func(r *api.Request) { r.Command.Keys = []string{"a"} }},
		{"Keys", 1, func(r *api.Request) { r.Command.Keys = []string{""} }},
		{"Value", 1, func(r *api.Request) { r.Command.Value = "v" }},
		{"Flags", 1, func(r *api.Request) { r.Command.Flags = 1 }},
		{"For", 1, func(r *api.Request) { r.Command.For = 1 }},
		{"For", 1, func(r *api.Request) { r.Command.For = -1 }},
		{"Unique", 1, func(r *api.Request) { r.Command.Unique = 1 << 63 }},
		{"By", 1, func(r *api.Request) { r.Command.By = 1 << 63 }},
	}
}

// P16.3: a Kind is from ReqCommand to ReqQuit, whatever else stands there.
func TestWrittenKinds(t *testing.T) {
	for kind := range 256 {
		for _, f := range forms() {
			for _, r := range []api.Request{plain(f), rich(f), {}} {
				r.Kind = uint8(kind)
				checkWritten(t, r)
				if kind < 1 || kind > 5 {
					checkWrite(t, r, "", api.ErrBad)
				}
			}
		}
	}
	for _, kind := range []uint8{0, 2, 6, 7, 255} {
		checkWrite(t, api.Request{Kind: kind}, "", api.ErrBad)
	}
	checkWrite(t, api.Request{Kind: 1}, "", api.ErrOrder)
	checkWrite(t, api.Request{Kind: 3}, of(3, "\x00"), api.OK)
	checkWrite(t, api.Request{Kind: 4}, of(4, ""), api.OK)
	checkWrite(t, api.Request{Kind: 5}, of(5, ""), api.OK)
	checkWrite(t, bad(true), "", api.ErrBad)
}

// P16.3: a field that a kind's row does not name is zero; Close is so of all.
func TestFieldsThatAreNotNamed(t *testing.T) {
	for _, f := range forms() {
		for _, o := range others() {
			for _, r := range []api.Request{plain(f), rich(f)} {
				o.set(&r)
				checkWritten(t, r)
				if o.named != f.kind {
					checkWrite(t, r, "", api.ErrBad)
				}
			}
		}
	}
}

// P16.3: a list without elements is zero, nil or not.
func TestKeysThatAreNone(t *testing.T) {
	for _, f := range forms() {
		r := plain(f)
		if f.keys > 0 {
			continue
		}
		want, _ := wantWrite(r)
		r.Command.Keys = []string{}
		checkWrite(t, r, want, api.OK)
		r.Command.Keys = roomy(nil, "x", "y")
		checkWrite(t, r, want, api.OK)
	}
	checkWrite(t, ask(api.Command{Kind: 1, Keys: []string{}}), "", api.ErrOrder)
}

// P16.3: a login's Tenant is from 0 to 3, its Secret has from 1 to 16 bytes, any ones.
func TestWrittenLogins(t *testing.T) {
	for _, tenant := range []int{least, -256, -1, 0, 1, 2, 3, 4, 5, 255, 256, 257, 259, 1 << 32, 1<<32 + 1, top} {
		for many := range 20 {
			secret := strings.Repeat("\xb1", many)
			r := api.Request{Kind: 2, Tenant: tenant, Secret: secret}
			if tenant < 0 || tenant > 3 || many == 0 || many > 16 {
				checkWrite(t, r, "", api.ErrBad)
				continue
			}
			checkRequest(t, r, of(2, string([]byte{byte(tenant)})+secret))
		}
	}
	for c := range 256 {
		secret := string([]byte{byte(c), 0, 13, 10, 177, 255, byte(c)})
		checkRequest(t, api.Request{Kind: 2, Tenant: 2, Secret: secret}, "\xb1\x02\x00\x00\x00\x08\x02"+secret)
	}
	checkWrite(t, api.Request{Kind: 2, Secret: strings.Repeat("s", 255)}, "", api.ErrBad)
	checkWrite(t, api.Request{Kind: 2, Secret: strings.Repeat("s", 256+4)}, "", api.ErrBad)
	checkWrite(t, api.Request{Kind: 2, Secret: strings.Repeat("s", 1<<20)}, "", api.ErrBad)
}

// P16.3: a command that may not be is order.Check's; one of another Tenant is ErrBad.
func TestCommandsWithoutAPacket(t *testing.T) {
	k, long := []string{"k"}, strings.Repeat("k", maxKey+1)
	for _, c := range []api.Command{
		{}, {Kind: 1}, {Kind: 10}, {Kind: 2}, {Kind: 12, Keys: k}, {Kind: 255, Keys: k}, {Kind: 1, Keys: someKeys(9)}, {Kind: 10, Keys: someKeys(9)}, {Kind: 2, Keys: someKeys(2)}, {Kind: 11, Keys: k},
		{Kind: 1, Keys: []string{"a", "a"}}, {Kind: 1, Keys: []string{""}}, {Kind: 1, Keys: []string{long}}, {Kind: 2, Keys: []string{long}}, {Kind: 10, Keys: []string{"a", ""}},
		{Kind: 1, Keys: k, Tenant: -1}, {Kind: 1, Keys: k, Tenant: 4}, {Kind: 11, Tenant: 4}, {Kind: 11, Tenant: top}, {Kind: 11, Tenant: least},
		{Kind: 2, Keys: k, Value: strings.Repeat("v", maxValue+1)}, {Kind: 8, Keys: k, Value: strings.Repeat("v", maxValue+1)}, {Kind: 1, Keys: k, Value: "v"}, {Kind: 2, Keys: k, Value: strings.Repeat("v", 1<<20)},
		{Kind: 2, Keys: k, For: -1}, {Kind: 2, Keys: k, For: maxClock + 1}, {Kind: 9, Keys: k, For: maxClock + 1}, {Kind: 8, Keys: k, For: 1},
		{Kind: 8, Keys: k, Flags: 1}, {Kind: 2, Keys: k, Unique: 1}, {Kind: 5, Keys: k, By: 1}, {Kind: 6, Keys: k, Unique: 1}, {Kind: 1, Keys: k, By: 1},
	} {
		checkWrite(t, ask(c), "", api.ErrOrder)
	}
	for _, f := range forms() {
		for _, r := range []api.Request{plain(f), rich(f)} {
			for tenant := -2; tenant < 7; tenant++ {
				r.Command.Tenant = tenant
				checkWritten(t, r)
				if f.kind == 1 && tenant >= 1 && tenant <= 3 {
					checkWrite(t, r, "", api.ErrBad)
				}
			}
		}
	}
}

// P16.3: the errors stand in their order: what a row does not name, order.Check's, and then the command's Tenant.
func TestWhichErrorStandsFirst(t *testing.T) {
	wrong := []api.Command{{}, {Kind: 12}, {Kind: 1}, {Kind: 1, Tenant: 4, Keys: []string{"a"}}, {Kind: 1, Tenant: -1, Keys: []string{"a"}}, {Kind: 1, Tenant: 1, Keys: []string{"a"}, By: 1}, {Kind: 1, Tenant: 1, Keys: []string{"b", "b"}}, {Kind: 2, Tenant: 1, Keys: []string{" "}, For: -1}, {Kind: 11, Tenant: 3, Keys: []string{"\x00"}}, {Kind: 1, Tenant: 1, Keys: []string{" ", ""}}, {Kind: 1, Tenant: 2, Keys: someKeys(9)}, {Kind: 2, Tenant: 1, Keys: []string{"a"}, Value: strings.Repeat("v", 513)}}
	for _, c := range wrong {
		checkWrite(t, ask(c), "", api.ErrOrder)
		for _, o := range others() {
			r := ask(c)
			o.set(&r)
			checkWritten(t, r)
			if o.named != 1 {
				checkWrite(t, r, "", api.ErrBad)
			}
			for kind := range 8 {
				r.Kind = uint8(kind)
				checkWritten(t, r)
			}
		}
	}
	for _, c := range []api.Command{{Kind: 1, Tenant: 1, Keys: []string{"a"}}, {Kind: 11, Tenant: 3}, {Kind: 2, Tenant: 2, Keys: []string{"a"}, Value: "v"}} {
		checkWrite(t, ask(c), "", api.ErrBad)
	}
}

// P16.3: the edges of what is written.
func TestWrittenEdges(t *testing.T) {
	k := []string{"k"}
	for _, n := range []int{0, 1, 127, 128, 129, 511, 512} {
		c := api.Command{Kind: 5, Keys: k, Value: strings.Repeat("\xb1\x00", n)[:n], Flags: maxFlags, For: maxClock, Unique: all}
		checkRequest(t, ask(c), of(1, bytesOf(c)))
		c = api.Command{Kind: 8, Keys: k, Value: c.Value}
		checkRequest(t, ask(c), of(1, bytesOf(c)))
	}
	for n := range 64 {
		for _, c := range []api.Command{{Kind: 6, Keys: k, By: 1 << n}, {Kind: 7, Keys: k, By: 1<<n - 1}, {Kind: 5, Keys: k, Unique: 1<<n - 1}} {
			checkRequest(t, ask(c), of(1, bytesOf(c)))
		}
	}
	for many := 1; many <= 8; many++ {
		for _, keys := range [][]string{someKeys(many), longKeys(many)} {
			for _, kind := range []uint8{1, 10} {
				c := api.Command{Kind: kind, Keys: keys}
				checkRequest(t, ask(c), of(1, bytesOf(c)))
			}
		}
	}
	for c := range 256 {
		for _, key := range []string{string([]byte{byte(c)}), "x" + string([]byte{byte(c)}), strings.Repeat("x", 31) + string([]byte{byte(c)})} {
			r := ask(api.Command{Kind: 10, Keys: []string{"other", key}})
			checkRequest(t, r, of(1, bytesOf(r.Command)))
		}
	}
}

// P16.3: beside an error nothing is told.
func TestNothingBesideAnError(t *testing.T) {
	for _, r := range []api.Request{{}, {Kind: 6}, {Kind: 1}, {Kind: 2}, {Kind: 4, On: true}, ask(api.Command{Kind: 11, Tenant: 1}), ask(api.Command{Kind: 1, Keys: someKeys(9)})} {
		if b, e := binary.Write(r); len(b) != 0 || e == api.OK {
			t.Errorf("%s: %s, error %d", short(r), short(string(b)), e)
		}
	}
}

// P16.3: requests with any one thing wrong, or two or three.
func TestManyRequests(t *testing.T) {
	r := rand.New(rand.NewSource(163))
	told := map[api.Errno]int{}
	for range 30000 {
		q := randomRequest(r)
		checkWritten(t, q)
		for range r.Intn(4) {
			q = spoilt(r, q)
		}
		checkWritten(t, q)
		_, e := wantWrite(q)
		told[e]++
	}
	for _, e := range []api.Errno{api.OK, api.ErrBad, api.ErrOrder} {
		if told[e] < 2000 {
			t.Error("too few", e, told)
		}
	}
}
