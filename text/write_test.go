package text_test

import (
	"math/rand"
	"strings"
	"testing"

	"cloakroom/api"
)

// P14.3: a Kind that has no line.
func TestKindsWithoutALine(t *testing.T) {
	for kind := range 256 {
		r := api.Request{Kind: uint8(kind)}
		switch kind {
		case 1:
			checkWrite(t, r, "", api.ErrOrder)
		case 3:
			checkWrite(t, r, "track off\r\n", api.OK)
		case 4:
			checkWrite(t, r, "ping\r\n", api.OK)
		case 5:
			checkWrite(t, r, "quit\r\n", api.OK)
		default:
			checkWrite(t, r, "", api.ErrBad)
		}
		for _, f := range forms() {
			for _, r := range []api.Request{plain(f), rich(f)} {
				r.Kind = uint8(kind)
				checkWritten(t, r)
			}
		}
	}
	checkWrite(t, bad(true), "", api.ErrBad)
	checkWrite(t, ask(api.Command{Kind: 0}), "", api.ErrOrder)
	for kind := 12; kind < 256; kind++ {
		checkWrite(t, ask(api.Command{Kind: uint8(kind)}), "", api.ErrOrder)
		checkWrite(t, ask(api.Command{Kind: uint8(kind), Keys: []string{"k"}}), "", api.ErrOrder)
	}
}

// others are fields of a request that some kinds' rows name, and others don't; each is set in one place.
func others() []func(*api.Request) {
	return []func(*api.Request){
		func(r *api.Request) { r.Close = true },
		func(r *api.Request) { r.On = true },
		func(r *api.Request) { r.Tenant = 1 },
		func(r *api.Request) { r.Tenant = -1 },
		func(r *api.Request) { r.Tenant = 4 },
		func(r *api.Request) { r.Tenant = least },
		func(r *api.Request) { r.Tenant = top },
		func(r *api.Request) { r.Tenant = 1 << 32 },
		func(r *api.Request) { r.Secret = "x" },
		func(r *api.Request) { r.Secret = " " },
		func(r *api.Request) { r.Command.Kind = 1 },
		func(r *api.Request) { r.Command.Kind = 12 },
		func(r *api.Request) { r.Command.Tenant = 1 },
		func(r *api.Request) { r.Command.Tenant = -1 },
		func(r *api.Request) { r.Command.Keys = []string{"x"} },
		func(r *api.Request) { r.Command.Keys = []string{""} },
		func(r *api.Request) { r.Command.Value = "x" },
		func(r *api.Request) { r.Command.Flags = 1 },
		func(r *api.Request) { r.Command.For = 1 },
		func(r *api.Request) { r.Command.For = -1 },
		func(r *api.Request) { r.Command.Unique = 1 },
		func(r *api.Request) { r.Command.Unique = 1 << 63 },
		func(r *api.Request) { r.Command.By = 1 },
		func(r *api.Request) { r.Command.By = 1 << 63 },
	}
}

// P14.3: of every Kind, fields that are not zero where the table names none.
func TestFieldsThatNoLineNames(t *testing.T) {
	for _, f := range forms() {
		for i, set := range others() {
			for _, r := range []api.Request{plain(f), rich(f)} {
				set(&r)
				checkWritten(t, r)
				own := f.kind == 1 && i >= 10 || f.kind == 2 && (r.Tenant == 1 || r.Secret == "x") && i >= 2 && i < 9 || f.kind == 3 && i == 1
				if !own {
					checkWrite(t, r, "", api.ErrBad)
				}
			}
		}
	}
}

// P14.3: a list without keys may be nil or not.
func TestNoKeys(t *testing.T) {
	for _, keys := range [][]string{nil, {}, someKeys(1)[:0]} {
		none := api.Command{Keys: keys}
		checkWrite(t, api.Request{Kind: 4, Command: none}, "ping\r\n", api.OK)
		checkWrite(t, api.Request{Kind: 5, Command: none}, "quit\r\n", api.OK)
		checkWrite(t, api.Request{Kind: 3, Command: none, On: true}, "track on\r\n", api.OK)
		checkWrite(t, api.Request{Kind: 2, Command: none, Secret: "s"}, "user 0 s\r\n", api.OK)
		checkWrite(t, ask(api.Command{Kind: 11, Keys: keys}), "flush\r\n", api.OK)
		checkWrite(t, ask(none), "", api.ErrOrder)
		checkWrite(t, ask(api.Command{Kind: 1, Keys: keys}), "", api.ErrOrder)
	}
}

// P14.3: tenants and secrets of a login.
func TestWrittenLogins(t *testing.T) {
	for _, tenant := range []int{0, 1, 2, 3} {
		checkWrite(t, api.Request{Kind: 2, Tenant: tenant, Secret: "!"}, "user "+string(rune('0'+tenant))+" !\r\n", api.OK)
		checkWrite(t, api.Request{Kind: 2, Tenant: tenant}, "", api.ErrBad)
	}
	for _, tenant := range []int{-1, 4, 5, 10, 255, 256, 1 << 32, -1 << 32, least, top} {
		checkWrite(t, api.Request{Kind: 2, Tenant: tenant, Secret: "s"}, "", api.ErrBad)
	}
	for n := range maxSecret + 3 {
		r := api.Request{Kind: 2, Secret: strings.Repeat("s", n)}
		if n < 1 || n > maxSecret {
			checkWrite(t, r, "", api.ErrBad)
			continue
		}
		checkWrite(t, r, "user 0 "+r.Secret+"\r\n", api.OK)
	}
	for c := range 256 {
		for _, secret := range []string{string([]byte{byte(c)}), string([]byte{'s', byte(c)}), string([]byte{byte(c), 's'}), string([]byte{'s', byte(c), 's'})} {
			r := api.Request{Kind: 2, Tenant: 3, Secret: secret}
			if c < 33 || c > 126 {
				checkWrite(t, r, "", api.ErrBad)
				continue
			}
			checkWrite(t, r, "user 3 "+secret+"\r\n", api.OK)
		}
	}
	checkWrite(t, api.Request{Kind: 2, Secret: strings.Repeat("s", 1<<20)}, "", api.ErrBad)
}

// P14.3: a command that may not be is order.Check's; one of another Tenant, or with a key of other bytes, is ErrBad.
func TestCommandsWithoutALine(t *testing.T) {
	k, long := []string{"k"}, strings.Repeat("k", maxKey+1)
	for _, c := range []api.Command{
		{}, {Kind: 1}, {Kind: 10}, {Kind: 2}, {Kind: 1, Keys: someKeys(9)}, {Kind: 10, Keys: someKeys(9)}, {Kind: 2, Keys: someKeys(2)}, {Kind: 11, Keys: k},
		{Kind: 1, Keys: []string{"a", "a"}}, {Kind: 1, Keys: []string{""}}, {Kind: 1, Keys: []string{long}}, {Kind: 2, Keys: []string{long}}, {Kind: 10, Keys: []string{"a", ""}},
		{Kind: 1, Keys: k, Tenant: -1}, {Kind: 1, Keys: k, Tenant: 4}, {Kind: 11, Tenant: 4}, {Kind: 11, Tenant: top},
		{Kind: 2, Keys: k, Value: strings.Repeat("v", maxValue+1)}, {Kind: 8, Keys: k, Value: strings.Repeat("v", maxValue+1)}, {Kind: 1, Keys: k, Value: "v"},
		{Kind: 2, Keys: k, For: -1}, {Kind: 2, Keys: k, For: maxClock + 1}, {Kind: 9, Keys: k, For: maxClock + 1}, {Kind: 8, Keys: k, For: 1},
		{Kind: 8, Keys: k, Flags: 1}, {Kind: 2, Keys: k, Unique: 1}, {Kind: 5, Keys: k, By: 1}, {Kind: 6, Keys: k, Unique: 1}, {Kind: 1, Keys: k, By: 1}, {Kind: 12, Keys: k},
	} {
		checkWrite(t, ask(c), "", api.ErrOrder)
	}
	for _, f := range forms() {
		for _, r := range []api.Request{plain(f), rich(f)} {
			for tenant := -2; tenant < 7; tenant++ {
				r.Command.Tenant = tenant
				checkWritten(t, r)
				if f.kind == 1 && tenant >= 1 && tenant <= 3 {
					checkWrite(t, r, "", api.ErrBad)
				}
			}
		}
	}
}

// P14.3: keys of other bytes than 33 to 126, in any place.
func TestWrittenKeys(t *testing.T) {
	for _, f := range forms() {
		if f.keys == 0 {
			continue
		}
		for c := range 256 {
			for _, key := range []string{string([]byte{byte(c)}), "x" + string([]byte{byte(c)}), string([]byte{byte(c)}) + "x", strings.Repeat("x", 31) + string([]byte{byte(c)})} {
				r := plain(f)
				r.Command.Keys = []string{key}
				checkWritten(t, r)
				if c < 33 || c > 126 {
					checkWrite(t, r, "", api.ErrBad)
				}
			}
		}
		for i := range f.keys {
			r := rich(f)
			r.Command.Keys[i] = "a b"
			checkWrite(t, r, "", api.ErrBad)
			r.Command.Keys[i] = ""
			checkWrite(t, r, "", api.ErrOrder)
		}
	}
}

// P14.3: the errors stand in their order: what no line names, order.Check's, and then a Tenant and keys.
func TestWhichErrorStandsFirst(t *testing.T) {
	wrong := []api.Command{{}, {Kind: 12}, {Kind: 1}, {Kind: 1, Tenant: 4, Keys: []string{"a b"}}, {Kind: 1, Tenant: 1, Keys: []string{"a b"}, By: 1}, {Kind: 1, Tenant: 1, Keys: []string{"a b", "a b"}}, {Kind: 2, Tenant: 1, Keys: []string{" "}, For: -1}, {Kind: 11, Keys: []string{"\x00"}}, {Kind: 1, Keys: []string{" ", ""}}, {Kind: 1, Tenant: 2, Keys: append(someKeys(8), "\x00")}}
	for _, c := range wrong {
		checkWrite(t, ask(c), "", api.ErrOrder)
		for _, set := range others()[:10] {
			r := ask(c)
			set(&r)
			checkWrite(t, r, "", api.ErrBad)
			for kind := range 8 {
				r.Kind = uint8(kind)
				checkWritten(t, r)
			}
		}
	}
	for _, c := range []api.Command{{Kind: 1, Tenant: 1, Keys: []string{"a"}}, {Kind: 1, Keys: []string{"a "}}, {Kind: 11, Tenant: 3}} {
		checkWrite(t, ask(c), "", api.ErrBad)
	}
}

// P14.3: the edges of what is written.
func TestWrittenEdges(t *testing.T) {
	k := []string{"k"}
	for _, n := range []int{0, 1, 9, 10, 11, 511, 512} {
		v := strings.Repeat("\r\n", n)[:n]
		size := map[int]string{0: "0", 1: "1", 9: "9", 10: "10", 11: "11", 511: "511", 512: "512"}[n]
		checkRequest(t, ask(api.Command{Kind: 8, Keys: k, Value: v}), "append k "+size+"\r\n"+v+"\r\n")
		checkRequest(t, ask(api.Command{Kind: 5, Keys: k, Value: v, Flags: 1<<32 - 1, For: maxClock, Unique: all}), "cas k 4294967295 1099511627776 "+size+" 18446744073709551615\r\n"+v+"\r\n")
	}
	checkRequest(t, ask(api.Command{Kind: 6, Keys: k}), "incr k 0\r\n")
	checkRequest(t, ask(api.Command{Kind: 7, Keys: k, By: all}), "decr k 18446744073709551615\r\n")
	checkRequest(t, ask(api.Command{Kind: 7, Keys: k, By: 1 << 63}), "decr k 9223372036854775808\r\n")
	checkRequest(t, ask(api.Command{Kind: 9, Keys: k, For: maxClock}), "touch k 1099511627776\r\n")
	checkRequest(t, ask(api.Command{Kind: 1, Keys: longKeys(8)}), "get "+strings.Join(longKeys(8), " ")+"\r\n")
	checkRequest(t, ask(api.Command{Kind: 10, Keys: longKeys(8)}), "delete "+strings.Join(longKeys(8), " ")+"\r\n")
}

// P14.3: requests with any one thing wrong, or two or three.
func TestManyRequests(t *testing.T) {
	r := rand.New(rand.NewSource(143))
	told := map[api.Errno]int{}
	for range 30000 {
		q := randomRequest(r)
		checkWritten(t, q)
		for range r.Intn(4) {
			q = spoilt(r, q)
		}
		checkWritten(t, q)
		_, e := wantWrite(q)
		told[e]++
	}
	for _, e := range []api.Errno{api.OK, api.ErrBad, api.ErrOrder} {
		if told[e] < 2000 {
			t.Error("too few", e, told)
		}
	}
}
