package binary_test

import (
	"math/rand"
	"slices"
	"strings"
	"testing"

	"cloakroom/api"
	"cloakroom/binary"
)

// P16.2: the chapter's examples.
func TestExamples(t *testing.T) {
	checkNext(t, "\xb1\x04\x00\x00\x00\x00", api.Request{Kind: api.ReqPing}, 6, api.OK)
	checkNext(t, "\xb1\x02\x00\x00\x00\x02\x03x", api.Request{Kind: api.ReqLogin, Tenant: 3, Secret: "x"}, 8, api.OK)
	checkWaits(t, "\xb1\x04\x00\x00\x00")
	checkWaits(t, "\xb1")
	checkNext(t, "\xb1\x04\x00\x00\x00\x01\x09", api.Request{Kind: api.ReqBad}, 7, api.OK)
	checkNext(t, "\xb1\x03\x00\x00\x00\x01\x02", api.Request{Kind: api.ReqBad}, 7, api.OK)
	for _, s := range []string{"\xb2", "\xb1\x06", "\xb1\x01\x00\x00\x10\x01"} {
		checkNext(t, s, api.Request{Kind: api.ReqBad, Close: true}, len(s), api.OK)
		checkShut(t, s)
	}
}

// P16.2, P16.3: rows of the table, byte by byte, written and read.
func TestRows(t *testing.T) {
	a := []string{"a"}
	for s, r := range map[string]api.Request{
		"\xb1\x01\x00\x00\x00\x0c\x01\x00\x02\x01a\x01b\x00\x00\x00\x00\x00":                ask(api.Command{Kind: api.CmdGet, Keys: []string{"a", "b"}}),
		"\xb1\x01\x00\x00\x00\x0c\x02\x00\x01\x01a\x02\r\n\x07\x05\x00\x00":                 ask(api.Command{Kind: api.CmdSet, Keys: a, Value: "\r\n", Flags: 7, For: 5}),
		"\xb1\x01\x00\x00\x00\x0a\x03\x00\x01\x01a\x00\x00\x00\x00\x00":                     ask(api.Command{Kind: api.CmdAdd, Keys: a}),
		"\xb1\x01\x00\x00\x00\x0b\x04\x00\x01\x01a\x01v\x00\x00\x00\x00":                    ask(api.Command{Kind: api.CmdReplace, Keys: a, Value: "v"}),
		"\xb1\x01\x00\x00\x00\x0b\x05\x00\x01\x01a\x00\x00\x00\xac\x02\x00":                 ask(api.Command{Kind: api.CmdCas, Keys: a, Unique: 300}),
		"\xb1\x01\x00\x00\x00\x0b\x06\x00\x01\x01a\x00\x00\x00\x00\xac\x02":                 ask(api.Command{Kind: api.CmdIncr, Keys: a, By: 300}),
		"\xb1\x01\x00\x00\x00\x0a\x07\x00\x01\x01a\x00\x00\x00\x00\x09":                     ask(api.Command{Kind: api.CmdDecr, Keys: a, By: 9}),
		"\xb1\x01\x00\x00\x00\x0b\x08\x00\x01\x01\x00\x01\xb1\x00\x00\x00\x00":              ask(api.Command{Kind: api.CmdAppend, Keys: []string{"\x00"}, Value: "\xb1"}),
		"\xb1\x01\x00\x00\x00\x0a\x09\x00\x01\x01a\x00\x00\x04\x00\x00":                     ask(api.Command{Kind: api.CmdTouch, Keys: a, For: 4}),
		"\xb1\x01\x00\x00\x00\x0a\x0a\x00\x01\x01a\x00\x00\x00\x00\x00":                     ask(api.Command{Kind: api.CmdDelete, Keys: a}),
		"\xb1\x01\x00\x00\x00\x08\x0b\x00\x00\x00\x00\x00\x00\x00":                          ask(api.Command{Kind: api.CmdFlush}),
		"\xb1\x02\x00\x00\x00\x02\x00s":                                                     {Kind: api.ReqLogin, Secret: "s"},
		"\xb1\x02\x00\x00\x00\x06\x03\x00\r\n\xb1\xff":                                      {Kind: api.ReqLogin, Tenant: 3, Secret: "\x00\r\n\xb1\xff"},
		"\xb1\x02\x00\x00\x00\x11\x01\x01\x02\x03\x04\x05\x06\x07\x08\x09\n\v\f\r\x0e\x0f ": {Kind: api.ReqLogin, Tenant: 1, Secret: "\x01\x02\x03\x04\x05\x06\x07\x08\x09\n\v\f\r\x0e\x0f "},
		"\xb1\x03\x00\x00\x00\x01\x01":                                                      {Kind: api.ReqTrack, On: true},
		"\xb1\x03\x00\x00\x00\x01\x00":                                                      {Kind: api.ReqTrack},
		"\xb1\x04\x00\x00\x00\x00":                                                          {Kind: api.ReqPing},
		"\xb1\x05\x00\x00\x00\x00":                                                          {Kind: api.ReqQuit},
	} {
		checkRequest(t, r, s)
	}
	for _, f := range forms() {
		for _, r := range []api.Request{plain(f), rich(f)} {
			s, e := wantWrite(r)
			if e != api.OK {
				t.Fatalf("the model refuses %s: error %d", short(r), e)
			}
			checkRequest(t, r, s)
		}
	}
}

// P16.2: as long as a packet is not there whole, none is, of whatever row, and whatever its body.
func TestNoneThereWhole(t *testing.T) {
	checkWaits(t, "")
	if r, n, e := binary.Next(nil); !same(r, api.Request{}) || n != 0 || e != api.OK {
		t.Error(r, n, e)
	}
	for _, f := range forms() {
		for _, r := range []api.Request{plain(f), rich(f)} {
			s, _ := wantWrite(r)
			for i := range len(s) {
				checkWaits(t, s[:i])
			}
		}
	}
	for kind := uint8(1); kind <= 5; kind++ {
		for many := 1; many <= maxPacket; many += 1 + many/3 {
			s := of(kind, strings.Repeat("\xff", many))
			checkWaits(t, s[:6])
			checkWaits(t, s[:len(s)-1])
			checkNext(t, s, bad(false), len(s), api.OK)
		}
	}
}

// P16.2: the first byte is 177, and counts as soon as it is there.
func TestFirstBytes(t *testing.T) {
	for c := range 256 {
		s := string([]byte{byte(c)})
		if c == 177 {
			checkWaits(t, s)
			continue
		}
		for _, behind := range []string{"", "\x04", "\x04\x00\x00\x00\x00", "\x00", "\x04\xff\xff\xff\xff", strings.Repeat("x", maxText-20)} {
			checkShut(t, s+behind)
		}
	}
}

// P16.2: the second byte is from 1 to 5, and counts as soon as it is there.
func TestSecondBytes(t *testing.T) {
	for c := range 256 {
		s := string([]byte{177, byte(c)})
		if c >= 1 && c <= 5 {
			checkWaits(t, s)
			continue
		}
		for _, behind := range []string{"", "\x00", "\x00\x00\x00\x00", "\xff\xff\xff\xff", "\x00\x00\x00\x01", "\x00\x00\x00\x02\x03x", strings.Repeat("x", maxText-20)} {
			checkShut(t, s+behind)
		}
	}
}

// P16.2: a length above 4096 counts as soon as its last byte is there, of each kind, with its body and without.
func TestLengths(t *testing.T) {
	for kind := uint8(1); kind <= 5; kind++ {
		head := string([]byte{177, kind})
		for _, length := range []string{"\x00\x00\x10\x01", "\x00\x00\x10\xff", "\x00\x00\x11\x00", "\x00\x00\xff\x00", "\x00\x01\x00\x00", "\x01\x00\x00\x00", "\x00\xff\x00\x01", "\x80\x00\x00\x00", "\xff\xff\xff\xff"} {
			for many := range 4 {
				checkWaits(t, head+length[:many])
			}
			for _, many := range []int{0, 1, 4096, 4097, maxText - 16} {
				checkShut(t, head+length+strings.Repeat("\x01", many))
			}
		}
		checkWaits(t, head+"\x00\x00\x10\x00")
		checkWaits(t, head+"\x00\x00\x10\x00"+strings.Repeat("\x01", 4095))
		checkNext(t, head+"\x00\x00\x10\x00"+strings.Repeat("\x01", 4096), bad(false), 4102, api.OK)
		checkBad(t, kind, strings.Repeat("\x00", 4096))
	}
}

// P16.2: where two things are wrong at once: what shuts the connection counts ahead of what is waited for, and of a body that is none.
func TestWhichCounts(t *testing.T) {
	checkShut(t, "\xb2\x00\xff\xff\xff\xff")
	checkShut(t, "\xb2\x06")
	checkShut(t, "\xb1\x00\x00\x00\x00\x01")
	checkShut(t, "\xb1\x06\xff\xff\xff\xff")
	checkShut(t, "\xb1\x06\x00\x00\x00\x00")
	checkShut(t, "\xb1\x04\x00\x00\x10\x01\x09")
	checkShut(t, "\xb1\x03\x00\x00\x10\x01\x02")
	checkWaits(t, "\xb1\x04\x00\x00\x00\x02\x09")
	checkWaits(t, "\xb1\x02\x00\x00\x00\x02\x04")
	checkWaits(t, "\xb1\x01\x00\x00\x00\x03\x0c\x04")
	checkBad(t, 2, "\x04")
	checkBad(t, 2, "\x04"+strings.Repeat("s", 17))
	checkBad(t, 3, "\x02\x02")
	checkBad(t, 1, bytesOf(api.Command{Kind: 12, Tenant: 4}))
	checkBad(t, 1, bytesOf(api.Command{Kind: 1, Tenant: 1}))
}

// P16.2: a login's first byte is from 0 to 3, and from 1 to 16 bytes stand behind it, any ones.
func TestLogins(t *testing.T) {
	checkBad(t, 2, "")
	for c := range 256 {
		for _, many := range []int{0, 1, 2, 15, 16, 17, 18, 255, 256, 257, 4095} {
			body := string([]byte{byte(c)}) + strings.Repeat("s", many)
			if c > 3 || many == 0 || many > 16 {
				checkBad(t, 2, body)
				continue
			}
			checkRequest(t, api.Request{Kind: 2, Tenant: c, Secret: body[1:]}, of(2, body))
		}
		for _, secret := range []string{string([]byte{byte(c)}), string([]byte{'s', byte(c)}), string([]byte{byte(c), 's'}), strings.Repeat("s", 15) + string([]byte{byte(c)})} {
			checkRequest(t, api.Request{Kind: 2, Tenant: 3, Secret: secret}, of(2, "\x03"+secret))
		}
	}
}

// P16.2: a track's body is one byte, 0 or 1; a ping's and a quit's is none.
func TestShortBodies(t *testing.T) {
	for _, kind := range []uint8{3, 4, 5} {
		for c := range 256 {
			body := string([]byte{byte(c)})
			for _, behind := range []string{"", "\x00", "\x01", "s", strings.Repeat("\x01", 16), strings.Repeat("\x01", 4095)} {
				if kind == 3 && c < 2 && behind == "" {
					checkRequest(t, api.Request{Kind: 3, On: c == 1}, of(3, body))
					continue
				}
				checkBad(t, kind, body+behind)
			}
		}
	}
	checkBad(t, 3, "")
}

// P16.2: what is a body of one kind is none of another.
func TestBodiesOfOtherKinds(t *testing.T) {
	bodies := []string{"", "\x00", "\x01", "\x00s", "\x03" + strings.Repeat("s", 16), bytesOf(api.Command{Kind: 1, Keys: []string{"a"}}), bytesOf(api.Command{Kind: 11}), bytesOf(api.Command{Kind: 2, Keys: []string{"a"}, Value: "12345"})}
	// Commands of the kinds 1 and 2 begin as logins of tenants 1 and 2 do.
	may := map[int][]int{1: {5, 6, 7}, 2: {3, 4, 5, 7}, 3: {1, 2}, 4: {0}, 5: {0}}
	for kind := 1; kind <= 5; kind++ {
		for i, body := range bodies {
			if !slices.Contains(may[kind], i) {
				checkBad(t, uint8(kind), body)
				continue
			}
			checkRequest(t, wantRequest(uint8(kind), body), of(uint8(kind), body))
		}
	}
}

// P16.2: all bodies of up to two bytes, of each kind.
func TestAllShortBodies(t *testing.T) {
	for kind := uint8(1); kind <= 5; kind++ {
		checkRead(t, of(kind, ""))
		for c := range 256 {
			checkRead(t, of(kind, string([]byte{byte(c)})))
			for d := range 256 {
				s := of(kind, string([]byte{byte(c), byte(d)}))
				r, n, e := wantNext(s)
				checkNext(t, s, r, n, e)
			}
		}
	}
}

// P16.2: a command's body is a command's bytes, all of them and no more.
func TestBodiesOfCommands(t *testing.T) {
	checkBad(t, 1, "")
	for _, f := range forms() {
		if f.kind != 1 {
			continue
		}
		for _, r := range []api.Request{plain(f), rich(f)} {
			body := bytesOf(r.Command)
			for i := range len(body) {
				checkRead(t, of(1, body[:i]))
			}
			checkBad(t, 1, body[:len(body)-1])
			checkBad(t, 1, body+"\x00")
			checkBad(t, 1, body+"x")
			checkBad(t, 1, body+body)
			checkBad(t, 1, body+strings.Repeat("\x00", maxPacket-len(body)))
			checkBad(t, 1, "\x00"+body)
		}
	}
	// A number in more bytes than it needs is none.
	checkBad(t, 1, "\x0b\x80\x00\x00\x00\x00\x00\x00\x00")
	checkBad(t, 1, "\x0b\x00\x00\x00\x00\x00\x00\x80\x00")
	checkBad(t, 1, "\x01\x00\x01\x81\x00a\x00\x00\x00\x00\x00")
	checkBad(t, 1, "\x06\x00\x01\x01a\x00\x00\x00\x00\xff\xff\xff\xff\xff\xff\xff\xff\xff\x02")
}

// P16.2: a command that has bytes, and may not be, is none; nor is one with a tenant.
func TestCommandsThatMayNotBe(t *testing.T) {
	k := []string{"k"}
	for _, c := range []api.Command{
		{}, {Kind: 12}, {Kind: 255, Keys: k}, {Kind: 1}, {Kind: 10}, {Kind: 2}, {Kind: 1, Keys: someKeys(9)}, {Kind: 10, Keys: someKeys(9)}, {Kind: 2, Keys: someKeys(2)}, {Kind: 11, Keys: k},
		{Kind: 1, Keys: []string{"a", "a"}}, {Kind: 10, Keys: []string{"a", "b", "a"}}, {Kind: 1, Keys: []string{""}}, {Kind: 2, Keys: []string{strings.Repeat("k", 33)}},
		{Kind: 1, Keys: k, Value: "v"}, {Kind: 6, Keys: k, Value: "v"}, {Kind: 9, Keys: k, Value: "v"}, {Kind: 10, Keys: k, Value: "v"}, {Kind: 11, Value: "v"}, {Kind: 2, Keys: k, Value: strings.Repeat("v", 513)},
		{Kind: 1, Keys: k, For: 1}, {Kind: 8, Keys: k, For: 1}, {Kind: 11, For: 1}, {Kind: 2, Keys: k, For: maxClock + 1}, {Kind: 9, Keys: k, For: -1},
		{Kind: 9, Keys: k, Flags: 1}, {Kind: 8, Keys: k, Flags: 1}, {Kind: 2, Keys: k, Unique: 1}, {Kind: 5, Keys: k, By: 1}, {Kind: 1, Keys: k, By: 1}, {Kind: 6, Keys: k, Unique: 1},
	} {
		checkBad(t, 1, bytesOf(c))
	}
	for _, f := range forms() {
		for _, r := range []api.Request{plain(f), rich(f)} {
			for _, tenant := range []int{1, 2, 3, 4, 127, 128, 300, top, -1} {
				r.Command.Tenant = tenant
				if f.kind == 1 {
					checkBad(t, 1, bytesOf(r.Command))
				}
			}
		}
	}
}

// P16.2: how many bytes a ReqBad has: the packet's, or, with Close, all.
func TestBytesOfReqBad(t *testing.T) {
	for many := range 200 {
		behind := strings.Repeat("\xb1", many)
		checkNext(t, of(4, "x")+behind, bad(false), 7, api.OK)
		checkNext(t, of(1, strings.Repeat("x", many))+behind, bad(false), 6+many, api.OK)
		checkNext(t, "\xb1\x06"+behind, bad(true), 2+many, api.OK)
		checkNext(t, "\xb0"+behind, bad(true), 1+many, api.OK)
		checkNext(t, "\xb1\x04\x00\x00\x10\x01"+behind, bad(true), 6+many, api.OK)
	}
}

// P16.2: bytes are held against MaxText ahead of all else.
func TestTooManyBytes(t *testing.T) {
	for _, s := range []string{"", of(4, ""), of(4, "x"), of(5, ""), of(2, "\x01s"), "\xb2", "\xb1\x06", "\xb1\x04\x00\x00\x10\x01"} {
		most := s + strings.Repeat("\x00", maxText-len(s))
		checkRead(t, most)
		for _, more := range []int{1, 2, maxText, 1 << 20} {
			long := most + strings.Repeat("\x00", more)
			checkNext(t, long, api.Request{}, 0, api.ErrText)
			checkAll(t, long, nil, 0, api.ErrText)
		}
	}
	checkNext(t, strings.Repeat("\x00", maxText), bad(true), maxText, api.OK)
	checkAll(t, strings.Repeat("\x00", maxText), []api.Request{bad(true)}, maxText, api.OK)
	pings := slices.Repeat([]api.Request{{Kind: 4}}, maxText/6)
	s := strings.Repeat(of(4, ""), maxText/6)
	checkAll(t, s, pings, len(s), api.OK)
	checkAll(t, s+of(4, "")[:maxText-len(s)], pings, len(s), api.OK)
	checkAll(t, s+of(4, ""), nil, 0, api.ErrText)
	whole := strings.Repeat(of(4, "x"), 4) + of(1, strings.Repeat("x", 4096)) + strings.Repeat(of(2, "\x03s"), 100)
	checkRead(t, whole)
}

// P16.2: All: none, one, several, and what is not there whole behind these.
func TestAll(t *testing.T) {
	get := ask(api.Command{Kind: 1, Keys: []string{"a", "b"}})
	login := api.Request{Kind: 2, Tenant: 1, Secret: "\xb1\x05\x00\x00\x00\x00"}
	ping, quit, on := api.Request{Kind: 4}, api.Request{Kind: 5}, api.Request{Kind: 3, On: true}
	s := func(l ...api.Request) string {
		var s string
		for _, r := range l {
			b, _ := wantWrite(r)
			s += b
		}
		return s
	}
	checkAll(t, "", nil, 0, api.OK)
	if l, n, e := binary.All(nil); len(l) != 0 || n != 0 || e != api.OK {
		t.Error(l, n, e)
	}
	checkAll(t, s(get), []api.Request{get}, 18, api.OK)
	checkAll(t, s(login, on, get, ping, ping), []api.Request{login, on, get, ping, ping}, 13+7+18+12, api.OK)
	for i := range len(s(get)) {
		checkAll(t, s(login, on)+s(get)[:i], []api.Request{login, on}, 20, api.OK)
		checkAll(t, s(get)[:i], nil, 0, api.OK)
	}
	wrong := of(4, "x")
	checkAll(t, s(get)+wrong+s(on)+wrong+wrong+s(ping), []api.Request{get, bad(false), on, bad(false), bad(false), ping}, 18+7+7+14+6, api.OK)
	checkAll(t, wrong+s(on, quit)+wrong, []api.Request{bad(false), on, quit}, 20, api.OK)
	for _, shut := range []string{"\xb2", "x", "\xb1\x00", "\xb1\x06", "\xb1\x01\x00\x00\x10\x01", "\xb1\x05\x00\x00\x10\x01"} {
		behind := shut + s(ping, quit, get)
		checkAll(t, s(login, on)+behind, []api.Request{login, on, bad(true)}, 20+len(behind), api.OK)
		checkAll(t, wrong+shut, []api.Request{bad(false), bad(true)}, 7+len(shut), api.OK)
		checkAll(t, s(ping, quit)+behind, []api.Request{ping, quit}, 12, api.OK)
	}
	checkAll(t, s(quit, quit, quit), []api.Request{quit}, 6, api.OK)
	checkAll(t, s(quit)+"\xb1", []api.Request{quit}, 6, api.OK)
	checkAll(t, of(5, "x")+s(ping), []api.Request{bad(false), ping}, 13, api.OK)
}

// P16.2: packets with any one or two bytes turned, left out or doubled.
func TestManyBlobs(t *testing.T) {
	r := rand.New(rand.NewSource(162))
	told := map[uint8]int{}
	shut := 0
	for range 30000 {
		s := randomBlob(r)
		checkRead(t, s)
		l, _, _ := wantAll(s)
		for _, q := range l {
			told[q.Kind]++
			if q.Close {
				shut++
			}
		}
	}
	for kind := uint8(1); kind <= 6; kind++ {
		if told[kind] < 1000 {
			t.Error("too few", kind, told)
		}
	}
	if shut < 1000 {
		t.Error("too few with Close", shut)
	}
}
