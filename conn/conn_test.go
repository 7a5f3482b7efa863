package conn_test

import (
	"math/rand"
	"slices"
	"strings"
	"testing"

	"cloakroom/api"
	"cloakroom/conn"
)

// are ends the test unless a connection is what is written out.
func are(t *testing.T, c, want api.Conn) {
	t.Helper()
	if !same(c, want) {
		t.Fatalf("%s, want %s", told(c), told(want))
	}
}

// P18.1 to P18.3: the chapter's examples.
func TestExamples(t *testing.T) {
	c := checkFeed(t, api.Conn{}, "ping\r\n")
	are(t, c, api.Conn{Rest: []byte("ping\r\n")})
	c, r, is := checkNext(t, c)
	if r.Kind != api.ReqPing || !is {
		t.Fatal(short(r), is)
	}
	are(t, c, api.Conn{Proto: 1, Busy: true})
	c, r, is = checkNext(t, c)
	if is || r.Kind != 0 {
		t.Fatal(short(r), is)
	}
	c = checkAnswer(t, c, api.Answer{Kind: api.AnsPing})
	are(t, c, api.Conn{Proto: 1, Out: []byte("PONG\r\n")})
	c, s := checkSend(t, c, 3)
	c, behind := checkSend(t, c, 9)
	if s != "PON" || behind != "G\r\n" {
		t.Fatal(s, behind)
	}
	are(t, c, api.Conn{Proto: 1})

	c = checkFeed(t, api.Conn{}, string([]byte{177, 4, 0, 0, 0, 0}))
	c, r, is = checkNext(t, c)
	if r.Kind != api.ReqPing || !is {
		t.Fatal(short(r), is)
	}
	c = checkAnswer(t, c, api.Answer{Kind: api.AnsPing})
	if c, s = checkSend(t, c, 9); s != string([]byte{178, 4, 0, 0, 0, 0}) {
		t.Fatal(short(s))
	}
	are(t, c, api.Conn{Proto: 2})

	c = checkFeed(t, api.Conn{}, "quit\r\nping\r\n")
	c, r, is = checkNext(t, c)
	if r.Kind != api.ReqQuit || !is {
		t.Fatal(short(r), is)
	}
	are(t, c, api.Conn{Proto: 1, Busy: true, Ends: true})
	c = checkAnswer(t, c, api.Answer{Kind: api.AnsBye})
	c = checkFeed(t, c, "x")
	c, r, is = checkNext(t, c)
	if is || r.Kind != 0 {
		t.Fatal(short(r), is)
	}
	are(t, c, api.Conn{Proto: 1, Closed: true, Out: []byte("BYE\r\n")})
}

// P18.1: which may be, written out: each thing that may not be alone, at its edge, and one beyond.
func TestCheck(t *testing.T) {
	some := func(many int) []byte { return make([]byte, many) }
	for i, c := range []api.Conn{
		{}, {Proto: 1}, {Proto: 2}, {Rest: some(maxText)}, {Out: some(maxOut)}, {Rest: []byte{}, Out: []byte{}, Closed: true}, {Rest: []byte{}, Busy: true, Ends: true},
		{Logged: true}, {Logged: true, Tenant: 1}, {Logged: true, Tenant: 2}, {Logged: true, Tenant: 3},
		{Busy: true}, {Busy: true, Rest: some(maxText)}, {Busy: true, Ends: true}, {Closed: true}, {Closed: true, Out: some(maxOut)},
		{Proto: 2, Rest: some(maxText), Logged: true, Tenant: 3, Busy: true, Out: some(maxOut)}, {Proto: 1, Logged: true, Tenant: 3, Busy: true, Ends: true, Out: some(maxOut)}, {Proto: 2, Logged: true, Tenant: 3, Closed: true, Out: some(maxOut)},
	} {
		if e := conn.Check(c); e != api.OK {
			t.Error(i, told(c), e)
		}
	}
	for i, c := range []api.Conn{
		{Proto: 3}, {Proto: 4}, {Proto: 177}, {Proto: 255}, {Rest: some(maxText + 1)}, {Rest: some(1 << 20)}, {Out: some(maxOut + 1)}, {Out: some(1 << 20)},
		{Busy: true, Ends: true, Rest: some(1)}, {Closed: true, Rest: some(1)}, {Busy: true, Ends: true, Rest: some(maxText)}, {Closed: true, Rest: some(maxText)},
		{Logged: true, Tenant: -1}, {Logged: true, Tenant: 4}, {Logged: true, Tenant: least}, {Logged: true, Tenant: top}, {Tenant: -1}, {Tenant: 1}, {Tenant: 3}, {Tenant: 4}, {Tenant: top},
		{Ends: true}, {Closed: true, Busy: true}, {Closed: true, Ends: true}, {Closed: true, Busy: true, Ends: true}, {Closed: true, Out: some(maxOut + 1)}, {Busy: true, Rest: some(maxText + 1)},
	} {
		if e := conn.Check(c); e != api.ErrBad {
			t.Error(i, told(c), e)
		}
		checkAll(t, c)
	}
}

// P18.1: that a connection may not be counts ahead of all else, and nothing is told beside it.
func TestWhatMayNotBeCountsFirst(t *testing.T) {
	none := func(i int, c api.Conn, e api.Errno) {
		t.Helper()
		if c.Rest != nil || c.Out != nil || !same(c, api.Conn{}) || e != api.ErrBad {
			t.Error(i, told(c), e)
		}
	}
	for i, bad := range []api.Conn{
		{Proto: 3}, {Proto: 2, Rest: make([]byte, maxText+1), Logged: true}, {Out: make([]byte, maxOut+1), Busy: true}, {Tenant: 1}, {Logged: true, Tenant: 4},
		{Ends: true, Out: []byte("x")}, {Closed: true, Busy: true}, {Closed: true, Rest: []byte("ping\r\n")}, {Closed: true, Out: make([]byte, maxOut+1)},
	} {
		for _, b := range [][]byte{nil, []byte("x"), make([]byte, maxText), make([]byte, maxText+1), make([]byte, 1<<20)} {
			c, e := conn.Feed(bad, b)
			none(i, c, e)
		}
		c, r, is, e := conn.Next(bad)
		none(i, c, e)
		if !sameRequest(r, api.Request{}) || is {
			t.Error(i, short(r), is)
		}
		for _, tenant := range []int{least, -1, 0, 3, 4, top} {
			c, e := conn.Login(bad, tenant)
			none(i, c, e)
		}
		for _, a := range append(noAnswers(), full(4156), push("a b"), push("k"), api.Answer{Kind: 4}) {
			c, e := conn.Answer(bad, a)
			none(i, c, e)
		}
		for _, many := range []int{least, -1, 0, 1, top} {
			c, b, e := conn.Send(bad, many)
			none(i, c, e)
			if len(b) != 0 {
				t.Error(i, short(b))
			}
		}
	}
}

// every calls f with each connection that can be made of these fields, edges of all of them beside one another.
func every(f func(api.Conn)) {
	truths := []bool{false, true}
	for _, proto := range []uint8{0, 1, 2, 3, 255} {
		for _, tenant := range []int{-1, 0, 1, 3, 4} {
			for bits := range 16 {
				c := api.Conn{Proto: proto, Tenant: tenant, Logged: truths[bits&1], Busy: truths[bits>>1&1], Ends: truths[bits>>2&1], Closed: truths[bits>>3]}
				for _, rest := range []string{"", "\xb1", "get a\r\nget b\r\n", ask(4, "") + ask(4, "x"), strings.Repeat("p", maxText), strings.Repeat("p", maxText+1)} {
					for _, out := range []int{0, 6, maxOut - 1, maxOut, maxOut + 1} {
						c.Rest, c.Out = []byte(rest), []byte(strings.Repeat("o", out))
						f(c)
					}
				}
			}
		}
	}
}

// P18.1 to P18.3: every function, of connections of all sorts, as the model tells.
func TestEveryConnection(t *testing.T) {
	many := map[api.Errno]int{}
	every(func(c api.Conn) {
		many[conn.Check(c)]++
		if e := conn.Check(c); e != wantCheck(c) {
			t.Fatalf("Check %s: error %d, want %d", told(c), e, wantCheck(c))
		}
		if len(c.Rest) < maxText && (wantCheck(c) == api.OK || len(c.Rest)+len(c.Out) < 100) {
			checkAll(t, c)
		}
	})
	if many[api.OK] < 500 || many[api.ErrBad] < 5000 {
		t.Error("too few", many)
	}
}

// P18.1: what is fed stands behind what is there; all else stays.
func TestFeed(t *testing.T) {
	for proto := range uint8(3) {
		for _, busy := range []bool{false, true} {
			was := api.Conn{Proto: proto, Rest: []byte("ab"), Logged: true, Tenant: 2, Busy: busy, Out: []byte("xyz")}
			for _, b := range []string{"", "c", "\r\n", "\xb1\x00", strings.Repeat("c", maxText-2)} {
				want := copied(was)
				want.Rest = []byte("ab" + b)
				are(t, checkFeed(t, was, b), want)
			}
			for _, b := range []string{strings.Repeat("c", maxText-1), strings.Repeat("c", maxText)} {
				are(t, checkFeed(t, was, b), api.Conn{Proto: proto, Logged: true, Tenant: 2, Closed: true})
			}
			if c, e := conn.Feed(was, []byte(strings.Repeat("c", maxText+1))); e != api.ErrText || !same(c, api.Conn{}) {
				t.Error(told(c), e)
			}
		}
	}
	are(t, checkFeed(t, api.Conn{}, ""), api.Conn{})
	are(t, checkFeed(t, api.Conn{}, "\xb1"), api.Conn{Rest: []byte("\xb1")})
	are(t, checkFeed(t, api.Conn{}, strings.Repeat("x", maxText)), api.Conn{Rest: []byte(strings.Repeat("x", maxText))})
	if c, e := conn.Feed(api.Conn{}, nil); e != api.OK || !same(c, api.Conn{}) {
		t.Error(told(c), e)
	}
}

// P18.1: at MaxText bytes a connection still takes none, and one more cuts it off.
func TestFeedAtTheEdge(t *testing.T) {
	for many := range 20 {
		for _, busy := range []bool{false, true} {
			was := api.Conn{Rest: make([]byte, maxText-many), Busy: busy, Out: []byte("x")}
			if c := checkFeed(t, was, strings.Repeat("y", many)); c.Closed || c.Busy != busy || len(c.Rest) != maxText || string(c.Out) != "x" {
				t.Fatal(many, told(c))
			}
			are(t, checkFeed(t, was, strings.Repeat("y", many+1)), api.Conn{Closed: true})
			are(t, checkFeed(t, was, strings.Repeat("y", maxText)), api.Conn{Closed: true})
		}
	}
	are(t, checkFeed(t, api.Conn{Proto: 2, Rest: make([]byte, 1), Busy: true}, strings.Repeat("y", maxText)), api.Conn{Proto: 2, Closed: true})
}

// P18.1: one that ends, or is closed, takes nothing, however much it is; too much is told nevertheless.
func TestFeedOfWhatTakesNothing(t *testing.T) {
	for _, was := range []api.Conn{
		{Closed: true}, {Proto: 1, Closed: true, Logged: true, Tenant: 3, Out: []byte("BYE\r\n")}, {Closed: true, Out: make([]byte, maxOut)},
		{Busy: true, Ends: true}, {Proto: 2, Busy: true, Ends: true, Logged: true, Tenant: 1, Out: []byte("x")},
	} {
		for _, b := range []string{"", "x", "ping\r\n", strings.Repeat("x", maxText)} {
			are(t, checkFeed(t, was, b), was)
		}
		if c, e := conn.Feed(was, make([]byte, maxText+1)); e != api.ErrText || !same(c, api.Conn{}) {
			t.Error(told(c), e)
		}
	}
}

// P18.2: who logs in, and as whom.
func TestLogin(t *testing.T) {
	rest, out := []byte("get a\r\n"), []byte("xyz")
	for _, was := range []api.Conn{{}, {Proto: 1, Rest: rest, Out: out}, {Proto: 2, Busy: true, Rest: rest}, {Busy: true, Ends: true, Out: out}, {Logged: true, Tenant: 2, Rest: rest}, {Logged: true}, {Logged: true, Tenant: 3, Busy: true}} {
		for tenant := range 4 {
			want := copied(was)
			want.Logged, want.Tenant = true, tenant
			are(t, checkLogin(t, was, tenant), want)
		}
	}
	for _, was := range []api.Conn{{Closed: true}, {Proto: 2, Closed: true, Out: out}, {Closed: true, Logged: true, Tenant: 3}} {
		for tenant := range 4 {
			are(t, checkLogin(t, was, tenant), was)
		}
	}
	for _, was := range []api.Conn{{}, {Rest: rest, Out: out}, {Logged: true, Tenant: 2}, {Busy: true, Ends: true}, {Closed: true}, {Closed: true, Logged: true, Tenant: 2, Out: out}} {
		for _, tenant := range []int{least, -2, -1, 4, 5, top} {
			if c, e := conn.Login(was, tenant); e != api.ErrArg || !same(c, api.Conn{}) {
				t.Error(tenant, told(c), e)
			}
		}
	}
}

// P18.3: so many bytes are sent as are asked, or as there are.
func TestSend(t *testing.T) {
	for _, was := range []api.Conn{{}, {Proto: 1, Rest: []byte("get a\r\n"), Logged: true, Tenant: 2}, {Proto: 2, Busy: true, Rest: []byte("x")}, {Busy: true, Ends: true}, {Proto: 1, Closed: true}, {Closed: true, Logged: true, Tenant: 3}} {
		for _, out := range []string{"", "x", "PONG\r\n", strings.Repeat("abcd", maxOut/4)} {
			was.Out = []byte(out)
			for _, many := range []int{0, 1, 2, len(out) / 2, len(out) - 1, len(out), len(out) + 1, 2 * len(out), maxOut, top} {
				if many < 0 {
					continue
				}
				c, s := checkSend(t, was, many)
				if len(s) != min(many, len(out)) || s+string(c.Out) != out {
					t.Fatal(many, short(s), told(c))
				}
				c.Out = was.Out
				are(t, c, was)
			}
			for _, many := range []int{-1, -2, least} {
				if c, b, e := conn.Send(was, many); e != api.ErrArg || !same(c, api.Conn{}) || len(b) != 0 {
					t.Error(many, told(c), b, e)
				}
			}
		}
	}
}

// P18.3: again and again, until nothing waits.
func TestSendAll(t *testing.T) {
	r := rand.New(rand.NewSource(183))
	for range 300 {
		out := make([]byte, r.Intn(maxOut+1)>>r.Intn(10))
		r.Read(out)
		was := api.Conn{Proto: 1, Out: out, Closed: r.Intn(2) == 0}
		c, sent := was, ""
		for len(c.Out) > 0 {
			many := 1 + r.Intn(1+len(out))
			if r.Intn(3) == 0 {
				many = 1 + r.Intn(100)
			}
			next, s := checkSend(t, c, many)
			c, sent = next, sent+s
		}
		if sent != string(out) {
			t.Fatalf("%s, want %s", short(sent), short(string(out)))
		}
		for _, many := range []int{0, 1, maxOut} {
			if next, s := checkSend(t, c, many); s != "" || !same(next, c) {
				t.Fatal(short(s), told(next))
			}
		}
		was.Out = nil
		are(t, c, was)
	}
}

// P18.1 to P18.3: connections of all sorts, of whatever origin, and all that may be done to them.
func TestManyConnections(t *testing.T) {
	r := rand.New(rand.NewSource(181))
	wrong := 0
	for range 4000 {
		c := randomConn(r)
		if conn.Check(c) != api.OK {
			wrong++
		}
		checkAll(t, c)
		for _, a := range slices.Concat([]api.Answer{randomAnswer(r), randomAnswer(r)}, noAnswers()) {
			checkAnswer(t, c, a)
		}
	}
	if wrong < 100 || wrong > 2000 {
		t.Error(wrong)
	}
}

// P18.1 to P18.3: long lives of connections, in whatever order things are done to them.
func TestLongLives(t *testing.T) {
	r := rand.New(rand.NewSource(182))
	closed := 0
	for range 1500 {
		c := api.Conn{}
		for range 1 + r.Intn(60) {
			c = randomStep(t, r, c)
		}
		if c.Closed {
			closed++
		}
	}
	if closed < 100 || closed > 1400 {
		t.Error(closed)
	}
}
