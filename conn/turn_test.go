package conn_test

import (
	"math/rand"
	"slices"
	"strings"
	"testing"

	"cloakroom/api"
	"cloakroom/conn"
)

// protos are the protocols that bytes may be read by, and what Proto may be ahead of that.
func protos() map[uint8][]uint8 {
	return map[uint8][]uint8{1: {0, 1}, 2: {0, 2}}
}

// P18.2: of one that is closed, or busy, or that has nothing to be read, nothing changes, not even its protocol.
func TestNoNext(t *testing.T) {
	for proto := range uint8(3) {
		for _, out := range []string{"", "xyz"} {
			for _, was := range []api.Conn{
				{}, {Closed: true}, {Busy: true}, {Busy: true, Ends: true}, {Busy: true, Rest: []byte("ping\r\nping\r\n")}, {Busy: true, Rest: []byte(ask(4, ""))}, {Busy: true, Rest: []byte("\xb1\x06")},
				{Logged: true, Tenant: 2}, {Logged: true, Tenant: 3, Busy: true, Rest: []byte("quit\r\n")}, {Logged: true, Tenant: 1, Closed: true},
			} {
				was.Proto, was.Out = proto, []byte(out)
				c, r, is := checkNext(t, was)
				if is || !sameRequest(r, api.Request{}) {
					t.Fatal(told(was), short(r), is)
				}
				are(t, c, was)
			}
		}
	}
}

// P18.2: the first byte tells the protocol, once: where it is told already, each byte is read by it.
func TestProtocol(t *testing.T) {
	for b := range 256 {
		first := string([]byte{byte(b)})
		c, _, is := checkNext(t, api.Conn{Rest: []byte(first)})
		if b == 177 {
			are(t, c, api.Conn{Proto: 2, Rest: []byte(first)})
		} else {
			are(t, c, api.Conn{Proto: 1, Rest: []byte(first)})
		}
		c, _, _ = checkNext(t, api.Conn{Proto: 1, Rest: []byte(first)})
		are(t, c, api.Conn{Proto: 1, Rest: []byte(first)})
		c, _, closes := checkNext(t, api.Conn{Proto: 2, Rest: []byte(first)})
		if is || closes != (b != 177) || c.Proto != 2 {
			t.Fatal(b, is, closes, told(c))
		}
		line, packet := first+"\r\nping\r\n", first+"\x04\x00\x00\x00\x00ping\r\n"
		for proto, is := range map[uint8]bool{0: b == 177, 1: false, 2: true} {
			c, r, _ := checkNext(t, api.Conn{Proto: proto, Rest: []byte(line)})
			if !is && !(r.Kind == 6 && !r.Close && string(c.Rest) == "ping\r\n" && c.Proto == 1) {
				t.Fatal(b, proto, short(r), told(c))
			}
			c, r, _ = checkNext(t, api.Conn{Proto: proto, Rest: []byte(packet)})
			if is && b == 177 && !(r.Kind == 4 && string(c.Rest) == "ping\r\n" && c.Proto == 2) {
				t.Fatal(b, proto, short(r), told(c))
			}
		}
	}
}

// checkTaken ends the test unless a connection's next request is this one, and these bytes are left.
func checkTaken(t *testing.T, was api.Conn, proto uint8, x sample, behind string) {
	t.Helper()
	c, r, is := checkNext(t, was)
	ends := x.r.Kind == 5 || x.r.Close
	want := x.r
	if want.Kind == 1 {
		want.Command.Tenant = was.Tenant
	}
	if !is || !sameRequest(r, want) {
		t.Fatalf("%s: %s, %t, want %s", told(was), short(r), is, short(want))
	}
	left := copied(was)
	left.Proto, left.Busy, left.Ends, left.Rest = proto, true, ends, []byte(behind)
	if ends {
		left.Rest = nil
	}
	are(t, c, left)
}

// P18.2: every kind of request, in both protocols, whatever stands behind it; a command is its connection's tenant's, all others are as they came.
func TestEachRequest(t *testing.T) {
	whose := []api.Conn{{}, {Logged: true}, {Logged: true, Tenant: 1}, {Logged: true, Tenant: 2}, {Logged: true, Tenant: 3}}
	for proto, is := range protos() {
		for _, x := range slices.Concat(commands(), others(), lasts()) {
			for _, behind := range []string{"", "x", "\r\n", "ping\r\n", "quit\r\n", ask(4, ""), "\xb2", x.by(proto), strings.Repeat("get a\r\n", 500)} {
				for _, was := range whose {
					was.Rest = []byte(x.by(proto) + behind)
					was.Out = []byte("o" + behind[:len(behind)/2])
					for _, was.Proto = range is {
						if first, _, _, _ := wantNext(was); first.Proto == proto { // a line may begin as a packet does, and the other way round
							checkTaken(t, was, proto, x, behind)
						}
					}
				}
			}
		}
	}
}

// P18.2: a request that is not there whole is waited for; its protocol is told by then, and nothing is gone.
func TestNotWhole(t *testing.T) {
	for proto, is := range protos() {
		for _, x := range slices.Concat(commands(), others(), lasts()[:1]) {
			s := x.by(proto)
			for i := 1; i < len(s); i++ {
				for _, was := range is {
					c := api.Conn{Proto: was, Rest: []byte(s[:i]), Logged: true, Tenant: 1, Out: []byte("o")}
					want := copied(c)
					want.Proto = proto
					c, r, whole := checkNext(t, c)
					if whole || !sameRequest(r, api.Request{}) {
						t.Fatal(short(s[:i]), short(r))
					}
					are(t, c, want)
					c, _, _ = checkNext(t, c)
					are(t, c, want)
					checkTaken(t, checkFeed(t, c, s[i:]), proto, x, "")
				}
			}
		}
	}
	for many := 1; many < 514; many++ {
		c, _, is := checkNext(t, api.Conn{Rest: []byte(strings.Repeat("x", many))})
		if is || len(c.Rest) != many || c.Proto != 1 || c.Busy {
			t.Fatal(many, told(c))
		}
	}
}

// P18.2: requests that come one behind the other are told one behind the other.
func TestOneBehindTheOther(t *testing.T) {
	for proto := range protos() {
		l := slices.Concat(commands(), others(), commands(), lasts()[:1])
		s := ""
		for _, x := range l {
			s += x.by(proto)
		}
		c := checkFeed(t, api.Conn{}, s)
		for _, x := range l {
			s = s[len(x.by(proto)):]
			checkTaken(t, c, proto, x, s)
			c, _, _ = checkNext(t, c)
			c = checkAnswer(t, c, api.Answer{Kind: 6})
			c, _ = checkSend(t, c, maxOut)
		}
		are(t, c, api.Conn{Proto: proto, Closed: true})
	}
}

// P18.2: as many bytes as a connection may have never hide a request: one is there whole, or what is there is none.
func TestNextOfMuch(t *testing.T) {
	for _, s := range []string{strings.Repeat("x", maxText), strings.Repeat("\xb1", maxText), "\xb1\x04\x00\x00\x10\x00" + strings.Repeat("x", maxText-6), "ping\r\n" + strings.Repeat("x", maxText-6), strings.Repeat("\r\n", maxText/2)} {
		for proto := range uint8(3) {
			c, r, is := checkNext(t, api.Conn{Proto: proto, Rest: []byte(s)})
			if !is || r.Close && (!c.Ends || len(c.Rest) != 0) || !r.Close && (c.Ends || len(c.Rest) == 0) {
				t.Fatal(short(s), short(r), told(c))
			}
		}
	}
}

// checkGiven ends the test unless an answer's bytes stand behind those that wait.
func checkGiven(t *testing.T, was api.Conn, x reply) {
	t.Helper()
	c := checkAnswer(t, was, x.a)
	want := copied(was)
	want.Out = []byte(string(was.Out) + x.by(was.Proto))
	if x.a.Kind != 7 {
		want.Busy, want.Ends, want.Closed = false, false, was.Ends
	}
	are(t, c, want)
}

// P18.3: each answer, in each protocol, to one that is busy, and to one that ends; pushes also to one that is not busy.
func TestEachAnswer(t *testing.T) {
	for proto := range uint8(3) {
		for _, out := range []string{"", "x", "PONG\r\n"} {
			busy := api.Conn{Proto: proto, Rest: []byte("ping\r\n"), Logged: true, Tenant: 2, Busy: true, Out: []byte(out)}
			ends := api.Conn{Proto: proto, Logged: true, Tenant: 1, Busy: true, Ends: true, Out: []byte(out)}
			idle := api.Conn{Proto: proto, Rest: []byte("pi"), Logged: true, Tenant: 3, Out: []byte(out)}
			for _, x := range replies() {
				checkGiven(t, busy, x)
				checkGiven(t, ends, x)
				if c, e := conn.Answer(idle, x.a); e != api.ErrArg || !same(c, api.Conn{}) {
					t.Fatal(short(x.a), told(c), e)
				}
			}
			for _, x := range pushes() {
				checkGiven(t, busy, x)
				checkGiven(t, ends, x)
				checkGiven(t, idle, x)
			}
		}
	}
}

// P18.3: what can't be written is refused by the error of what would write it, ahead of one that is not busy.
func TestAnswersThatAreRefused(t *testing.T) {
	refused := func(c api.Conn, a api.Answer, want api.Errno) {
		t.Helper()
		if x, e := conn.Answer(c, a); e != want || !same(x, api.Conn{}) {
			t.Fatalf("Answer(%s, %s): %s, error %d, want %d", told(c), short(a), told(x), e, want)
		}
	}
	for _, was := range []api.Conn{{}, {Busy: true}, {Busy: true, Ends: true}, {Out: make([]byte, maxOut)}, {Busy: true, Out: make([]byte, maxOut)}, {Logged: true, Tenant: 2, Rest: []byte("x")}} {
		for was.Proto = range uint8(3) {
			for _, a := range noAnswers() {
				refused(was, a, api.ErrBad)
			}
			seen, most := result(1, 1, 0, api.Item{Key: "a b"}), full(4097)
			if was.Proto == 2 {
				refused(was, most, api.ErrText)
				refused(was, full(4156), api.ErrText)
				checkAnswer(t, was, push("a b"))
				if !was.Busy {
					refused(was, seen, api.ErrArg)
				}
				continue
			}
			refused(was, seen, api.ErrBad)
			for _, key := range []string{"a b", " ", "\r", "\n", "\x7f", "\xb2", "k\x00"} {
				refused(was, push(key), api.ErrBad)
			}
			if !was.Busy {
				refused(was, most, api.ErrArg)
			}
		}
	}
}

// P18.3: MaxOut bytes may wait; one more cuts it off, whatever the answer.
func TestAnswersAtTheEdge(t *testing.T) {
	for proto := range uint8(3) {
		for _, x := range slices.Concat(replies(), pushes()) {
			many := len(x.by(proto))
			for _, was := range []api.Conn{{Busy: true}, {Busy: true, Rest: []byte("ping\r\n"), Logged: true, Tenant: 3}, {Busy: true, Ends: true, Logged: true}} {
				was.Proto = proto
				was.Out = []byte(strings.Repeat("o", maxOut-many))
				checkGiven(t, was, x)
				for more := 1; more <= many; more += many - 1 {
					was.Out = []byte(strings.Repeat("o", maxOut-many+more))
					are(t, checkAnswer(t, was, x.a), api.Conn{Proto: proto, Logged: was.Logged, Tenant: was.Tenant, Closed: true})
				}
			}
		}
		for _, x := range pushes() {
			was := api.Conn{Proto: proto, Rest: []byte("pi"), Out: []byte(strings.Repeat("o", maxOut-len(x.by(proto))))}
			checkGiven(t, was, x)
			was.Out = append(was.Out, 'o')
			are(t, checkAnswer(t, was, x.a), api.Conn{Proto: proto, Closed: true})
		}
	}
}

// P18.3: one answer may be too much alone, in both protocols.
func TestLongAnswers(t *testing.T) {
	for _, ends := range []bool{false, true} {
		was := api.Conn{Busy: true, Ends: ends}
		for proto, most := range []int{3983, 3983, 4090} {
			was.Proto = uint8(proto)
			for many := most - 3; many <= most; many++ {
				c := checkAnswer(t, was, full(many))
				if len(c.Out) != maxOut-most+many || c.Busy || c.Closed != ends {
					t.Fatal(many, told(c))
				}
			}
			for many := most + 1; many <= 4096; many++ {
				are(t, checkAnswer(t, was, full(many)), api.Conn{Proto: uint8(proto), Closed: true})
			}
		}
	}
}

// P18.3: one that is closed is given nothing, and refuses nothing, whatever the answer.
func TestAnswersToTheClosed(t *testing.T) {
	for proto := range uint8(3) {
		for _, was := range []api.Conn{{Closed: true}, {Closed: true, Out: []byte("BYE\r\n")}, {Closed: true, Logged: true, Tenant: 3, Out: make([]byte, maxOut)}} {
			was.Proto = proto
			for _, x := range slices.Concat(replies(), pushes()) {
				are(t, checkAnswer(t, was, x.a), was)
			}
			for _, a := range append(noAnswers(), full(4097), full(4156), push("a b")) {
				c, e := conn.Answer(was, a)
				if e != api.OK {
					t.Fatal(short(a), e)
				}
				are(t, c, was)
			}
		}
	}
}

// P18.3: pushes may come at any moment, and answer nothing: the request stays under way.
func TestPushes(t *testing.T) {
	r := rand.New(rand.NewSource(184))
	for proto := range protos() {
		for range 200 {
			c := api.Conn{Proto: proto}
			out := ""
			c = checkFeed(t, c, sample{lines: "ping\r\n", packet: ask(4, "")}.by(proto))
			for step := range 3 {
				for range r.Intn(4) {
					x := pushes()[r.Intn(2)]
					busy := c.Busy
					c, out = checkAnswer(t, c, x.a), out+x.by(proto)
					if c.Busy != busy || c.Closed {
						t.Fatal(told(c))
					}
				}
				switch step {
				case 0:
					c, _, _ = checkNext(t, c)
				case 1:
					c, out = checkAnswer(t, c, api.Answer{Kind: 4}), out+reply{lines: "PONG\r\n", packet: tell(4, "")}.by(proto)
				}
			}
			are(t, c, api.Conn{Proto: proto, Out: []byte(out)})
		}
	}
}
