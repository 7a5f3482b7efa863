package conn_test

import (
	"bytes"
	"math/rand"
	"slices"
	"strings"
	"testing"

	"cloakroom/api"
	"cloakroom/binary"
	"cloakroom/conn"
	"cloakroom/text"
)

// roomy is a list with spare room behind it, in which something stands.
func roomy[T any](l []T, behind ...T) []T {
	return append(slices.Clone(l), behind...)[:len(l)]
}

// whole is a list with its spare room, as new memory.
func whole[T any](l []T) []T { return slices.Clone(l[:cap(l)]) }

// roomyConn is a connection whose lists have spare room.
func roomyConn(c api.Conn) api.Conn {
	c.Rest, c.Out = roomy(c.Rest, []byte("\n\r\nping\r\n")...), roomy(c.Out, []byte("more")...)
	return c
}

// P18.4: what is handed in is only read, its spare room neither changed nor told.
func TestWhatIsHandedInIsOnlyRead(t *testing.T) {
	r := rand.New(rand.NewSource(185))
	for range 3000 {
		c := roomyConn(randomConn(r))
		rest, out := whole(c.Rest), whole(c.Out)
		b := roomy([]byte(randomBlob(r, 1, r.Intn(3))), []byte("quit\r\n")...)
		was := whole(b)
		want, wantE := wantFeed(c, string(b))
		x, e := conn.Feed(c, b)
		checkIs(t, "Feed", string(b), c, x, want, e, wantE)
		checkNext(t, c)
		checkLogin(t, c, r.Intn(4))
		checkSend(t, c, r.Intn(1+2*len(c.Out)))
		a := randomAnswer(r)
		a.Result.Items = roomy(a.Result.Items, api.Item{Key: "x"}, api.Item{})
		items := whole(a.Result.Items)
		checkAnswer(t, c, a)
		conn.Check(c)
		if !bytes.Equal(whole(c.Rest), rest) || !bytes.Equal(whole(c.Out), out) || !bytes.Equal(whole(b), was) || !slices.Equal(whole(a.Result.Items), items) {
			t.Fatalf("%s changed", told(c))
		}
	}
}

// apart ends the test unless lists share no memory, their spare room neither: each is spoilt, and the others stay.
func apart(t *testing.T, what string, lists ...[]byte) {
	t.Helper()
	var was [][]byte
	for _, l := range lists {
		was = append(was, whole(l))
	}
	for i, l := range lists {
		room := l[:cap(l)]
		for at := range room {
			room[at] ^= 255
		}
		for j, other := range lists {
			if j != i && !bytes.Equal(whole(other), was[j]) {
				t.Fatalf("%s: list %d has memory of list %d", what, j, i)
			}
		}
		copy(room, was[i])
	}
}

// P18.4: Rest, Out and what is sent are new memory, none of it the other's, nor that of what is told once more.
func TestAnswersAreNewMemory(t *testing.T) {
	r := rand.New(rand.NewSource(186))
	for range 1500 {
		c := roomyConn(randomConn(r))
		b := roomy([]byte(randomBlob(r, 1, r.Intn(3))), 'x', 'y')
		x, _ := conn.Feed(c, b)
		y, _ := conn.Feed(c, b)
		apart(t, "Feed", c.Rest, c.Out, b, x.Rest, x.Out, y.Rest, y.Out)
		x, _, _, _ = conn.Next(c)
		y, _, _, _ = conn.Next(c)
		apart(t, "Next", c.Rest, c.Out, x.Rest, x.Out, y.Rest, y.Out)
		tenant := r.Intn(4)
		x, _ = conn.Login(c, tenant)
		y, _ = conn.Login(c, tenant)
		apart(t, "Login", c.Rest, c.Out, x.Rest, x.Out, y.Rest, y.Out)
		a := randomAnswer(r)
		x, _ = conn.Answer(c, a)
		y, _ = conn.Answer(c, a)
		apart(t, "Answer", c.Rest, c.Out, x.Rest, x.Out, y.Rest, y.Out)
		many := r.Intn(2 + 2*len(c.Out))
		x, sent, _ := conn.Send(c, many)
		y, again, _ := conn.Send(c, many)
		apart(t, "Send", c.Rest, c.Out, x.Rest, x.Out, sent, y.Rest, y.Out, again)
	}
}

// P18.4: so is a request: what it was read of may change, and so may its keys.
func TestRequestsAreNewMemory(t *testing.T) {
	for proto := range protos() {
		for _, x := range commands() {
			c := roomyConn(api.Conn{Rest: []byte(x.by(proto) + x.by(proto))})
			y, r, _, _ := conn.Next(c)
			_, other, _, _ := conn.Next(c)
			y, _ = conn.Answer(y, api.Answer{Kind: 6})
			_, behind, _, _ := conn.Next(y)
			for i := range c.Rest {
				c.Rest[i] ^= 255
			}
			for i := range y.Rest {
				y.Rest[i] ^= 255
			}
			room := other.Command.Keys[:cap(other.Command.Keys)]
			for i := range room {
				room[i] = "spoilt"
			}
			if !sameRequest(r, x.r) || !sameRequest(behind, x.r) {
				t.Fatalf("%s, %s, want %s", short(r), short(behind), short(x.r))
			}
		}
	}
}

// P18.4: lists that are handed in may have memory in common: nothing grows into another one.
func TestListsOfOneArray(t *testing.T) {
	r := rand.New(rand.NewSource(187))
	for range 2000 {
		all := []byte(randomBlob(r, uint8(1+r.Intn(2)), 2+r.Intn(4)))
		i, j := r.Intn(len(all)+1), r.Intn(len(all)+1)
		i, j = min(i, j), max(i, j)
		was := string(all)
		c := api.Conn{Rest: all[:i], Out: all[i:j], Busy: r.Intn(2) == 0}
		if r.Intn(2) == 0 {
			c.Rest, c.Out = c.Out, c.Rest
		}
		b := all[j:]
		want, _ := wantFeed(c, string(b))
		x, e := conn.Feed(c, b)
		checkIs(t, "Feed", string(b), c, x, want, e, api.OK)
		checkNext(t, c)
		checkAnswer(t, c, push("k"))
		x, sent, _ := conn.Send(c, len(c.Out)/2)
		apart(t, "Send", all, x.Rest, x.Out, sent)
		if string(all) != was {
			t.Fatalf("%s changed to %s", short(was), short(string(all)))
		}
	}
}

// P18.4, R2: what is told hangs on the arguments alone, whatever other connections do meanwhile.
func TestAskedAgain(t *testing.T) {
	r := rand.New(rand.NewSource(188))
	l := []api.Conn{{}, {}, {}, {Proto: 2}}
	for range 3000 {
		i := r.Intn(len(l))
		was := copied(l[i])
		next := randomStep(t, r, l[i])
		if !same(l[i], was) {
			t.Fatalf("%s changed to %s", told(was), told(l[i]))
		}
		checkAll(t, l[i])
		if l[i] = next; next.Closed && r.Intn(4) == 0 {
			l[i] = api.Conn{}
		}
	}
}

// replyTo is what a request is answered, the at-th one: it hangs on these two alone.
func replyTo(q api.Request, at int) reply {
	l := replies()
	switch q.Kind {
	case 1:
		return l[(at*5+int(q.Command.Kind)+q.Command.Tenant)%14]
	case 2:
		if q.Secret == "s" || at%3 == 0 {
			return l[14]
		}
		return l[15]
	case 3:
		return l[16+at%2]
	}
	return l[18+int(q.Kind)-4]
}

// talk is a connection under way: the requests that it told, whose answers are given but for the last one's while that is under way, and what was sent.
type talk struct {
	t     *testing.T
	c     api.Conn
	asked []api.Request
	sent  string
}

// turn takes the next request, or answers the one that is under way; false: there was neither.
func (w *talk) turn() bool {
	w.t.Helper()
	c, r, is := checkNext(w.t, w.c)
	if w.c.Busy {
		if is || !same(c, w.c) {
			w.t.Fatalf("%s told another request ahead of its answer", told(w.c))
		}
		w.answer()
		return true
	}
	if w.c = c; is {
		w.asked = append(w.asked, r)
	}
	return is
}

func (w *talk) answer() {
	w.t.Helper()
	q := w.asked[len(w.asked)-1]
	x := replyTo(q, len(w.asked)-1)
	if x.a.Kind == 2 && x.a.Yes {
		w.c = checkLogin(w.t, w.c, q.Tenant)
	}
	w.c = checkAnswer(w.t, w.c, x.a)
}

func (w *talk) send(many int) {
	w.t.Helper()
	c, s := checkSend(w.t, w.c, many)
	w.c, w.sent = c, w.sent+s
}

// rest goes on until nothing is left to be done.
func (w *talk) rest() {
	w.t.Helper()
	for w.turn() {
	}
	w.send(maxOut)
}

// wantTalk is what comes of bytes, if all of them come at once, and each request is answered at once.
func wantTalk(s string) (l []api.Request, sent, left string) {
	proto, all := uint8(1), text.All
	if strings.HasPrefix(s, "\xb1") {
		proto, all = 2, binary.All
	}
	l, n, _ := all([]byte(s))
	tenant := 0
	for i, q := range l {
		if q.Kind == 1 {
			l[i].Command.Tenant = tenant
		}
		x := replyTo(l[i], i)
		if x.a.Kind == 2 && x.a.Yes {
			tenant = q.Tenant
		}
		sent += x.by(proto)
	}
	if len(l) > 0 && (l[len(l)-1].Kind == 5 || l[len(l)-1].Close) {
		return l, sent, ""
	}
	return l, sent, s[n:]
}

// checkTalk ends the test unless a connection came to what its bytes come to at once.
func (w *talk) checkTalk(s string) {
	w.t.Helper()
	l, sent, left := wantTalk(s)
	ends := len(l) > 0 && (l[len(l)-1].Kind == 5 || l[len(l)-1].Close)
	if !slices.EqualFunc(w.asked, l, sameRequest) || w.sent != sent {
		w.t.Fatalf("%s: %s, sent %s, want %s, %s", short(s), short(w.asked), short(w.sent), short(l), short(sent))
	}
	if w.c.Closed != ends || w.c.Busy || string(w.c.Rest) != left || len(w.c.Out) != 0 {
		w.t.Fatalf("%s: %s, want %t, %s", short(s), told(w.c), ends, short(left))
	}
}

// How pieces are gone through: each one at once, or all of them at the end, or as chance will have it.
const (
	eager = iota
	lazy
	byChance
)

// checkPieces ends the test unless bytes in pieces come to what they come to at once.
func checkPieces(t *testing.T, r *rand.Rand, how int, pieces ...string) {
	t.Helper()
	w := &talk{t: t}
	for _, s := range pieces {
		w.c = checkFeed(t, w.c, s)
		switch how {
		case eager:
			w.rest()
		case byChance:
			for range r.Intn(4) {
				w.turn()
			}
			if r.Intn(2) == 0 || len(w.c.Out) > 3000 {
				w.send(r.Intn(40))
			}
		}
	}
	for w.turn() {
		if len(w.c.Out) > 3000 || how == byChance && r.Intn(3) == 0 {
			w.send(1 + r.Intn(3500))
		}
	}
	w.rest()
	w.checkTalk(strings.Join(pieces, ""))
}

// cutUp is a text in pieces of any lengths, some of none; bytewise in pieces of a byte.
func cutUp(r *rand.Rand, s string) []string {
	var l []string
	for s != "" {
		many := r.Intn(min(len(s), []int{1, 3, 20, 1000}[r.Intn(4)]) + 1)
		l, s = append(l, s[:many]), s[many:]
	}
	return l
}

func bytewise(s string) []string {
	var l []string
	for i := range len(s) {
		l = append(l, s[i:i+1])
	}
	return l
}

// P18.5, W1: bytes that are cut at every two places, with answers at once, at the end, or by chance, come to the same.
func TestCutAtEveryPlace(t *testing.T) {
	r := rand.New(rand.NewSource(189))
	for _, s := range []string{
		"ping\r\nx\r\nget a\r\nquit\r\nping", "user 2 s\r\nset a 0 0 1\r\n\r\r\nget a\r\n", "flush\r\nset a 0 0 1\r\nxyz\r\nping\r\n", "get \xb1\r\n\r\n\r\rping\r\n",
		ask(4, "") + ask(4, "x") + ask(5, "") + ask(4, ""), ask(2, "\x03s") + commands()[0].packet + ask(3, "\x01"), ask(4, "") + "\xb1\x06" + ask(4, ""), ask(3, "\x02") + "ping\r\n" + ask(4, ""),
	} {
		for how := range 3 {
			for i := range len(s) + 1 {
				for j := i; j <= len(s); j++ {
					checkPieces(t, r, how, s[:i], s[i:j], s[j:])
				}
			}
			checkPieces(t, r, how, bytewise(s)...)
		}
	}
}

// P18.5, W1: so do longer ones, cut at each place, byte by byte, and in pieces of any lengths.
func TestCutAnywhere(t *testing.T) {
	r := rand.New(rand.NewSource(190))
	for round := range 300 {
		s := randomBlob(r, uint8(1+round%2), 1+r.Intn(12))
		for range 5 {
			checkPieces(t, r, r.Intn(3), cutUp(r, s)...)
		}
		checkPieces(t, r, round%3, bytewise(s)...)
		if round%10 < 2 {
			for i := range len(s) + 1 {
				checkPieces(t, r, r.Intn(3), s[:i], s[i:])
			}
		}
	}
	for proto := range protos() {
		s := ""
		for len(s) < 12000 {
			s += strings.ReplaceAll(randomBlob(r, proto, 1), "quit\r\n", "")
		}
		for how := range 3 {
			checkPieces(t, r, how, cutUp(r, s)...)
		}
	}
}

// P18.5: pushes come between, and change nothing of the requests, nor of what is sent beside them.
func TestPushesBetween(t *testing.T) {
	r := rand.New(rand.NewSource(191))
	for round := range 400 {
		proto := uint8(1 + round%2)
		s := randomBlob(r, proto, 1+r.Intn(12))
		if strings.HasPrefix(s, "\xb1") != (proto == 2) {
			continue
		}
		w := &talk{t: t, c: api.Conn{Proto: proto}}
		want := ""
		for pieces := cutUp(r, s); len(pieces) > 0 || w.c.Busy; {
			if r.Intn(3) == 0 && !w.c.Closed {
				x := pushes()[r.Intn(2)]
				w.c, want = checkAnswer(t, w.c, x.a), want+x.by(proto)
			}
			if len(pieces) > 0 && r.Intn(2) == 0 {
				w.c, pieces = checkFeed(t, w.c, pieces[0]), pieces[1:]
			}
			before := len(w.c.Out)
			if w.turn(); len(w.c.Out) > before {
				want += string(w.c.Out[before:])
			}
			w.send(r.Intn(300))
		}
		for w.turn() {
			if !w.c.Busy {
				want += replyTo(w.asked[len(w.asked)-1], len(w.asked)-1).by(proto)
			}
			w.send(0)
		}
		w.send(maxOut)
		if w.sent != want {
			t.Fatalf("%s, want %s", short(w.sent), short(want))
		}
		for _, x := range pushes() {
			w.sent = strings.ReplaceAll(w.sent, x.by(proto), "")
		}
		w.checkTalk(s)
	}
}

// P18.5: a request comes only when the one ahead was answered, whatever happens meanwhile.
func TestOneAtATime(t *testing.T) {
	r := rand.New(rand.NewSource(192))
	for proto := range protos() {
		for range 300 {
			c := checkFeed(t, api.Conn{}, commands()[r.Intn(12)].by(proto)+others()[r.Intn(9)].by(proto))
			c, _, is := checkNext(t, c)
			for range r.Intn(12) {
				switch r.Intn(5) {
				case 0:
					c = checkFeed(t, c, commands()[r.Intn(12)].by(proto))
				case 1:
					c = checkAnswer(t, c, push("k"))
				case 2:
					c, _ = checkSend(t, c, r.Intn(30))
				case 3:
					c = checkLogin(t, c, r.Intn(4))
				case 4:
					c = checkAnswer(t, c, api.Answer{Kind: 9})
				}
				if next, q, more := checkNext(t, c); more || q.Kind != 0 || !same(next, c) {
					t.Fatal(short(q), told(next))
				}
			}
			c = checkAnswer(t, c, api.Answer{Kind: 6})
			if _, _, more := checkNext(t, c); !is || !more {
				t.Fatal(is, more, told(c))
			}
		}
	}
}

// checkClosed ends the test unless a connection stays closed, takes and gives nothing, and what waits is still sent.
func checkClosed(t *testing.T, r *rand.Rand, c api.Conn) {
	t.Helper()
	waits, sent := string(c.Out), ""
	for range 30 {
		was := copied(c)
		if r.Intn(5) == 0 {
			next, s := checkSend(t, c, r.Intn(5))
			c, sent = next, sent+s
			was.Out = was.Out[len(s):]
		} else {
			c = randomStepOfClosed(t, r, c)
		}
		are(t, c, was)
		if !c.Closed || c.Busy || c.Ends || len(c.Rest) != 0 {
			t.Fatal(told(c))
		}
	}
	c, s := checkSend(t, c, maxOut)
	if sent+s != waits || len(c.Out) != 0 || !c.Closed {
		t.Fatalf("%s was sent, want %s", short(sent+s), short(waits))
	}
}

func randomStepOfClosed(t *testing.T, r *rand.Rand, c api.Conn) api.Conn {
	t.Helper()
	switch r.Intn(4) {
	case 0:
		return checkFeed(t, c, randomBlob(r, uint8(r.Intn(3)), r.Intn(3))+strings.Repeat("x", r.Intn(2)*r.Intn(maxText)))
	case 1:
		next, q, is := checkNext(t, c)
		if is || q.Kind != 0 {
			t.Fatal(short(q), told(c))
		}
		return next
	case 2:
		return checkLogin(t, c, r.Intn(4))
	}
	return checkAnswer(t, c, randomAnswer(r))
}

// P18.6, W8: rubbish that closes, and a quit, are the last request, whatever stands behind; its answer is sent, and nothing comes any more.
func TestLastRequest(t *testing.T) {
	r := rand.New(rand.NewSource(193))
	for proto := range protos() {
		for range 60 {
			for _, x := range lasts() {
				good := ""
				for range r.Intn(5) {
					good += commands()[r.Intn(12)].by(proto)
				}
				if good == "" && proto == 2 && x.packet[0] != 177 { // those would be lines
					continue
				}
				behind := randomBlob(r, proto, r.Intn(3))
				w := &talk{t: t, c: checkFeed(t, api.Conn{}, good+x.by(proto)+behind)}
				for !w.c.Ends {
					if !w.turn() {
						t.Fatal(told(w.c))
					}
				}
				last := w.asked[len(w.asked)-1]
				if !sameRequest(last, x.r) || len(w.c.Rest) != 0 {
					t.Fatal(short(last), told(w.c))
				}
				w.c = checkFeed(t, w.c, behind+"ping\r\n")
				if _, q, is := checkNext(t, w.c); is || len(w.c.Rest) != 0 {
					t.Fatal(short(q), told(w.c))
				}
				w.answer()
				want := replyTo(last, len(w.asked)-1).by(proto)
				if !w.c.Closed || !strings.HasSuffix(string(w.c.Out), want) {
					t.Fatal(told(w.c))
				}
				checkClosed(t, r, w.c)
			}
		}
	}
}

// P18.6, W8: whatever the bytes are, they are requests, rubbish, or not there whole; one that is rubbish alone is answered, and the next one is read.
func TestRubbish(t *testing.T) {
	r := rand.New(rand.NewSource(194))
	for range 3000 {
		b := make([]byte, r.Intn(60))
		r.Read(b)
		for i := range b {
			if r.Intn(4) == 0 {
				b[i] = "\r\n\xb1\x04\x00\x00 k"[r.Intn(8)]
			}
		}
		s := strings.Repeat("\xb1\x04\x00\x00\x00\x00", r.Intn(2)) + string(b)
		checkPieces(t, r, r.Intn(3), cutUp(r, s)...)
		checkPieces(t, r, r.Intn(3), cutUp(r, s+"\r\nping\r\n")...)
	}
	for proto := range protos() {
		for _, x := range others()[5:] {
			c := checkFeed(t, api.Conn{}, x.by(proto)+others()[4].by(proto))
			c, q, _ := checkNext(t, c)
			c = checkAnswer(t, c, api.Answer{Kind: 6})
			c, behind, _ := checkNext(t, c)
			if q.Kind != 6 || behind.Kind != 4 || c.Ends || c.Closed {
				t.Fatal(short(q), short(behind), told(c))
			}
		}
	}
}

// P18.6: however a connection came to be closed, it stays so: by its last answer, by bytes that are too many to be read, or to be sent.
func TestClosedStaysClosed(t *testing.T) {
	r := rand.New(rand.NewSource(195))
	for range 40 {
		checkClosed(t, r, api.Conn{Closed: true, Proto: uint8(r.Intn(3)), Logged: true, Tenant: r.Intn(4), Out: []byte(strings.Repeat("ab", r.Intn(9)))})
		c := checkFeed(t, api.Conn{Rest: make([]byte, maxText), Out: []byte("x"), Busy: r.Intn(2) == 0}, "x")
		are(t, c, api.Conn{Closed: true})
		checkClosed(t, r, c)
		c = checkAnswer(t, api.Conn{Rest: []byte("ping\r\n"), Out: make([]byte, maxOut)}, push("k"))
		are(t, c, api.Conn{Closed: true})
		checkClosed(t, r, c)
		c = checkAnswer(t, api.Conn{Busy: true, Ends: true, Out: make([]byte, maxOut)}, api.Answer{Kind: 5})
		are(t, c, api.Conn{Closed: true})
		checkClosed(t, r, c)
		c = checkAnswer(t, api.Conn{Busy: true, Ends: true, Proto: 2, Out: []byte("x")}, api.Answer{Kind: 5})
		are(t, c, api.Conn{Proto: 2, Closed: true, Out: []byte("x" + tell(5, ""))})
		checkClosed(t, r, c)
	}
}

// Looks for bytes, and things that are done to connections, by which something else is told than the model tells, or than the same bytes come to at once.
func FuzzConn(f *testing.F) {
	f.Add([]byte("ping\r\nuser 2 s\r\nget a\r\nset a 0 0 1\r\nx\r\nquit\r\nping\r\n"), []byte{0, 1, 2, 3, 4, 5, 0, 1, 4, 1, 4}, int64(1))
	f.Add([]byte(ask(2, "\x03s")+commands()[0].packet+ask(4, "x")+"\xb1\x06"), []byte{0, 0, 0, 1, 2, 4, 1, 4, 5, 3}, int64(2))
	f.Add([]byte(strings.Repeat("x", 514)+"\r\n"), []byte{0, 1, 4, 5, 0, 1}, int64(3))
	f.Add([]byte("\xb2\x00\r\nset a 0 0 1\r\nxyz\r\n"), []byte{3, 3, 0, 1, 4}, int64(4))
	f.Fuzz(func(t *testing.T, b, does []byte, seed int64) {
		r := rand.New(rand.NewSource(seed))
		b, does = b[:min(len(b), 1000)], does[:min(len(does), 200)]
		for how := range 3 {
			checkPieces(t, r, how, cutUp(r, string(b))...)
		}
		c, rest := api.Conn{}, string(b)
		for _, what := range does {
			many := min(len(rest), int(what)/6)
			switch what % 6 {
			case 0:
				c, rest = checkFeed(t, c, rest[:many]), rest[many:]
			case 1:
				c, _, _ = checkNext(t, c)
			case 2:
				c = checkLogin(t, c, int(what)/6-1)
			case 3:
				c = checkAnswer(t, c, push(string(b[:min(len(b), int(what)/6)])))
			case 4:
				c = checkAnswer(t, c, randomAnswer(r))
			case 5:
				c, _ = checkSend(t, c, int(what)/6-1)
			}
		}
		checkAll(t, c)
	})
}
