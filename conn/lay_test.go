package conn_test

import (
	stdbinary "encoding/binary"
	"fmt"
	"math/rand"
	"reflect"
	"slices"
	"strings"
	"testing"

	"cloakroom/api"
	"cloakroom/binary"
	"cloakroom/conn"
	"cloakroom/packed"
	"cloakroom/text"
	"cloakroom/words"
)

const (
	least = -1 << 63
	top   = 1<<63 - 1
)

// The limits, written out, so that the program's own numbers are held against them.
const (
	maxText = 16384
	maxOut  = 4096
)

// packet is a packet by the library's own means; ask that of a request.
func packet(first, kind uint8, body string) string {
	b := stdbinary.BigEndian.AppendUint32([]byte{first, kind}, uint32(len(body)))
	return string(b) + body
}

func ask(kind uint8, body string) string { return packet(177, kind, body) }

// sample is a request, as it comes in both protocols.
type sample struct {
	r             api.Request
	lines, packet string
}

func command(c api.Command) api.Request { return api.Request{Kind: 1, Command: c} }

func keys(l ...string) []string { return l }

// commands are one of each kind, and some more.
func commands() []sample {
	return []sample{
		{command(api.Command{Kind: 1, Keys: keys("k")}), "get k\r\n", ask(1, "\x01\x00\x01\x01k\x00\x00\x00\x00\x00")},
		{command(api.Command{Kind: 1, Keys: keys("b", "a")}), "get b a\r\n", ask(1, "\x01\x00\x02\x01b\x01a\x00\x00\x00\x00\x00")},
		{command(api.Command{Kind: 2, Keys: keys("k"), Value: "xy", Flags: 7, For: 5}), "set k 7 5 2\r\nxy\r\n", ask(1, "\x02\x00\x01\x01k\x02xy\x07\x05\x00\x00")},
		{command(api.Command{Kind: 3, Keys: keys("k")}), "add k 0 0 0\r\n\r\n", ask(1, "\x03\x00\x01\x01k\x00\x00\x00\x00\x00")},
		{command(api.Command{Kind: 4, Keys: keys("k"), Value: "v", Flags: 1}), "replace k 1 0 1\r\nv\r\n", ask(1, "\x04\x00\x01\x01k\x01v\x01\x00\x00\x00")},
		{command(api.Command{Kind: 5, Keys: keys("k"), Value: "\xb1", Unique: 9}), "cas k 0 0 1 9\r\n\xb1\r\n", ask(1, "\x05\x00\x01\x01k\x01\xb1\x00\x00\x09\x00")},
		{command(api.Command{Kind: 6, Keys: keys("k"), By: 3}), "incr k 3\r\n", ask(1, "\x06\x00\x01\x01k\x00\x00\x00\x00\x03")},
		{command(api.Command{Kind: 7, Keys: keys("k"), By: 1}), "decr k 1\r\n", ask(1, "\x07\x00\x01\x01k\x00\x00\x00\x00\x01")},
		{command(api.Command{Kind: 8, Keys: keys("k"), Value: "\r\nxy"}), "append k 4\r\n\r\nxy\r\n", ask(1, "\x08\x00\x01\x01k\x04\r\nxy\x00\x00\x00\x00")},
		{command(api.Command{Kind: 9, Keys: keys("k"), For: 9}), "touch k 9\r\n", ask(1, "\x09\x00\x01\x01k\x00\x00\x09\x00\x00")},
		{command(api.Command{Kind: 10, Keys: keys("a", "b")}), "delete a b\r\n", ask(1, "\x0a\x00\x02\x01a\x01b\x00\x00\x00\x00\x00")},
		{command(api.Command{Kind: 11}), "flush\r\n", ask(1, "\x0b\x00\x00\x00\x00\x00\x00\x00")},
	}
}

// others are requests that are no commands, behind which more is read.
func others() []sample {
	return []sample{
		{api.Request{Kind: 2, Secret: "s"}, "user 0 s\r\n", ask(2, "\x00s")},
		{api.Request{Kind: 2, Tenant: 3, Secret: "word"}, "user 3 word\r\n", ask(2, "\x03word")},
		{api.Request{Kind: 3, On: true}, "track on\r\n", ask(3, "\x01")},
		{api.Request{Kind: 3}, "track off\r\n", ask(3, "\x00")},
		{api.Request{Kind: 4}, "ping\r\n", ask(4, "")},
		{api.Request{Kind: 6}, "x\r\n", ask(4, "x")},
		{api.Request{Kind: 6}, "\r\n", ask(3, "\x02")},
		{api.Request{Kind: 6}, "get k k\r\n", ask(1, "\x01\x00\x02\x01k\x01k\x00\x00\x00\x00\x00")},
		{api.Request{Kind: 6}, "user 4 s\r\n", ask(2, "\x04s")},
	}
}

// lasts are requests behind which nothing is read. What is rubbish in packets takes all that came.
func lasts() []sample {
	shut := api.Request{Kind: 6, Close: true}
	return []sample{
		{api.Request{Kind: 5}, "quit\r\n", ask(5, "")},
		{shut, "set k 0 0 1\r\nxy\r", "\xb1\x06"},
		{shut, strings.Repeat("x", 514), "\xb1\x04\x00\x00\x10\x01"},
		{shut, "append k 0\r\nx\n", "\xb2"},
		{shut, strings.Repeat("\xb2", 513) + "\r", "ping\r\n"},
	}
}

// reply is an answer, as it goes out in both protocols.
type reply struct {
	a             api.Answer
	lines, packet string
}

func tell(kind uint8, body string) string { return packet(178, kind, body) }

// result is the answer to a command; push the one that tells of a key.
func result(of, kind uint8, number uint64, items ...api.Item) api.Answer {
	return api.Answer{Kind: 1, Of: of, Result: api.Result{Kind: kind, Number: number, Items: items}}
}

func push(key string) api.Answer { return api.Answer{Kind: 7, Key: key} }

// replies are one of each kind, and some more, but for pushes.
func replies() []reply {
	x := api.Item{Key: "k", Value: "ab", Flags: 7, Unique: 3}
	y := api.Item{Key: "l", Value: "\r\n", Until: 9}
	return []reply{
		{result(1, 1, 0), "END\r\n", tell(1, "\x01\x01\x00\x00")},
		{result(1, 1, 0, x), "VALUE k 7 0 3 2\r\nab\r\nEND\r\n", tell(1, "\x01\x01\x00\x01\x01k\x02ab\x07\x00\x03")},
		{result(1, 1, 0, y, x), "VALUE l 0 9 0 2\r\n\r\n\r\nVALUE k 7 0 3 2\r\nab\r\nEND\r\n", tell(1, "\x01\x01\x00\x02\x01l\x02\r\n\x00\x09\x00\x01k\x02ab\x07\x00\x03")},
		{result(2, 1, 0), "STORED\r\n", tell(1, "\x02\x01\x00\x00")},
		{result(6, 1, 300), "NUMBER 300\r\n", tell(1, "\x06\x01\xac\x02\x00")},
		{result(9, 1, 0), "TOUCHED\r\n", tell(1, "\x09\x01\x00\x00")},
		{result(10, 1, 2), "DELETED 2\r\n", tell(1, "\x0a\x01\x02\x00")},
		{result(11, 1, 0), "FLUSHED\r\n", tell(1, "\x0b\x01\x00\x00")},
		{result(10, 2, 0), "NOT_FOUND\r\n", tell(1, "\x0a\x02\x00\x00")},
		{result(3, 3, 0), "EXISTS\r\n", tell(1, "\x03\x03\x00\x00")},
		{result(8, 4, 0), "TOO_LARGE\r\n", tell(1, "\x08\x04\x00\x00")},
		{result(2, 5, 0), "NO_MEMORY\r\n", tell(1, "\x02\x05\x00\x00")},
		{result(7, 6, 0), "NOT_NUMBER\r\n", tell(1, "\x07\x06\x00\x00")},
		{result(1, 7, 0), "DENIED\r\n", tell(1, "\x01\x07\x00\x00")},
		{api.Answer{Kind: 2, Yes: true}, "WELCOME\r\n", tell(2, "\x01")},
		{api.Answer{Kind: 2}, "UNKNOWN\r\n", tell(2, "\x00")},
		{api.Answer{Kind: 3, Yes: true}, "TRACKED\r\n", tell(3, "\x01")},
		{api.Answer{Kind: 3}, "UNTRACKED\r\n", tell(3, "\x00")},
		{api.Answer{Kind: 4}, "PONG\r\n", tell(4, "")},
		{api.Answer{Kind: 5}, "BYE\r\n", tell(5, "")},
		{api.Answer{Kind: 6}, "ERROR\r\n", tell(6, "")},
	}
}

// pushes answer nothing.
func pushes() []reply {
	long := strings.Repeat("k", 32)
	return []reply{
		{push("k"), "PUSH k\r\n", tell(7, "k")},
		{push(long), "PUSH " + long + "\r\n", tell(7, long)},
	}
}

// by is what stands for a protocol: that of none yet is that of lines.
func (x sample) by(proto uint8) string { return [...]string{x.lines, x.lines, x.packet}[proto] }

func (x reply) by(proto uint8) string { return [...]string{x.lines, x.lines, x.packet}[proto] }

// noAnswers are such that may not be, whatever the protocol.
func noAnswers() []api.Answer {
	return []api.Answer{
		{}, {Kind: 8}, {Kind: 255}, {Kind: 4, Yes: true}, {Kind: 4, Key: "k"}, {Kind: 6, Of: 1}, {Kind: 1}, push(""), push(strings.Repeat("k", 33)), {Kind: 7, Key: "k", Yes: true},
		result(0, 1, 0), result(12, 1, 0), result(1, 0, 0), result(1, 8, 0), result(2, 1, 1), result(10, 1, 9), result(2, 1, 0, api.Item{Key: "k"}), result(1, 1, 0, api.Item{}),
		result(1, 1, 0, slices.Repeat([]api.Item{{Key: "k"}}, 9)...),
	}
}

// full is the answer to a get of eight items whose packet's body has so many bytes, from 3772 to 4156; its lines have 113 more.
func full(many int) api.Answer {
	x := api.Item{Key: "k", Value: strings.Repeat("v", 512)}
	a := result(1, 1, 0, slices.Repeat([]api.Item{x}, 8)...)
	a.Result.Items[7].Value = x.Value[:many-3644]
	return a
}

// copied is a connection as new memory.
func copied(c api.Conn) api.Conn {
	c.Rest, c.Out = slices.Clone(c.Rest), slices.Clone(c.Out)
	return c
}

// same tells whether two connections are the same: a list without elements may be nil or not.
func same(a, b api.Conn) bool {
	lists := string(a.Rest) == string(b.Rest) && string(a.Out) == string(b.Out)
	a.Rest, a.Out, b.Rest, b.Out = nil, nil, nil, nil
	return lists && reflect.DeepEqual(a, b)
}

func sameRequest(a, b api.Request) bool {
	lists := slices.Equal(a.Command.Keys, b.Command.Keys)
	a.Command.Keys, b.Command.Keys = nil, nil
	return lists && reflect.DeepEqual(a, b)
}

// wantCheck tells whether a connection may be.
func wantCheck(c api.Conn) api.Errno {
	is := slices.Contains([]uint8{0, 1, 2}, c.Proto) && len(c.Out) <= maxOut && len(c.Rest) <= maxText
	if c.Ends {
		is = is && c.Busy && len(c.Rest) == 0
	}
	if c.Closed {
		is = is && !c.Busy && !c.Ends && len(c.Rest) == 0
	}
	if c.Logged {
		is = is && slices.Contains([]int{0, 1, 2, 3}, c.Tenant)
	} else {
		is = is && c.Tenant == 0
	}
	if !is {
		return api.ErrBad
	}
	return api.OK
}

// shut is what is left of a connection that is closed; gone of one that is cut off.
func shut(c api.Conn) api.Conn {
	return api.Conn{Proto: c.Proto, Logged: c.Logged, Tenant: c.Tenant, Closed: true, Out: c.Out}
}

func gone(c api.Conn) api.Conn {
	return api.Conn{Proto: c.Proto, Logged: c.Logged, Tenant: c.Tenant, Closed: true}
}

// wantFeed, wantNext, wantLogin, wantAnswer and wantSend are what the functions are to tell.
func wantFeed(c api.Conn, b string) (api.Conn, api.Errno) {
	switch c = copied(c); {
	case wantCheck(c) != api.OK:
		return api.Conn{}, api.ErrBad
	case len(b) > maxText:
		return api.Conn{}, api.ErrText
	case c.Closed, c.Ends:
		return c, api.OK
	case len(c.Rest)+len(b) > maxText:
		return gone(c), api.OK
	}
	c.Rest = []byte(string(c.Rest) + b)
	return c, api.OK
}

func wantNext(c api.Conn) (api.Conn, api.Request, bool, api.Errno) {
	switch c = copied(c); {
	case wantCheck(c) != api.OK:
		return api.Conn{}, api.Request{}, false, api.ErrBad
	case c.Closed, c.Busy, len(c.Rest) == 0:
		return c, api.Request{}, false, api.OK
	case c.Proto == 0 && c.Rest[0] == 177:
		c.Proto = 2
	case c.Proto == 0:
		c.Proto = 1
	}
	r, many, _ := text.Next(c.Rest)
	if c.Proto == 2 {
		r, many, _ = binary.Next(c.Rest)
	}
	if many == 0 {
		return c, api.Request{}, false, api.OK
	}
	if r.Kind == 1 {
		r.Command.Tenant = c.Tenant
	}
	c.Busy, c.Ends = true, r.Kind == 5 || r.Close
	c.Rest = map[bool][]byte{false: c.Rest[many:]}[c.Ends]
	return c, r, true, api.OK
}

func wantLogin(c api.Conn, tenant int) (api.Conn, api.Errno) {
	switch c = copied(c); {
	case wantCheck(c) != api.OK:
		return api.Conn{}, api.ErrBad
	case !slices.Contains([]int{0, 1, 2, 3}, tenant):
		return api.Conn{}, api.ErrArg
	case c.Closed:
		return c, api.OK
	}
	c.Logged, c.Tenant = true, tenant
	return c, api.OK
}

func wantAnswer(c api.Conn, a api.Answer) (api.Conn, api.Errno) {
	c = copied(c)
	if wantCheck(c) != api.OK {
		return api.Conn{}, api.ErrBad
	}
	if c.Closed {
		return c, api.OK
	}
	b, e := words.Write(a)
	if c.Proto == 2 {
		b, e = packed.Write(a)
	}
	c.Out = []byte(string(c.Out) + string(b))
	switch {
	case e != api.OK:
		return api.Conn{}, e
	case a.Kind != 7 && !c.Busy:
		return api.Conn{}, api.ErrArg
	case len(c.Out) > maxOut:
		return gone(c), api.OK
	case a.Kind == 7:
		return c, api.OK
	case c.Ends:
		return shut(c), api.OK
	}
	c.Busy = false
	return c, api.OK
}

func wantSend(c api.Conn, many int) (api.Conn, string, api.Errno) {
	switch c = copied(c); {
	case wantCheck(c) != api.OK:
		return api.Conn{}, "", api.ErrBad
	case many < 0:
		return api.Conn{}, "", api.ErrArg
	}
	sent := string(c.Out)
	c.Out = nil
	if many < len(sent) {
		c.Out = []byte(sent[many:])
		sent = sent[:many]
	}
	return c, sent, api.OK
}

// short is how something is told where a test fails: texts may be long.
func short(what any) string {
	s := fmt.Sprintf("%+q", fmt.Sprintf("%+v", what))
	return s[:min(len(s), 400)]
}

// told is how a connection is told where a test fails.
func told(c api.Conn) string {
	return fmt.Sprintf("{proto %d, rest %d %s, logged %t %d, busy %t, ends %t, closed %t, out %d %s}", c.Proto, len(c.Rest), short(string(c.Rest)), c.Logged, c.Tenant, c.Busy, c.Ends, c.Closed, len(c.Out), short(string(c.Out)))
}

// checkIs ends the test, as the other checks do, unless a connection and an error are those that are wanted: what many inputs fail in is mostly one thing.
func checkIs(t *testing.T, name string, with any, was, c, want api.Conn, e, wantE api.Errno) {
	t.Helper()
	if !same(c, want) || e != wantE {
		t.Fatalf("%s(%s, %s):\n%s, error %d, want\n%s, error %d", name, told(was), short(with), told(c), e, told(want), wantE)
	}
	if f := conn.Check(c); f != api.OK {
		t.Fatalf("%s(%s, %s):\n%s may not be: error %d", name, told(was), short(with), told(c), f)
	}
}

// checkFeed, checkNext, checkLogin, checkAnswer and checkSend end the test unless the functions tell what the model tells. They answer the connection that is there then: beside an error, the one that was.
func checkFeed(t *testing.T, c api.Conn, b string) api.Conn {
	t.Helper()
	want, wantE := wantFeed(c, b)
	x, e := conn.Feed(c, []byte(b))
	checkIs(t, "Feed", b, c, x, want, e, wantE)
	return then(c, x, e)
}

func checkNext(t *testing.T, c api.Conn) (api.Conn, api.Request, bool) {
	t.Helper()
	want, wantR, wantIs, wantE := wantNext(c)
	x, r, is, e := conn.Next(c)
	checkIs(t, "Next", nil, c, x, want, e, wantE)
	if !sameRequest(r, wantR) || is != wantIs {
		t.Fatalf("Next of %s: %s, %t, want %s, %t", told(c), short(r), is, short(wantR), wantIs)
	}
	return then(c, x, e), r, is
}

func checkLogin(t *testing.T, c api.Conn, tenant int) api.Conn {
	t.Helper()
	want, wantE := wantLogin(c, tenant)
	x, e := conn.Login(c, tenant)
	checkIs(t, "Login", tenant, c, x, want, e, wantE)
	return then(c, x, e)
}

func checkAnswer(t *testing.T, c api.Conn, a api.Answer) api.Conn {
	t.Helper()
	want, wantE := wantAnswer(c, a)
	x, e := conn.Answer(c, a)
	checkIs(t, "Answer", a, c, x, want, e, wantE)
	return then(c, x, e)
}

func checkSend(t *testing.T, c api.Conn, many int) (api.Conn, string) {
	t.Helper()
	want, wantB, wantE := wantSend(c, many)
	x, b, e := conn.Send(c, many)
	checkIs(t, "Send", many, c, x, want, e, wantE)
	if string(b) != wantB {
		t.Fatalf("Send %d of %s: %s, want %s", many, told(c), short(string(b)), short(wantB))
	}
	return then(c, x, e), string(b)
}

func then(was, x api.Conn, e api.Errno) api.Conn {
	if e != api.OK {
		return was
	}
	return x
}

// checkAll ends the test unless all functions tell of a connection what the model tells, with arguments that may be and such that may not.
func checkAll(t *testing.T, c api.Conn) {
	t.Helper()
	if e := conn.Check(c); e != wantCheck(c) {
		t.Fatalf("Check %s: error %d, want %d", told(c), e, wantCheck(c))
	}
	for _, b := range []string{"", "x", strings.Repeat("x", maxText), strings.Repeat("x", maxText+1)} {
		checkFeed(t, c, b)
	}
	checkNext(t, c)
	for _, tenant := range []int{-1, 0, 3, 4} {
		checkLogin(t, c, tenant)
	}
	for _, a := range []api.Answer{{Kind: 4}, push("k"), {}, push("\r"), full(4090), full(4091), full(4097)} {
		checkAnswer(t, c, a)
	}
	for _, many := range []int{-1, 0, 1, maxOut - 1, maxOut, top} {
		checkSend(t, c, many)
	}
}

// randomBlob is requests of a protocol, one behind another, some of them rubbish, some cut.
func randomBlob(r *rand.Rand, proto uint8, many int) string {
	s := ""
	for range many {
		l := commands()
		switch r.Intn(20) {
		case 0:
			l = lasts()
		case 1, 2, 3, 4, 5, 6, 7:
			l = others()
		}
		one := l[r.Intn(len(l))].by(proto)
		switch r.Intn(40) {
		case 0:
			one = one[:r.Intn(len(one)+1)]
		case 1:
			one += string([]byte{byte(r.Intn(256))})
		}
		s += one
	}
	return s
}

// randomAnswer is most often one that may be.
func randomAnswer(r *rand.Rand) api.Answer {
	l := replies()
	switch r.Intn(10) {
	case 0:
		more := noAnswers()
		return more[r.Intn(len(more))]
	case 1, 2:
		l = pushes()
	case 3:
		return []api.Answer{full(3772 + r.Intn(330)), full(4097), push("a b"), push("\xb2")}[r.Intn(4)]
	}
	return l[r.Intn(len(l))].a
}

// randomConn is most often one that may be.
func randomConn(r *rand.Rand) api.Conn {
	c := api.Conn{Proto: uint8(r.Intn(3)), Busy: r.Intn(2) == 0, Logged: r.Intn(2) == 0}
	if c.Logged {
		c.Tenant = r.Intn(4)
	}
	c.Rest = []byte(randomBlob(r, uint8(r.Intn(3)), r.Intn(4)))
	c.Out = []byte(strings.Repeat("o", []int{0, 1, 9, 4000, 4090, 4096}[r.Intn(6)]))
	if r.Intn(3) == 0 {
		c.Rest, c.Ends, c.Closed = nil, c.Busy, !c.Busy
	}
	switch r.Intn(40) {
	case 0:
		c.Proto = 3
	case 1:
		c.Busy = !c.Busy
	case 2:
		c.Tenant++
	case 3:
		c.Ends = !c.Ends
	case 4:
		c.Closed = !c.Closed
	case 5:
		c.Rest = []byte(strings.Repeat("x", maxText+r.Intn(2)))
	case 6:
		c.Out = make([]byte, maxOut+r.Intn(2))
	}
	return c
}

// randomStep does one thing to a connection, and ends the test unless that is what the model does.
func randomStep(t *testing.T, r *rand.Rand, c api.Conn) api.Conn {
	t.Helper()
	switch r.Intn(6) {
	case 0, 1:
		return checkFeed(t, c, randomBlob(r, uint8(r.Intn(3)), r.Intn(3)))
	case 2:
		x, _, _ := checkNext(t, c)
		return x
	case 3:
		return checkLogin(t, c, r.Intn(6)-1)
	case 4:
		return checkAnswer(t, c, randomAnswer(r))
	}
	x, _ := checkSend(t, c, r.Intn([]int{2, 20, 5000}[r.Intn(3)])-1)
	return x
}
