package binary_test

import (
	"bytes"
	stdbinary "encoding/binary"
	"fmt"
	"math/rand"
	"reflect"
	"slices"
	"strconv"
	"strings"
	"testing"

	"cloakroom/api"
	"cloakroom/binary"
)

const (
	least = -1 << 63
	top   = 1<<63 - 1
	all   = 1<<64 - 1
)

// The limits, written out, so that the program's own numbers are held against them.
const (
	maxKey    = 32
	maxValue  = 512
	maxKeys   = 8
	maxSecret = 16
	maxPacket = 4096
	maxText   = 16384
	maxFlags  = 4294967295
	maxClock  = 1099511627776
	maxTenant = 3
)

// form is one kind of request, or of command: its Kind, its command's Kind, how many keys it may have, and what else it has, a letter each (V a value, F flags, T a For, U a Unique, B a By; D the tenant of a login, S its secret, O on or off).
type form struct {
	kind, does uint8
	keys       int
	has        string
}

// forms are the eleven commands, and the other four.
func forms() []form {
	return []form{
		{1, 1, 8, ""}, {1, 2, 1, "VFT"}, {1, 3, 1, "VFT"}, {1, 4, 1, "VFT"}, {1, 5, 1, "VFTU"}, {1, 6, 1, "B"},
		{1, 7, 1, "B"}, {1, 8, 1, "V"}, {1, 9, 1, "T"}, {1, 10, 8, ""}, {1, 11, 0, ""},
		{2, 0, 0, "DS"}, {3, 0, 0, "O"}, {4, 0, 0, ""}, {5, 0, 0, ""},
	}
}

// bad is a request that may not be.
func bad(shut bool) api.Request { return api.Request{Kind: 6, Close: shut} }

// ask is the request of a command.
func ask(c api.Command) api.Request { return api.Request{Kind: 1, Command: c} }

// packet is a packet by the library's own means.
func packet(first, kind uint8, body string) string {
	b := stdbinary.BigEndian.AppendUint32([]byte{first, kind}, uint32(len(body)))
	return string(b) + body
}

// of is a request's packet.
func of(kind uint8, body string) string { return packet(177, kind, body) }

// bytesOf is a command's bytes by the library's own means, whatever it has.
func bytesOf(c api.Command) string {
	b := stdbinary.AppendUvarint([]byte{c.Kind}, uint64(c.Tenant))
	b = stdbinary.AppendUvarint(b, uint64(len(c.Keys)))
	for _, s := range append(slices.Clone(c.Keys), c.Value) {
		b = append(stdbinary.AppendUvarint(b, uint64(len(s))), s...)
	}
	for _, n := range []uint64{uint64(c.Flags), uint64(c.For), c.Unique, c.By} {
		b = stdbinary.AppendUvarint(b, n)
	}
	return string(b)
}

// loose reads a command in a loose way: more bytes than these are read, too, as the same command.
func loose(b string) (c api.Command, is bool) {
	is = true
	number := func() uint64 {
		n, many := stdbinary.Uvarint([]byte(b))
		if many <= 0 {
			b, is = "", false
			return 0
		}
		b = b[many:]
		return n
	}
	word := func() string {
		many := number()
		if many > uint64(len(b)) {
			b, is = "", false
			return ""
		}
		s := b[:many]
		b = b[many:]
		return s
	}
	if b == "" {
		return api.Command{}, false
	}
	c.Kind, b = b[0], b[1:]
	c.Tenant = int(number())
	for many := number(); is && many > 0; many-- {
		c.Keys = append(c.Keys, word())
	}
	c.Value, c.Flags, c.For, c.Unique, c.By = word(), uint32(number()), int(number()), number(), number()
	return c, is
}

// wantMayBe tells whether a command may be, by the letters of its form.
func wantMayBe(c api.Command) bool {
	i := slices.IndexFunc(forms(), func(f form) bool { return f.kind == 1 && f.does == c.Kind })
	if i < 0 {
		return false
	}
	f, seen := forms()[i], map[string]int{}
	for _, key := range c.Keys {
		if seen[key]++; key == "" || len(key) > maxKey || seen[key] > 1 {
			return false
		}
	}
	has := func(letter string) bool { return strings.Contains(f.has, letter) }
	return c.Tenant >= 0 && c.Tenant <= maxTenant && len(c.Keys) <= f.keys && (len(c.Keys) > 0) == (f.keys > 0) &&
		len(c.Value) <= maxValue && (has("V") || c.Value == "") &&
		c.For >= 0 && c.For <= maxClock && (has("T") || c.For == 0) &&
		(has("F") || c.Flags == 0) && (has("U") || c.Unique == 0) && (has("B") || c.By == 0)
}

// wantWrite is what Write is to tell.
func wantWrite(r api.Request) (string, api.Errno) {
	named := map[uint8]api.Request{
		1: {Kind: 1, Command: r.Command},
		2: {Kind: 2, Tenant: r.Tenant, Secret: r.Secret},
		3: {Kind: 3, On: r.On},
		4: {Kind: 4},
		5: {Kind: 5},
	}
	if just, is := named[r.Kind]; !is || !same(just, r) {
		return "", api.ErrBad
	}
	body := ""
	switch r.Kind {
	case 1:
		if !wantMayBe(r.Command) {
			return "", api.ErrOrder
		}
		if r.Command.Tenant > 0 {
			return "", api.ErrBad
		}
		body = bytesOf(r.Command)
	case 2:
		if r.Tenant < 0 || r.Tenant > maxTenant || r.Secret == "" || len(r.Secret) > maxSecret {
			return "", api.ErrBad
		}
		body = string([]byte{byte(r.Tenant)}) + r.Secret
	case 3:
		body = map[bool]string{false: "\x00", true: "\x01"}[r.On]
	}
	return of(r.Kind, body), api.OK
}

// wantRequest is the request that is written as this packet; there is but one that it may be.
func wantRequest(kind uint8, body string) api.Request {
	r := api.Request{Kind: kind}
	switch kind {
	case 1:
		r.Command, _ = loose(body)
	case 2:
		if body != "" {
			r.Tenant, r.Secret = int(body[0]), body[1:]
		}
	case 3:
		r.On = body == "\x01"
	}
	if s, e := wantWrite(r); s != of(kind, body) || e != api.OK {
		return bad(false)
	}
	return r
}

// wantCut is what Cut is to tell.
func wantCut(first uint8, s string) (kind uint8, body string, n int, e api.Errno) {
	switch {
	case len(s) > maxText:
		return 0, "", 0, api.ErrText
	case s == "":
		return 0, "", 0, api.OK
	case s[0] != first:
		return 0, "", 0, api.ErrBad
	case len(s) < 6:
		return 0, "", 0, api.OK
	}
	many := stdbinary.BigEndian.Uint32([]byte(s[2:6]))
	switch {
	case many > maxPacket:
		return 0, "", 0, api.ErrBad
	case len(s)-6 < int(many):
		return 0, "", 0, api.OK
	}
	return s[1], s[6 : 6+many], 6 + int(many), api.OK
}

// wantFirst is the first request of bytes, and how many it has.
func wantFirst(s string) (api.Request, int) {
	switch {
	case s == "":
		return api.Request{}, 0
	case s[0] != 177,
		len(s) >= 2 && (s[1] < 1 || s[1] > 5),
		len(s) >= 6 && stdbinary.BigEndian.Uint32([]byte(s[2:6])) > maxPacket:
		return bad(true), len(s)
	}
	kind, body, n, _ := wantCut(177, s)
	if n == 0 {
		return api.Request{}, 0
	}
	return wantRequest(kind, body), n
}

// wantNext is what Next is to tell.
func wantNext(s string) (api.Request, int, api.Errno) {
	if len(s) > maxText {
		return api.Request{}, 0, api.ErrText
	}
	r, n := wantFirst(s)
	return r, n, api.OK
}

// wantAll is what All is to tell.
func wantAll(s string) ([]api.Request, int, api.Errno) {
	if len(s) > maxText {
		return nil, 0, api.ErrText
	}
	var l []api.Request
	left := s
	for {
		r, n := wantFirst(left)
		if n == 0 {
			return l, len(s) - len(left), api.OK
		}
		l, left = append(l, r), left[n:]
		if r.Kind == 5 || r.Kind == 6 && r.Close {
			return l, len(s) - len(left), api.OK
		}
	}
}

// plain is the request of a form that has the fewest things.
func plain(f form) api.Request {
	r := api.Request{Kind: f.kind, Command: api.Command{Kind: f.does}}
	if f.keys > 0 {
		r.Command.Keys = []string{"k"}
	}
	if f.kind == 2 {
		r.Secret = "s"
	}
	return r
}

// rich is the request of a form that has all that it may have, as much as it may.
func rich(f form) api.Request {
	r := api.Request{Kind: f.kind, Command: api.Command{Kind: f.does, Keys: longKeys(f.keys)}}
	for _, c := range f.has {
		switch c {
		case 'V':
			r.Command.Value = strings.Repeat("\r\n\xb1\xff", maxValue/4)
		case 'F':
			r.Command.Flags = maxFlags
		case 'T':
			r.Command.For = maxClock
		case 'U':
			r.Command.Unique = all
		case 'B':
			r.Command.By = all
		case 'D':
			r.Tenant = maxTenant
		case 'S':
			r.Secret = strings.Repeat("\xff", maxSecret)
		case 'O':
			r.On = true
		}
	}
	return r
}

// longKeys are so many keys of as many bytes as may be, which differ in the last one alone.
func longKeys(many int) []string {
	var l []string
	for i := range many {
		l = append(l, strings.Repeat("\xb1", maxKey-1)+string([]byte{byte(i)}))
	}
	return l
}

// someKeys are so many short keys.
func someKeys(many int) []string {
	var l []string
	for i := range many {
		l = append(l, "k"+strconv.Itoa(i))
	}
	return l
}

// randomBytes is a text of any bytes, of some more often.
func randomBytes(r *rand.Rand, many int) string {
	b := make([]byte, many)
	for i := range b {
		b[i] = byte(r.Intn(256))
		if r.Intn(3) == 0 {
			b[i] = "\x00\x01\x02\x03\x04\x05\x06\r\n\xb1\xb2\xff"[r.Intn(12)]
		}
	}
	return string(b)
}

// randomKeys are so many, no two the same, most of them short.
func randomKeys(r *rand.Rand, many int) []string {
	var l []string
	for len(l) < many {
		if key := randomBytes(r, 1+r.Intn([]int{1, 2, maxKey}[r.Intn(3)])); !slices.Contains(l, key) {
			l = append(l, key)
		}
	}
	return l
}

// randomRequest has a packet.
func randomRequest(r *rand.Rand) api.Request {
	f := forms()[r.Intn(len(forms()))]
	q := plain(f)
	if f.keys > 0 {
		q.Command.Keys = randomKeys(r, 1+r.Intn(f.keys))
	}
	for _, c := range f.has {
		switch c {
		case 'V':
			q.Command.Value = randomBytes(r, r.Intn(maxValue+1)>>r.Intn(10))
		case 'F':
			q.Command.Flags = r.Uint32() >> r.Intn(32)
		case 'T':
			q.Command.For = int(r.Uint64() >> r.Intn(64) % (maxClock + 1))
		case 'U':
			q.Command.Unique = r.Uint64() >> r.Intn(64)
		case 'B':
			q.Command.By = r.Uint64() >> r.Intn(64)
		case 'D':
			q.Tenant = r.Intn(maxTenant + 1)
		case 'S':
			q.Secret = randomBytes(r, 1+r.Intn(maxSecret))
		case 'O':
			q.On = r.Intn(2) == 0
		}
	}
	return q
}

// spoilt is a request of which one thing is another one: some have a packet nevertheless.
func spoilt(r *rand.Rand, q api.Request) api.Request {
	c := &q.Command
	switch r.Intn(14) {
	case 0:
		q.Kind = uint8(r.Intn(8))
	case 1:
		q.Tenant = r.Intn(7) - 1
	case 2:
		q.Secret = randomBytes(r, r.Intn(maxSecret+3))
	case 3:
		q.On = !q.On
	case 4:
		q.Close = true
	case 5:
		c.Kind = uint8(r.Intn(13))
	case 6:
		c.Tenant = r.Intn(7) - 1
	case 7:
		c.Keys = randomKeys(r, r.Intn(maxKeys+3))
	case 8:
		c.Keys = append(slices.Clone(c.Keys), "a", randomBytes(r, r.Intn(35)))
	case 9:
		c.Value = randomBytes(r, r.Intn(maxValue+3))
	case 10:
		c.For = r.Intn(5) - 1 + r.Intn(2)*(maxClock-2)
	case 11:
		c.Flags ^= uint32(r.Intn(2))
	case 12:
		c.Unique ^= uint64(r.Intn(2))
	case 13:
		c.By ^= uint64(r.Intn(2))
	}
	return q
}

// randomPacket is a request's packet, or one whose body is none, most often of a length that its kind may have.
func randomPacket(r *rand.Rand) string {
	switch r.Intn(4) {
	case 0:
		return of(uint8(1+r.Intn(5)), randomBytes(r, []int{0, 1, 2, 9, 17, 18, 40}[r.Intn(7)]))
	case 1:
		q := spoilt(r, randomRequest(r))
		if q.Kind == 1 {
			return of(1, bytesOf(q.Command))
		}
	}
	s, _ := wantWrite(randomRequest(r))
	return s
}

// randomBlob is packets, one behind another, cut, or with a byte or two of them turned, left out or doubled.
func randomBlob(r *rand.Rand) string {
	s := ""
	for range r.Intn(6) {
		s += randomPacket(r)
	}
	for range r.Intn(3) {
		if s == "" {
			break
		}
		i := r.Intn(len(s))
		switch r.Intn(4) {
		case 0:
			s = s[:i]
		case 1:
			s = s[:i] + s[i+1:]
		case 2:
			s = s[:i] + s[i:i+1] + s[i:]
		case 3:
			s = s[:i] + randomBytes(r, 1) + s[i+1:]
		}
	}
	return s
}

// short is how something is told where a test fails: texts may be long.
func short(what any) string {
	s := fmt.Sprintf("%+q", fmt.Sprintf("%+v", what))
	return s[:min(len(s), 400)]
}

// same holds requests against each other; lists without elements are the same.
func same(a, b api.Request) bool {
	keys := slices.Equal(a.Command.Keys, b.Command.Keys)
	a.Command.Keys, b.Command.Keys = nil, nil
	return keys && reflect.DeepEqual(a, b)
}

// checkNext ends the test, as the other checks do: what many inputs fail in is mostly one thing.
func checkNext(t *testing.T, s string, want api.Request, wantN int, wantE api.Errno) {
	t.Helper()
	if r, n, e := binary.Next([]byte(s)); !same(r, want) || n != wantN || e != wantE {
		t.Fatalf("Next(%s), of %d bytes: %s, %d, error %d, want %s, %d, error %d", short(s), len(s), short(r), n, e, short(want), wantN, wantE)
	}
}

func checkAll(t *testing.T, s string, want []api.Request, wantN int, wantE api.Errno) {
	t.Helper()
	if l, n, e := binary.All([]byte(s)); !slices.EqualFunc(l, want, same) || n != wantN || e != wantE {
		t.Fatalf("All(%s), of %d bytes: %s, %d, error %d, want %s, %d, error %d", short(s), len(s), short(l), n, e, short(want), wantN, wantE)
	}
}

func checkWrite(t *testing.T, r api.Request, want string, wantE api.Errno) {
	t.Helper()
	if b, e := binary.Write(r); !bytes.Equal(b, []byte(want)) || e != wantE {
		t.Fatalf("Write(%s): %s, error %d, want %s, error %d", short(r), short(string(b)), e, short(want), wantE)
	}
}

func checkPacket(t *testing.T, first, kind uint8, body, want string, wantE api.Errno) {
	t.Helper()
	if b, e := binary.Packet(first, kind, []byte(body)); string(b) != want || e != wantE {
		t.Fatalf("Packet(%d, %d, %d bytes): %s, error %d, want %s, error %d", first, kind, len(body), short(string(b)), e, short(want), wantE)
	}
}

func checkCut(t *testing.T, first uint8, s string, wantKind uint8, want string, wantN int, wantE api.Errno) {
	t.Helper()
	if kind, body, n, e := binary.Cut(first, []byte(s)); kind != wantKind || string(body) != want || n != wantN || e != wantE {
		t.Fatalf("Cut(%d, %s), of %d bytes: %d, %s, %d, error %d, want %d, %s, %d, error %d", first, short(s), len(s), kind, short(string(body)), n, e, wantKind, short(want), wantN, wantE)
	}
}

// checkWaits ends the test unless of these bytes none is there whole, be it to Next, to All or to Cut.
func checkWaits(t *testing.T, s string) {
	t.Helper()
	checkNext(t, s, api.Request{}, 0, api.OK)
	checkAll(t, s, nil, 0, api.OK)
	checkCut(t, 177, s, 0, "", 0, api.OK)
}

// checkShut ends the test unless bytes are ReqBad with Close, all of them, whatever comes behind.
func checkShut(t *testing.T, s string) {
	t.Helper()
	for _, behind := range []string{"", "x", "\xb1", of(4, "")} {
		checkNext(t, s+behind, bad(true), len(s)+len(behind), api.OK)
		checkAll(t, s+behind, []api.Request{bad(true)}, len(s)+len(behind), api.OK)
	}
}

// checkBad ends the test unless a packet's body is none, and so told with the packet alone, whatever comes behind; as long as it is not there whole, it is waited for.
func checkBad(t *testing.T, kind uint8, body string) {
	t.Helper()
	s := of(kind, body)
	for _, behind := range []string{"", "x", "\xb1", of(4, "")} {
		checkNext(t, s+behind, bad(false), len(s), api.OK)
	}
	checkWaits(t, s[:len(s)-1])
	checkAll(t, s+of(4, ""), []api.Request{bad(false), {Kind: 4}}, len(s)+6, api.OK)
}

// checkRequest ends the test unless a request is written as these bytes, and read of them.
func checkRequest(t *testing.T, r api.Request, s string) {
	t.Helper()
	checkWrite(t, r, s, api.OK)
	for _, behind := range []string{"", "x", "\xb1", of(4, "")} {
		checkNext(t, s+behind, r, len(s), api.OK)
	}
	checkWaits(t, s[:len(s)-1])
}

// checkRead ends the test unless Next, All and Cut tell of bytes what the library's own means tell.
func checkRead(t *testing.T, s string) {
	t.Helper()
	r, n, e := wantNext(s)
	checkNext(t, s, r, n, e)
	l, n, e := wantAll(s)
	checkAll(t, s, l, n, e)
	kind, body, n, e := wantCut(177, s)
	checkCut(t, 177, s, kind, body, n, e)
}

// checkWritten ends the test unless Write tells of a request what the table tells.
func checkWritten(t *testing.T, r api.Request) {
	t.Helper()
	s, e := wantWrite(r)
	checkWrite(t, r, s, e)
}
