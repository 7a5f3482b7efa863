package binary_test

import (
	"bytes"
	"math/rand"
	"slices"
	"strings"
	"testing"

	"cloakroom/api"
	"cloakroom/binary"
)

// roomy is a list with spare room behind it, in which something stands.
func roomy[T any](l []T, behind ...T) []T {
	return append(slices.Clone(l), behind...)[:len(l)]
}

// whole is a list with its spare room, as new memory.
func whole[T any](l []T) []T { return slices.Clone(l[:cap(l)]) }

// spoil changes each element of a list, and its spare room.
func spoil[T any](l []T, with T) {
	for i := range l[:cap(l)] {
		l[:cap(l)][i] = with
	}
}

// copied is a request as new memory.
func copied(r api.Request) api.Request {
	r.Command.Keys = slices.Clone(r.Command.Keys)
	return r
}

// P16.4: what is handed in is only read, its spare room neither changed nor told.
func TestWhatIsHandedInIsOnlyRead(t *testing.T) {
	r := rand.New(rand.NewSource(164))
	for range 5000 {
		s := randomBlob(r)
		b := roomy([]byte(s), []byte("\x00\x00\x00\x00\x01\x01"+of(4, "")+of(5, ""))...)
		was := whole(b)
		q, n, e := binary.Next(b)
		if want, wantN, wantE := wantNext(s); !same(q, want) || n != wantN || e != wantE {
			t.Fatalf("Next(%s): %s, %d, error %d", short(s), short(q), n, e)
		}
		l, n, e := binary.All(b)
		if want, wantN, wantE := wantAll(s); !slices.EqualFunc(l, want, same) || n != wantN || e != wantE {
			t.Fatalf("All(%s): %s, %d, error %d", short(s), short(l), n, e)
		}
		kind, body, n, e := binary.Cut(177, b)
		if wantKind, want, wantN, wantE := wantCut(177, s); kind != wantKind || string(body) != want || n != wantN || e != wantE {
			t.Fatalf("Cut(%s): %d, %s, %d, error %d", short(s), kind, short(string(body)), n, e)
		}
		p, e := binary.Packet(9, 8, b)
		if string(p) != packet(9, 8, s) || e != api.OK {
			t.Fatalf("Packet(%s): %s, error %d", short(s), short(string(p)), e)
		}
		if !bytes.Equal(whole(b), was) {
			t.Fatalf("%s changed", short(s))
		}
		q = randomRequest(r)
		q.Command.Keys = roomy(q.Command.Keys, "x", "a b", "")
		keys := whole(q.Command.Keys)
		checkWritten(t, q)
		wrong := spoilt(r, q)
		checkWritten(t, wrong)
		if !slices.Equal(whole(q.Command.Keys), keys) {
			t.Fatalf("%s changed", short(keys))
		}
	}
}

// P16.4: what is read shares nothing with the bytes, and no two lists of it share anything.
func TestRequestsAreNewMemory(t *testing.T) {
	r := rand.New(rand.NewSource(165))
	for range 3000 {
		s := randomBlob(r)
		b := roomy([]byte(s), []byte(of(2, "\x00s"))...)
		was := whole(b)
		q, _, _ := binary.Next(b)
		l, _, _ := binary.All(b)
		again, _, _ := binary.All(b)
		want, _, _ := wantAll(s)
		first, _, _ := wantNext(s)
		spoil(b, 'z')
		if !same(q, first) || !slices.EqualFunc(l, want, same) {
			t.Fatalf("%s: what was answered changed", short(s))
		}
		copy(b[:cap(b)], was)
		spoil(q.Command.Keys, "spoilt")
		for i := range l {
			spoil(l[i].Command.Keys, "spoilt")
			if !slices.EqualFunc(l[i+1:], want[i+1:], same) {
				t.Fatalf("%s: another request changed", short(s))
			}
		}
		spoil(l, api.Request{Kind: 99})
		if !slices.EqualFunc(again, want, same) || !bytes.Equal(whole(b), was) {
			t.Fatalf("%s changed", short(s))
		}
		checkRead(t, s)
	}
}

// P16.4: so do bodies that are cut off, and packets.
func TestBodiesAndPacketsAreNewMemory(t *testing.T) {
	r := rand.New(rand.NewSource(166))
	for range 3000 {
		s := randomBytes(r, r.Intn(300)>>r.Intn(9))
		b := roomy([]byte(packet(9, 8, s)), []byte("behind")...)
		was := whole(b)
		_, body, _, _ := binary.Cut(9, b)
		_, other, _, _ := binary.Cut(9, b)
		spoil(other, 'y')
		if !bytes.Equal(whole(b), was) {
			t.Fatalf("%s changed", short(string(was)))
		}
		spoil(b, 'z')
		if string(body) != s {
			t.Fatalf("the body of %s changed: %s", short(string(was)), short(string(body)))
		}
		in := roomy([]byte(s), []byte("behind")...)
		was = whole(in)
		p, _ := binary.Packet(9, 8, in)
		q, _ := binary.Packet(9, 8, in)
		spoil(q, 'y')
		if !bytes.Equal(whole(in), was) {
			t.Fatalf("%s changed", short(s))
		}
		spoil(in, 'z')
		if string(p) != packet(9, 8, s) {
			t.Fatalf("the packet of %s changed: %s", short(s), short(string(p)))
		}
	}
}

// P16.4: and the bytes that are written.
func TestBytesAreNewMemory(t *testing.T) {
	r := rand.New(rand.NewSource(167))
	for range 3000 {
		q := randomRequest(r)
		q.Command.Keys = roomy(q.Command.Keys, "x", "y")
		was, keys := copied(q), whole(q.Command.Keys)
		want, _ := wantWrite(q)
		b, _ := binary.Write(q)
		other, _ := binary.Write(q)
		spoil(other, 'z')
		spoil(q.Command.Keys, "spoilt")
		if string(b) != want {
			t.Fatalf("%s: %s changed", short(was), short(string(b)))
		}
		copy(q.Command.Keys[:cap(q.Command.Keys)], keys)
		spoil(b, 'z')
		if !same(q, was) || !slices.Equal(whole(q.Command.Keys), keys) {
			t.Fatalf("%s changed: %s", short(was), short(q))
		}
		checkWritten(t, q)
	}
}

// P16.4, R2: what is answered hangs on the arguments alone.
func TestAskedAgain(t *testing.T) {
	r := rand.New(rand.NewSource(168))
	get := ask(api.Command{Kind: 1, Keys: []string{"a", "b"}})
	first, _ := wantWrite(get)
	s := first + of(4, "x") + of(2, "\x01s") + of(5, "") + of(4, "")
	for range 300 {
		checkRead(t, s)
		checkWrite(t, get, first, api.OK)
		checkPacket(t, 1, 2, "3", "\x01\x02\x00\x00\x00\x013", api.OK)
		checkRead(t, randomBlob(r))
		checkWritten(t, spoilt(r, randomRequest(r)))
		checkShut(t, "\xb2")
	}
}

// P16.5, W7: what is written is read back as it was, alone, whatever comes behind.
func TestThereAndBack(t *testing.T) {
	r := rand.New(rand.NewSource(169))
	for range 3000 {
		q := randomRequest(r)
		b, e := binary.Write(q)
		if e != api.OK {
			t.Fatalf("Write(%s): error %d", short(q), e)
		}
		for _, behind := range []string{"", "\x00", "\x01", "\xb1", "\xb2", "\xb1\x06", "\xb1\x01\x00\x00\x10\x01", randomBytes(r, r.Intn(40)), randomBlob(r), strings.Repeat("\xff", maxText-len(b))} {
			s := string(b) + behind
			if len(s) > maxText {
				continue
			}
			got, n, e := binary.Next([]byte(s))
			if !same(got, q) || n != len(b) || e != api.OK {
				t.Fatalf("Next(%s): %s, %d, error %d, want %s, %d", short(s), short(got), n, e, short(q), len(b))
			}
			l, _, e := binary.All([]byte(s))
			if e != api.OK || len(l) == 0 || !same(l[0], q) {
				t.Fatalf("All(%s): %s, error %d", short(s), short(l), e)
			}
		}
		for i := range b {
			if got, n, e := binary.Next(b[:i]); !same(got, api.Request{}) || n != 0 || e != api.OK {
				t.Fatalf("Next(%s): %s, %d, error %d", short(string(b[:i])), short(got), n, e)
			}
		}
	}
}

// P16.5, W7: so are packets of any first byte, kind and body.
func TestPacketsThereAndBack(t *testing.T) {
	r := rand.New(rand.NewSource(170))
	for range 5000 {
		first, kind := uint8(r.Intn(256)), uint8(r.Intn(256))
		body := randomBytes(r, r.Intn(maxPacket+1)>>r.Intn(13))
		b, e := binary.Packet(first, kind, []byte(body))
		if e != api.OK {
			t.Fatal(e)
		}
		for _, behind := range []string{"", "x", string(b), randomBlob(r), strings.Repeat("x", maxText-len(b))} {
			if s := string(b) + behind; len(s) <= maxText {
				checkCut(t, first, s, kind, body, len(b), api.OK)
			}
		}
		checkCut(t, first, string(b[:r.Intn(len(b))]), 0, "", 0, api.OK)
	}
}

// P16.5, W7: requests that are written one behind another are read as they were, up to the first ReqQuit.
func TestManyThereAndBack(t *testing.T) {
	r := rand.New(rand.NewSource(171))
	for range 1000 {
		var want []api.Request
		var s []byte
		for range r.Intn(15) {
			q := randomRequest(r)
			b, _ := binary.Write(q)
			want, s = append(want, q), append(s, b...)
			if q.Kind == api.ReqQuit {
				break
			}
		}
		behind := randomBytes(r, r.Intn(2))
		if len(want) == 0 || want[len(want)-1].Kind != api.ReqQuit {
			behind = ""
		}
		checkAll(t, string(s)+behind, want, len(s), api.OK)
	}
}

// checkKept ends the test unless what is told of bytes is told of them with more behind, if a request was there whole, and what was read is written as the bytes that it was read of. (One with Close has those behind, too.)
func checkKept(t *testing.T, s, behind string) {
	t.Helper()
	q, n, e := binary.Next([]byte(s))
	if n > len(s) || e != api.OK || q.Close && n != len(s) {
		t.Fatalf("Next(%s): %s, %d, error %d", short(s), short(q), n, e)
	}
	if n == 0 {
		if !same(q, api.Request{}) {
			t.Fatalf("Next(%s): %s, %d", short(s), short(q), n)
		}
		return
	}
	more, many, _ := binary.Next([]byte(s + behind))
	if !same(more, q) || !q.Close && many != n || q.Close && many != n+len(behind) {
		t.Fatalf("Next(%s): %s, %d; with %s behind: %s, %d", short(s), short(q), n, short(behind), short(more), many)
	}
	b, e := binary.Write(q)
	if q.Kind == api.ReqBad {
		if len(b) != 0 || e != api.ErrBad {
			t.Fatalf("Write(%s): %s, error %d", short(q), short(string(b)), e)
		}
		return
	}
	if string(b) != s[:n] || e != api.OK {
		t.Fatalf("%s was read of %s, and is written as %s, error %d", short(q), short(s[:n]), short(string(b)), e)
	}
}

// P16.5: a request that was read, and is not ReqBad, is written as the bytes that it was read of.
func TestWhatIsToldStays(t *testing.T) {
	r := rand.New(rand.NewSource(172))
	for range 10000 {
		checkKept(t, randomBlob(r), randomBlob(r)+randomBytes(r, r.Intn(3)))
	}
	for kind := uint8(1); kind <= 5; kind++ {
		for c := range 256 {
			for _, behind := range []string{"", "s", "\x00\x00\x00\x00\x00\x00\x00"} {
				checkKept(t, of(kind, string([]byte{byte(c)})+behind), "x")
			}
		}
	}
}

// inPieces are the requests of bytes that come in these pieces, each taken as soon as it is there whole, and what is left.
func inPieces(t *testing.T, pieces []string) ([]api.Request, string) {
	t.Helper()
	var l []api.Request
	rest := ""
	for _, piece := range pieces {
		rest += piece
		more, n, e := binary.All([]byte(rest))
		if e != api.OK {
			t.Fatal(e)
		}
		l, rest = append(l, more...), rest[n:]
		if len(l) > 0 && (l[len(l)-1].Close || l[len(l)-1].Kind == api.ReqQuit) {
			return l, ""
		}
	}
	return l, rest
}

// checkPieces ends the test unless bytes in pieces are read as they are whole.
func checkPieces(t *testing.T, pieces ...string) {
	t.Helper()
	s := strings.Join(pieces, "")
	want, n, _ := wantAll(s)
	l, rest := inPieces(t, pieces)
	if !slices.EqualFunc(l, want, same) || rest != "" && rest != s[n:] {
		t.Fatalf("%s: in %d pieces %s, and %s is left; whole %s", short(s), len(pieces), short(l), short(rest), short(want))
	}
}

// P16.5, W1: at whichever places bytes are cut, the requests are the same.
func TestCutAnywhere(t *testing.T) {
	r := rand.New(rand.NewSource(173))
	for range 1500 {
		s := randomBlob(r)
		for i := range len(s) + 1 {
			checkPieces(t, s[:i], s[i:])
		}
		checkPieces(t, bytewise(s)...)
		var pieces []string
		for rest := s; rest != ""; {
			many := 1 + r.Intn(min(len(rest), []int{3, 20, 1000}[r.Intn(3)]))
			pieces, rest = append(pieces, rest[:many]), rest[many:]
		}
		checkPieces(t, pieces...)
	}
	for _, s := range []string{of(1, strings.Repeat("x", 4096)) + of(4, ""), of(4, "") + "\xb1\x02\x00\x00\x10\x01" + of(4, ""), of(3, "\x02") + "\xb1\x02\x01\x00\x00\x00" + of(4, ""), of(4, "") + "\xb1\x07" + of(5, ""), of(4, "") + "x" + of(5, "")} {
		for i := range len(s) + 1 {
			checkPieces(t, s[:i], s[i:])
		}
		checkPieces(t, bytewise(s)...)
	}
}

// bytewise is a text, a byte a piece.
func bytewise(s string) []string {
	var l []string
	for i := range len(s) {
		l = append(l, s[i:i+1])
	}
	return l
}

// P16.5, W8: rubbish shuts the connection, or is ReqBad of its packet; what stands ahead of it is read, and what stands behind such a packet.
func TestRubbish(t *testing.T) {
	r := rand.New(rand.NewSource(174))
	ping := api.Request{Kind: 4}
	for range 5000 {
		s := randomBytes(r, 1+r.Intn(40))
		if s[0] != 177 {
			checkShut(t, s)
			checkAll(t, of(4, "")+s, []api.Request{ping, bad(true)}, 6+len(s), api.OK)
		}
		kind := uint8(3 + r.Intn(3))
		body := s + "xx"
		checkBad(t, kind, body)
		checkAll(t, of(4, "")+of(kind, body)+of(4, ""), []api.Request{ping, bad(false), ping}, 18+len(body), api.OK)
	}
}

// Looks for bytes, and requests, of which something else is told than the library's own means and the table tell.
func FuzzBinary(f *testing.F) {
	f.Add([]byte(of(1, bytesOf(api.Command{Kind: 1, Keys: []string{"a", "b"}}))), []byte(of(4, "")), uint8(1), uint8(1), "a b", "", uint64(0), uint64(0), "s")
	f.Add([]byte(of(2, "\x03\x00\xff")+of(3, "\x01")+of(3, "\x02")+of(5, "")), []byte("\xb2"), uint8(1), uint8(5), "k", "v", uint64(7), uint64(9), "")
	f.Add([]byte(of(1, bytesOf(api.Command{Kind: 5, Keys: []string{"\xb1"}, Value: "\r\n", Flags: 1, For: 2, Unique: 3}))), []byte("\xb1\x06"), uint8(2), uint8(0), "", "", uint64(3), uint64(0), "secret")
	f.Add([]byte("\xb1\x01\x00\x00\x10\x01"), []byte{}, uint8(3), uint8(11), "", "", uint64(0), uint64(1), "")
	f.Fuzz(func(t *testing.T, b, behind []byte, kind, does uint8, keys, value string, n, m uint64, secret string) {
		checkRead(t, string(b))
		if len(b)+len(behind) <= maxText {
			checkKept(t, string(b), string(behind))
			checkPieces(t, string(b), string(behind))
		}
		if len(b) <= maxPacket {
			checkPacket(t, kind, does, string(b), packet(kind, does, string(b)), api.OK)
			checkRead(t, of(kind, string(b)))
		}
		q := api.Request{Kind: kind, Tenant: int(n & 3), Secret: secret, On: n&4 != 0, Close: n&8 != 0}
		checkWritten(t, q)
		q.Command = api.Command{Kind: does, Tenant: int(n >> 4 & 3), Value: value, Flags: uint32(m), For: int(n >> 6), Unique: m, By: m}
		if keys != "" {
			q.Command.Keys = strings.Split(keys, " ")
		}
		checkWritten(t, q)
		for bit := range 8 {
			less := q
			if bit&1 != 0 {
				less.Command.By = 0
			}
			if bit&2 != 0 {
				less.Command.Unique, less.Tenant, less.Secret, less.On, less.Close = 0, 0, "", false, false
			}
			if bit&4 != 0 {
				less.Command.Flags, less.Command.For, less.Command.Tenant = 0, 0, 0
			}
			checkWritten(t, less)
			if s, e := binary.Write(less); e == api.OK {
				checkNext(t, string(s)+string(behind[:min(len(behind), 100)]), less, len(s), api.OK)
			}
		}
	})
}
