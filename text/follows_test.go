package text_test

import (
	"bytes"
	"math/rand"
	"slices"
	"strings"
	"testing"

	"cloakroom/api"
	"cloakroom/text"
)

// roomy is a list with spare room behind it, in which something stands.
func roomy[T any](l []T, behind ...T) []T {
	return append(slices.Clone(l), behind...)[:len(l)]
}

// whole is a list with its spare room, as new memory.
func whole[T any](l []T) []T { return slices.Clone(l[:cap(l)]) }

// spoil changes each element of a list, and its spare room.
func spoil[T any](l []T, with T) {
	for i := range l[:cap(l)] {
		l[:cap(l)][i] = with
	}
}

// copied is a request as new memory.
func copied(r api.Request) api.Request {
	r.Command.Keys = slices.Clone(r.Command.Keys)
	return r
}

// P14.4: what is handed in is only read, its spare room neither changed nor told.
func TestWhatIsHandedInIsOnlyRead(t *testing.T) {
	r := rand.New(rand.NewSource(144))
	for range 5000 {
		s := randomBlob(r)
		b := roomy([]byte(s), []byte("\nx\r\nping\r\nquit\r\n")...)
		was := whole(b)
		q, n, e := text.Next(b)
		if want, wantN, wantE := wantNext(s); !same(q, want) || n != wantN || e != wantE {
			t.Fatalf("Next(%s): %s, %d, error %d", short(s), short(q), n, e)
		}
		l, n, e := text.All(b)
		if want, wantN, wantE := wantAll(s); !slices.EqualFunc(l, want, same) || n != wantN || e != wantE {
			t.Fatalf("All(%s): %s, %d, error %d", short(s), short(l), n, e)
		}
		if !bytes.Equal(whole(b), was) {
			t.Fatalf("%s changed", short(s))
		}
		q = randomRequest(r)
		q.Command.Keys = roomy(q.Command.Keys, "x", "a b", "")
		keys := whole(q.Command.Keys)
		checkWritten(t, q)
		wrong := spoilt(r, q)
		checkWritten(t, wrong)
		if !slices.Equal(whole(q.Command.Keys), keys) {
			t.Fatalf("%s changed", short(keys))
		}
	}
}

// P14.4: what is read shares nothing with the bytes, and no two lists of it share anything.
func TestRequestsAreNewMemory(t *testing.T) {
	r := rand.New(rand.NewSource(145))
	for range 3000 {
		s := randomBlob(r)
		b := roomy([]byte(s), []byte("get a b c\r\n")...)
		was := whole(b)
		q, _, _ := text.Next(b)
		l, _, _ := text.All(b)
		again, _, _ := text.All(b)
		want, _, _ := wantAll(s)
		spoil(b, 'z')
		first, _, _ := wantNext(s)
		if !same(q, first) || !slices.EqualFunc(l, want, same) {
			t.Fatalf("%s: what was answered changed", short(s))
		}
		copy(b[:cap(b)], was)
		spoil(q.Command.Keys, "spoilt")
		for i := range l {
			spoil(l[i].Command.Keys, "spoilt")
			if !slices.EqualFunc(l[i+1:], want[i+1:], same) {
				t.Fatalf("%s: another request changed", short(s))
			}
		}
		spoil(l, api.Request{Kind: 99})
		if !slices.EqualFunc(again, want, same) || !bytes.Equal(whole(b), was) {
			t.Fatalf("%s changed", short(s))
		}
		checkRead(t, s)
	}
}

// P14.4: so do the bytes that are written.
func TestBytesAreNewMemory(t *testing.T) {
	r := rand.New(rand.NewSource(146))
	for range 3000 {
		q := randomRequest(r)
		q.Command.Keys = roomy(q.Command.Keys, "x", "y")
		was, keys := copied(q), whole(q.Command.Keys)
		want, _ := wantWrite(q)
		b, _ := text.Write(q)
		other, _ := text.Write(q)
		spoil(other, 'z')
		spoil(q.Command.Keys, "spoilt")
		if string(b) != want {
			t.Fatalf("%s: %s changed", short(was), short(string(b)))
		}
		copy(q.Command.Keys[:cap(q.Command.Keys)], keys)
		spoil(b, 'z')
		if !same(q, was) || !slices.Equal(whole(q.Command.Keys), keys) {
			t.Fatalf("%s changed: %s", short(was), short(q))
		}
		checkWritten(t, q)
	}
}

// P14.4, R2: what is answered hangs on the arguments alone.
func TestAskedAgain(t *testing.T) {
	r := rand.New(rand.NewSource(147))
	s := "get a b\r\nset a 0 5 2\r\nxy\r\nget\r\nquit\r\nping\r\n"
	for range 300 {
		checkRead(t, s)
		checkWrite(t, ask(api.Command{Kind: 1, Keys: []string{"a", "b"}}), s[:9], api.OK)
		checkRead(t, randomBlob(r))
		checkWritten(t, spoilt(r, randomRequest(r)))
	}
}

// P14.5, W7: what is written is read back as it was, alone, whatever comes behind.
func TestThereAndBack(t *testing.T) {
	r := rand.New(rand.NewSource(148))
	for range 3000 {
		q := randomRequest(r)
		b, e := text.Write(q)
		if e != api.OK {
			t.Fatalf("Write(%s): error %d", short(q), e)
		}
		for _, behind := range []string{"", "\r", "\n", "\r\n", " ", "x", randomBytes(r, r.Intn(40)), randomBlob(r)} {
			s := string(b) + behind
			got, n, e := text.Next([]byte(s))
			if !same(got, q) || n != len(b) || e != api.OK {
				t.Fatalf("Next(%s): %s, %d, error %d, want %s, %d", short(s), short(got), n, e, short(q), len(b))
			}
			l, _, e := text.All([]byte(s))
			if e != api.OK || len(l) == 0 || !same(l[0], q) {
				t.Fatalf("All(%s): %s, error %d", short(s), short(l), e)
			}
		}
		for i := range b {
			if got, n, e := text.Next(b[:i]); !same(got, api.Request{}) || n != 0 || e != api.OK {
				t.Fatalf("Next(%s): %s, %d, error %d", short(string(b[:i])), short(got), n, e)
			}
		}
	}
}

// P14.5, W7: requests that are written one behind another are read as they were, up to the first ReqQuit.
func TestManyThereAndBack(t *testing.T) {
	r := rand.New(rand.NewSource(149))
	for range 1000 {
		var want []api.Request
		var s []byte
		for range r.Intn(20) {
			q := randomRequest(r)
			b, _ := text.Write(q)
			want, s = append(want, q), append(s, b...)
			if q.Kind == api.ReqQuit {
				break
			}
		}
		behind := randomBytes(r, r.Intn(2))
		if len(want) == 0 || want[len(want)-1].Kind != api.ReqQuit {
			behind = ""
		}
		checkAll(t, string(s)+behind, want, len(s), api.OK)
	}
}

// checkKept ends the test unless what is told of bytes is told of them with more behind, if a request was there whole, and what was read is written as the bytes that it was read of. (One that has all bytes has those behind, too.)
func checkKept(t *testing.T, s, behind string) {
	t.Helper()
	q, n, e := text.Next([]byte(s))
	if n > len(s) || e != api.OK {
		t.Fatalf("Next(%s): %d, error %d", short(s), n, e)
	}
	if n == 0 {
		if !same(q, api.Request{}) {
			t.Fatalf("Next(%s): %s, %d", short(s), short(q), n)
		}
		return
	}
	more, many, _ := text.Next([]byte(s + behind))
	all := q.Close && n == len(s) && !strings.Contains(s[:min(len(s), 514)], "\r\n")
	if !same(more, q) || !all && many != n || all && many != n+len(behind) {
		t.Fatalf("Next(%s): %s, %d; with %s behind: %s, %d", short(s), short(q), n, short(behind), short(more), many)
	}
	if q.Kind == api.ReqBad {
		return
	}
	if b, e := text.Write(q); string(b) != s[:n] || e != api.OK {
		t.Fatalf("%s was read of %s, and is written as %s, error %d", short(q), short(s[:n]), short(string(b)), e)
	}
}

// P14.5: what is told of bytes is told of them with more behind; what was read is written as the bytes that it was read of.
func TestWhatIsToldStays(t *testing.T) {
	r := rand.New(rand.NewSource(150))
	for range 10000 {
		checkKept(t, randomBlob(r), randomBlob(r)+randomBytes(r, r.Intn(3)))
	}
	for _, n := range []int{1, 512, 513, 514, 515, 2000} {
		for _, end := range []string{"", "\r", "\n", "\r\n"} {
			for _, behind := range []string{"", "x", "\n", "\r\n", "ping\r\n"} {
				checkKept(t, strings.Repeat("x", n)+end, behind)
			}
		}
	}
}

// inPieces are the requests of bytes that come in pieces, each taken as soon as it is there whole, and what is left.
func inPieces(t *testing.T, r *rand.Rand, s string) ([]api.Request, string) {
	t.Helper()
	var l []api.Request
	rest := ""
	for s != "" {
		many := 1 + r.Intn(min(len(s), []int{1, 3, 20, 1000}[r.Intn(4)]))
		rest, s = rest+s[:many], s[many:]
		for {
			q, n, e := text.Next([]byte(rest))
			if e != api.OK {
				t.Fatal(e)
			}
			if n == 0 {
				break
			}
			l, rest = append(l, q), rest[n:]
			if q.Close || q.Kind == api.ReqQuit {
				return l, ""
			}
		}
	}
	return l, rest
}

// P14.5, W1: however bytes are cut, the requests are the same.
func TestCutAnywhere(t *testing.T) {
	r := rand.New(rand.NewSource(152))
	for range 3000 {
		s := randomBlob(r) + randomBlob(r)
		if r.Intn(20) == 0 {
			s += strings.Repeat("x", 500+r.Intn(100)) + "\r\n"
		}
		want, n, _ := text.All([]byte(s))
		l, rest := inPieces(t, r, s)
		if !slices.EqualFunc(l, want, same) || rest != "" && rest != s[n:] {
			t.Fatalf("%s: in pieces %s, and %s is left; whole %s", short(s), short(l), short(rest), short(want))
		}
	}
}

// P14.5, W8: rubbish is ReqBad.
func TestRubbish(t *testing.T) {
	r := rand.New(rand.NewSource(151))
	for range 5000 {
		s := randomBytes(r, r.Intn(40))
		if _, _, is := wantLine(strings.Split(s, "\r\n")[0]); is {
			continue
		}
		q, n, e := text.Next([]byte(s + "\r\n"))
		if !same(q, bad(false)) || n == 0 || e != api.OK {
			t.Fatalf("Next(%s): %s, %d, error %d", short(s), short(q), n, e)
		}
		l, n, e := text.All([]byte(s + "\r\nping\r\n"))
		if n != len(s)+8 || e != api.OK || !same(l[len(l)-1], api.Request{Kind: 4}) || slices.ContainsFunc(l[:len(l)-1], func(q api.Request) bool { return !same(q, bad(false)) }) {
			t.Fatalf("All(%s): %s, %d, error %d", short(s), short(l), n, e)
		}
	}
	for c := range 256 {
		checkBad(t, string([]byte{byte(c)}))
		checkNext(t, strings.Repeat(string([]byte{byte(c)}), 514), bad(true), 514, api.OK)
	}
}

// Looks for bytes, and requests, of which something else is told than expressions and the table tell.
func FuzzText(f *testing.F) {
	f.Add([]byte("get a b\r\nset a 0 5 2\r\nxy\r\n"), []byte("\r\n"), uint8(1), uint8(1), "a b", "", uint64(0), uint64(0), "s")
	f.Add([]byte("cas k 4294967295 1099511627776 2 18446744073709551615\r\n\r\n\r\nuser 3 s\r\n"), []byte("track on\r\n"), uint8(1), uint8(5), "k", "v", uint64(7), uint64(9), "")
	f.Add([]byte("append a 1\r\nxyz"), []byte("ping\r\nquit\r\n"), uint8(2), uint8(0), "", "", uint64(3), uint64(0), "secret")
	f.Add([]byte("delete a a\r\nincr a 01\r\ndecr a 1\r\ntouch a 5\r\nflush\r\n"), []byte{}, uint8(3), uint8(11), "", "", uint64(0), uint64(1), "")
	f.Fuzz(func(t *testing.T, b, behind []byte, kind, does uint8, keys, value string, n, m uint64, secret string) {
		checkRead(t, string(b))
		if len(b)+len(behind) <= maxText {
			checkKept(t, string(b), string(behind))
		}
		q := api.Request{Kind: kind, Tenant: int(n & 3), Secret: secret, On: n&4 != 0, Close: n&8 != 0}
		checkWritten(t, q)
		q.Command = api.Command{Kind: does, Tenant: int(n >> 4 & 3), Value: value, Flags: uint32(m), For: int(n >> 6), Unique: m, By: m}
		if keys != "" {
			q.Command.Keys = strings.Split(keys, " ")
		}
		checkWritten(t, q)
		for bit := range 6 {
			less := q
			if bit&1 != 0 {
				less.Command.By = 0
			}
			if bit&2 != 0 {
				less.Command.Unique, less.Tenant, less.Secret, less.On, less.Close = 0, 0, "", false, false
			}
			if bit&4 != 0 {
				less.Command.Flags, less.Command.For, less.Command.Tenant = 0, 0, 0
			}
			checkWritten(t, less)
			if s, e := text.Write(less); e == api.OK {
				checkNext(t, string(s)+string(behind[:min(len(behind), 100)]), less, len(s), api.OK)
			}
		}
	})
}
