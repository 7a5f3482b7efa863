package packed_test

import (
	"bytes"
	"math/rand"
	"slices"
	"strings"
	"testing"

	"cloakroom/api"
	"cloakroom/packed"
	"cloakroom/words"
)

// roomy is a list with spare room behind it, in which something stands.
func roomy[T any](l []T, behind ...T) []T {
	return append(slices.Clone(l), behind...)[:len(l)]
}

// whole is a list with its spare room, as new memory.
func whole[T any](l []T) []T { return slices.Clone(l[:cap(l)]) }

// spoil changes each element of a list, and its spare room.
func spoil[T any](l []T, with T) {
	for i := range l[:cap(l)] {
		l[:cap(l)][i] = with
	}
}

// P17.3: what is handed in is only read, its spare room neither changed nor told.
func TestWhatIsHandedInIsOnlyRead(t *testing.T) {
	r := rand.New(rand.NewSource(173))
	for range 5000 {
		s := randomBlob(r)
		b := roomy([]byte(s), []byte("\x00\x00\x00\x00\x01\x01"+packet(4, "")+packet(7, "k"))...)
		was := whole(b)
		a, n, e := packed.Read(b)
		if want, wantN, wantE := wantRead(s); !same(a, want) || n != wantN || e != wantE {
			t.Fatalf("Read(%s): %s, %d, error %d", short(s), short(a), n, e)
		}
		if !bytes.Equal(whole(b), was) {
			t.Fatalf("%s changed", short(s))
		}
		a = spoilt(r, randomAnswer(r))
		a.Result.Items = roomy(a.Result.Items, api.Item{Key: "x"}, api.Item{}, api.Item{Key: "y"})
		items := whole(a.Result.Items)
		checkWritten(t, a)
		if !slices.Equal(whole(a.Result.Items), items) {
			t.Fatalf("%s changed", short(items))
		}
	}
}

// P17.3: what is read shares nothing with the bytes, nor with what is read of them again.
func TestAnswersAreNewMemory(t *testing.T) {
	r := rand.New(rand.NewSource(174))
	for range 3000 {
		want := randomAnswer(r)
		s, _ := wantWrite(want)
		b := roomy([]byte(s), []byte(packet(7, "k"))...)
		was := whole(b)
		a, _, _ := packed.Read(b)
		again, _, _ := packed.Read(b)
		spoil(b, 'z')
		if !same(a, want) {
			t.Fatalf("%s changed to %s", short(want), short(a))
		}
		copy(b[:cap(b)], was)
		spoil(a.Result.Items, api.Item{Key: "spoilt"})
		if !same(again, want) || !bytes.Equal(whole(b), was) {
			t.Fatalf("%s changed to %s", short(want), short(again))
		}
		checkModel(t, s)
	}
}

// P17.3: so do the bytes that are written.
func TestBytesAreNewMemory(t *testing.T) {
	r := rand.New(rand.NewSource(175))
	for range 3000 {
		a := randomAnswer(r)
		a.Result.Items = roomy(a.Result.Items, api.Item{Key: "x"}, api.Item{Key: "y"})
		was, items := copied(a), whole(a.Result.Items)
		want, _ := wantWrite(a)
		b, _ := packed.Write(a)
		other, _ := packed.Write(a)
		spoil(other, 'z')
		spoil(a.Result.Items, api.Item{Key: "spoilt"})
		if string(b) != want {
			t.Fatalf("%s: %s changed", short(was), short(string(b)))
		}
		copy(a.Result.Items[:cap(a.Result.Items)], items)
		spoil(b, 'z')
		if !same(a, was) || !slices.Equal(whole(a.Result.Items), items) {
			t.Fatalf("%s changed: %s", short(was), short(a))
		}
		checkWritten(t, a)
	}
}

// P17.3, R2: what is answered hangs on the arguments alone.
func TestAskedAgain(t *testing.T) {
	r := rand.New(rand.NewSource(176))
	a := got(someItems(3)...)
	s, _ := wantWrite(a)
	for range 300 {
		checkAnswer(t, a, s)
		checkModel(t, randomBlob(r))
		checkWritten(t, spoilt(r, randomAnswer(r)))
		checkBody(t, 1, "\x01\x01\x00\x02"+itemOf(api.Item{Key: "k"}))
	}
}

// P17.4, W7: what is written is read back as it was, alone, whatever comes behind; no beginning of it is there whole.
func TestThereAndBack(t *testing.T) {
	r := rand.New(rand.NewSource(177))
	for range 3000 {
		a := randomAnswer(r)
		b, e := packed.Write(a)
		if e != api.OK {
			t.Fatalf("Write(%s): error %d", short(a), e)
		}
		for _, behind := range append(behinds(), "\xff", randomBytes(r, r.Intn(40)), randomBlob(r), strings.Repeat("\xff", maxText-len(b))) {
			if s := string(b) + behind; len(s) <= maxText {
				checkRead(t, s, a, len(b), api.OK)
			}
		}
		for i := range b {
			checkWaits(t, string(b[:i]))
		}
	}
}

// P17.4, W7: so are answers that stand behind one another, each as it was, of every row.
func TestBehindOneAnother(t *testing.T) {
	r := rand.New(rand.NewSource(178))
	lists := [][]api.Answer{each(), slices.Repeat([]api.Answer{got(someItems(8)...), push("k")}, 20), {rich()[0], rich()[3], rich()[6], got()}}
	for range 1000 {
		var l []api.Answer
		for range r.Intn(4) {
			l = append(l, randomAnswer(r))
		}
		lists = append(lists, l)
	}
	for _, l := range lists {
		var b []byte
		for _, a := range l {
			one, e := packed.Write(a)
			if e != api.OK {
				t.Fatalf("Write(%s): error %d", short(a), e)
			}
			b = append(b, one...)
		}
		for _, want := range l {
			a, n, e := packed.Read(b)
			if !same(a, want) || n == 0 || e != api.OK {
				t.Fatalf("Read(%s): %s, %d, error %d, want %s", short(string(b)), short(a), n, e, short(want))
			}
			b = b[n:]
		}
		checkWaits(t, string(b))
		if len(b) != 0 {
			t.Fatalf("%s is left", short(string(b)))
		}
	}
}

// checkKept ends the test unless what is told of bytes is told of them with more behind, if an answer was there whole or can't be, and what was read is written as the bytes that it was read of.
func checkKept(t *testing.T, s, behind string) {
	t.Helper()
	a, n, e := packed.Read([]byte(s))
	if n == 0 && e == api.OK {
		if !same(a, api.Answer{}) {
			t.Fatalf("Read(%s): %s, %d", short(s), short(a), n)
		}
		return
	}
	checkRead(t, s+behind, a, n, e)
	if e != api.OK {
		return
	}
	checkWrite(t, a, s[:n], api.OK)
	if words.Check(a) != api.OK {
		t.Fatalf("%s was read, and may not be", short(a))
	}
}

// P17.4: what is read is written as the bytes that it was read of.
func TestWhatIsToldStays(t *testing.T) {
	r := rand.New(rand.NewSource(179))
	for range 20000 {
		s, behind := randomBlob(r), randomBlob(r)
		if len(s)+len(behind) <= maxText {
			checkKept(t, s, behind)
		}
	}
	for kind := range uint8(9) {
		for c := range 256 {
			for _, behind := range []string{"", "\x01", "\x01\x00\x00"} {
				checkKept(t, packet(kind, string([]byte{byte(c)})+behind), "x")
			}
		}
	}
}

// seen is an answer whose keys may stand in lines.
func seen(a api.Answer) api.Answer {
	a = copied(a)
	turn := func(c rune) rune { return '!' + c%94 }
	a.Key = strings.Map(turn, a.Key)
	for i, x := range a.Result.Items {
		a.Result.Items[i].Key = strings.Map(turn, x.Key)
	}
	return a
}

// checkBoth ends the test unless an answer that has lines and a packet is read as the same one of both.
func checkBoth(t *testing.T, a api.Answer) {
	t.Helper()
	lines, e := words.Write(a)
	if e != api.OK {
		t.Fatalf("words.Write(%s): error %d", short(a), e)
	}
	b, e := packed.Write(a)
	if e != api.OK {
		t.Fatalf("Write(%s): error %d", short(a), e)
	}
	one, n, e := words.Read(lines, a.Of)
	if n != len(lines) || e != api.OK {
		t.Fatalf("words.Read(%s): %d, error %d", short(string(lines)), n, e)
	}
	other, n, e := packed.Read(b)
	if !same(one, other) || n != len(b) || e != api.OK {
		t.Fatalf("%s of lines, %s of a packet, error %d", short(one), short(other), e)
	}
}

// P17.4: both protocols tell the same answers.
func TestBothProtocols(t *testing.T) {
	for _, a := range each() {
		checkBoth(t, a)
	}
	for many := range maxKeys + 1 {
		checkBoth(t, got(someItems(many)...))
	}
	for _, n := range numbers() {
		checkBoth(t, result(6, 1, n))
		checkBoth(t, result(7, 1, n))
		checkBoth(t, result(10, 1, min(n, maxKeys)))
		checkBoth(t, got(api.Item{Key: "k", Flags: uint32(min(n, maxFlags)), Until: int(min(n, maxClock)), Unique: n}))
	}
	checkBoth(t, push(strings.Repeat("~", maxKey)))
	r := rand.New(rand.NewSource(180))
	for range 5000 {
		checkBoth(t, seen(randomAnswer(r)))
	}
}

// P17.4: of answers that one protocol can't tell, the other may: keys with any bytes have packets alone, and the longest gets lines alone.
func TestOneProtocolAlone(t *testing.T) {
	for _, a := range []api.Answer{push("a b"), push("\x00"), push("\x7f"), got(api.Item{Key: "\r\n"})} {
		s, _ := wantWrite(a)
		checkAnswer(t, a, s)
		if b, e := words.Write(a); len(b) != 0 || e != api.ErrBad {
			t.Error(b, e)
		}
	}
	a := eight(4097)
	checkWrite(t, a, "", api.ErrText)
	if b, e := words.Write(a); len(b) < 4096 || e != api.OK {
		t.Error(len(b), e)
	}
}

// Looks for bytes, and answers, of which something else is told than the library's own means and the table of packets tell.
func FuzzPacked(f *testing.F) {
	f.Add([]byte(packet(1, bodyOf(got(someItems(3)...)))), []byte(packet(4, "")), uint8(1), uint8(1), uint8(1), "a b", "", uint64(0), uint64(7), false)
	f.Add([]byte(packet(1, "\x06\x01\xac\x02\x00")), []byte("\xb2"), uint8(1), uint8(6), uint8(1), "", "", uint64(300), uint64(0), false)
	f.Add([]byte(packet(2, "\x01")+packet(3, "\x02")), []byte("x"), uint8(2), uint8(0), uint8(0), "", "v", uint64(0), uint64(0), true)
	f.Add([]byte(packet(7, "\x00k")), []byte("\xb2\x01\x00\x00\x10\x01"), uint8(7), uint8(0), uint8(0), "key", "", uint64(0), uint64(0), false)
	f.Fuzz(func(t *testing.T, b, behind []byte, kind, of, came uint8, keys, value string, number, n uint64, yes bool) {
		checkModel(t, string(b))
		if len(b)+len(behind) <= maxText {
			checkKept(t, string(b), string(behind))
		}
		if len(b) <= maxPacket {
			checkModel(t, packet(kind, string(b)))
			checkKept(t, packet(1, "\x01\x01\x00"+string(b[:min(len(b), 4000)])), string(behind[:min(len(behind), 100)]))
		}
		a := api.Answer{Kind: kind, Of: of, Result: api.Result{Kind: came, Number: number}, Yes: yes, Key: keys}
		checkWritten(t, a)
		a.Key = ""
		checkWritten(t, a)
		a.Yes, a.Result.Number = false, 0
		if keys != "" {
			for i, key := range strings.Split(keys, " ") {
				a.Result.Items = append(a.Result.Items, api.Item{Key: key, Value: value, Flags: uint32(n), Until: int(n >> min(i, 63)), Unique: n})
			}
		}
		checkWritten(t, a)
		if s, e := packed.Write(a); e == api.OK {
			checkRead(t, string(s)+string(behind[:min(len(behind), 100)]), a, len(s), api.OK)
		}
	})
}
