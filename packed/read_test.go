package packed_test

import (
	"math/rand"
	"slices"
	"strings"
	"testing"

	"cloakroom/api"
	"cloakroom/packed"
)

// P17.2: of too few bytes nothing is told.
func TestFewBytes(t *testing.T) {
	checkWaits(t, "")
	if a, n, e := packed.Read(nil); !same(a, api.Answer{}) || n != 0 || e != api.OK {
		t.Error(a, n, e)
	}
	for c := range 256 {
		for many := range 5 {
			checkWaits(t, "\xb2"+strings.Repeat(string([]byte{byte(c)}), many))
		}
	}
	checkRead(t, "\xb2\x04\x00\x00\x00\x00", api.Answer{Kind: 4}, 6, api.OK)
	checkWaits(t, "\xb2\x04\x00\x00\x00\x01")
	checkWaits(t, "\xb2\x07\x00\x00\x00\x01")
	checkRead(t, "\xb2\x07\x00\x00\x00\x01\x00", push("\x00"), 7, api.OK)
}

// P17.2: the first byte is 178, and counts as soon as it is there.
func TestFirstBytes(t *testing.T) {
	for c := range 256 {
		s := string([]byte{byte(c)})
		if c == 178 {
			checkWaits(t, s)
			continue
		}
		for _, behind := range []string{"", "\x04", "\x04\x00\x00\x00", "\x04\x00\x00\x00\x00", "\x04\xff\xff\xff\xff", "\x01\x00\x00\x00\x04\x02\x01\x00\x00", packet(4, ""), strings.Repeat("\xb2", maxText-1)} {
			checkBad(t, s+behind)
		}
	}
}

// P17.2: a length of MaxPacket is waited for; one more is refused as soon as it is there, with its body and without.
func TestLengths(t *testing.T) {
	for kind := range 256 {
		head := string([]byte{178, byte(kind)})
		checkWaits(t, head+"\x00\x00\x10\x00")
		checkWaits(t, head+"\x00\x00\x10\x00"+strings.Repeat("\x01", 4095))
		checkBad(t, head+"\x00\x00\x10\x00"+strings.Repeat("\x01", 4096))
		for _, length := range []string{"\x00\x00\x10\x01", "\x00\x00\xff\x00", "\x00\x01\x00\x00", "\x01\x00\x00\x00", "\x80\x00\x00\x01", "\xff\xff\xff\xff"} {
			checkWaits(t, head+length[:3])
			checkBad(t, head+length)
			checkBad(t, head+length+strings.Repeat("\x01", 4097))
		}
	}
	a := eight(4096)
	s := packet(1, bodyOf(a))
	checkRead(t, s, a, 4102, api.OK)
	checkWaits(t, s[:4101])
	checkBad(t, strings.Replace(s, "\x10\x00", "\x10\x01", 1)+"x")
}

// P17.2: a body that is not all there by one byte is waited for, be it one that may be or not.
func TestNotAllThere(t *testing.T) {
	for kind := range 256 {
		for _, many := range []int{1, 2, 4, 100, 4095, 4096} {
			for _, c := range []string{"\x00", "\x01", "\xff"} {
				s := packet(uint8(kind), strings.Repeat(c, many))
				checkWaits(t, s[:len(s)-1])
				checkWaits(t, s[:6])
				checkModel(t, s)
			}
		}
	}
}

// P17.2: bytes are held against MaxText ahead of all else.
func TestTooManyBytes(t *testing.T) {
	long := eight(4096)
	for _, s := range []string{packet(4, ""), packet(1, bodyOf(long)), packet(9, ""), "", "\xb2", "\xb1", "\xb2\x01\xff\xff\xff\xff"} {
		most := s + strings.Repeat("\xb2", maxText-len(s))
		checkModel(t, most)
		if _, _, e := wantRead(most); e == api.ErrText {
			t.Fatal("the model is wrong")
		}
		for _, more := range []int{1, 2, maxText, 1 << 20} {
			checkRead(t, most+strings.Repeat("\x00", more), api.Answer{}, 0, api.ErrText)
		}
	}
	checkRead(t, packet(4, "")+strings.Repeat("x", maxText-6), api.Answer{Kind: 4}, 6, api.OK)
	checkRead(t, packet(1, bodyOf(long))+strings.Repeat("x", maxText-4102), long, 4102, api.OK)
}

// P17.2: kinds are from 1 to 7, whatever their bodies.
func TestKindsThatAreNone(t *testing.T) {
	bodies := []string{"", "\x00", "\x01", "k", "\x02\x01\x00\x00", bodyOf(got(someItems(2)...)), strings.Repeat("k", 32), strings.Repeat("k", 4096)}
	for kind := range 256 {
		for _, body := range bodies {
			if kind < 1 || kind > 7 {
				checkBody(t, uint8(kind), body)
			}
		}
	}
}

// P17.2: what is a body of one kind is none of another, but that a push's may have any bytes.
func TestBodiesOfOtherKinds(t *testing.T) {
	bodies := []string{"", "\x00", "\x01", "\x02\x01\x00\x00", "\x06\x01\x00\x00", bodyOf(got(someItems(1)...)), strings.Repeat("k", 32), strings.Repeat("k", 33)}
	may := map[uint8][]int{1: {3, 4, 5}, 2: {1, 2}, 3: {1, 2}, 4: {0}, 5: {0}, 6: {0}, 7: {1, 2, 3, 4, 5, 6}}
	for kind := uint8(1); kind <= 7; kind++ {
		for i, body := range bodies {
			if !slices.Contains(may[kind], i) {
				checkBody(t, kind, body)
				continue
			}
			a, n, e := wantRead(packet(kind, body))
			if n != 6+len(body) || e != api.OK {
				t.Fatal("the model is wrong", kind, body)
			}
			checkAnswer(t, a, packet(kind, body))
		}
	}
}

// P17.2: a body of each kind that is too short by one, too long by one, or empty.
func TestShortAndLongBodies(t *testing.T) {
	for _, a := range slices.Concat(each(), rich()) {
		body := bodyOf(a)
		if a.Kind == 7 {
			continue
		}
		for _, c := range []string{"\x00", "\x01", "k", "\xb2", "\xff"} {
			if len(body) < maxPacket {
				checkBody(t, a.Kind, body+c)
			}
		}
		if body != "" {
			checkBody(t, a.Kind, body[:len(body)-1])
			checkBody(t, a.Kind, "")
		}
		for i := range body {
			checkBad(t, packet(a.Kind, body[:i]))
		}
		if len(body) < maxPacket/2 && body != "" {
			checkBody(t, a.Kind, body+body)
		}
	}
	checkBody(t, 7, "")
	checkBody(t, 7, strings.Repeat("k", 33))
	checkAnswer(t, push(strings.Repeat("k", 32)), packet(7, strings.Repeat("k", 32)))
}

// P17.2: Yes is told by 0 or 1 alone.
func TestBytesOfYes(t *testing.T) {
	for kind := uint8(2); kind <= 3; kind++ {
		checkBody(t, kind, "")
		for c := range 256 {
			body := string([]byte{byte(c)})
			if c > 1 {
				checkBody(t, kind, body)
				continue
			}
			checkAnswer(t, api.Answer{Kind: kind, Yes: c == 1}, packet(kind, body))
			for _, behind := range []string{"\x00", "\x01", "\x02"} {
				checkBody(t, kind, body+behind)
			}
		}
	}
}

// with is the body of a get with one item, of which the field with the number i is written as these bytes.
func with(i int, field string) string {
	l := []string{"\x01", "\x01", "\x00", "\x01", "\x01", "k", "\x01", "v", "\x05", "\x06", "\x07"}
	l[i] = field
	return strings.Join(l, "")
}

// P17.2: a number that is written longer than it must be, or that ends nowhere, or above what a number can be, is none, in each field.
func TestNumbersThatAreNone(t *testing.T) {
	checkAnswer(t, got(api.Item{Key: "k", Value: "v", Flags: 5, Until: 6, Unique: 7}), packet(1, with(0, "\x01")))
	wrong := []string{
		"\x80\x00", "\x81\x00", "\x85\x00", "\x86\x80\x00", "\xff\x00", "\x80\x80\x00", "\x87\x80\x80\x80\x80\x80\x80\x80\x80\x00",
		"\xff\xff\xff\xff\xff\xff\xff\xff\xff\x02", "\xff\xff\xff\xff\xff\xff\xff\xff\xff\xff", "\x80\x80\x80\x80\x80\x80\x80\x80\x80\x80\x01", "\x81\x80\x80\x80\x80\x80\x80\x80\x80\x02",
	}
	for _, i := range []int{2, 3, 4, 6, 8, 9, 10} {
		for _, s := range wrong {
			checkBody(t, 1, with(i, s))
		}
	}
	for _, s := range wrong {
		checkBody(t, 1, "\x06\x01"+s+"\x00")
		checkBody(t, 1, "\x07\x01"+s+"\x00")
		checkBody(t, 1, "\x0a\x01"+s+"\x00")
		checkBody(t, 1, "\x02\x01\x00"+s)
		checkBody(t, 1, "\x01\x02"+s+"\x00")
	}
	for _, s := range []string{"\x80", "\xff", "\xff\xff\xff\xff\xff\xff\xff\xff\xff"} {
		checkBody(t, 1, "\x06\x01"+s)
		checkBody(t, 1, "\x02\x01\x00"+s)
		checkBody(t, 1, with(10, s))
	}
}

// P17.2: numbers above what may be; none of them is cut down to one that may be.
func TestNumbersAboveWhatMayBe(t *testing.T) {
	for _, n := range []uint64{maxFlags + 1, maxFlags + 2, 1<<32 + 5, 1 << 40, 1 << 63, all, all - 1<<32 + 1} {
		checkBody(t, 1, with(8, small(n)))
	}
	for _, n := range []uint64{maxClock + 1, maxClock + 2, 1 << 41, 1<<63 - 1, 1 << 63, 1<<63 + 6, all} {
		checkBody(t, 1, with(9, small(n)))
	}
	for _, n := range []uint64{9, 10, 127, 128, 256, 264, 1 << 32, 1<<32 + 8, 1 << 63, all} {
		checkBody(t, 1, "\x0a\x01"+small(n)+"\x00")
	}
	for _, n := range []uint64{1, 2, 128, 1 << 32, 1 << 63, all} {
		for of := byte(1); of <= 11; of++ {
			for kind := byte(1); kind <= 7; kind++ {
				if kind != 1 || of != 6 && of != 7 && of != 10 {
					checkBad(t, packet(1, string([]byte{of, kind})+small(n)+"\x00"))
				}
			}
		}
		checkBody(t, 1, with(2, small(n)))
	}
}

// P17.2: items that are told and not there, or more than may be, or more than are told; and texts that end behind the body.
func TestItemsThatAreNotThere(t *testing.T) {
	one := itemOf(api.Item{Key: "k", Value: "v"})
	for there := range 11 {
		for _, told := range []uint64{0, 1, 2, 3, 7, 8, 9, 10, 127, 128, 256, 257, 1 << 32, 1<<32 + 1, 1 << 63, all - 7, all} {
			body := "\x01\x01\x00" + small(told) + strings.Repeat(one, there)
			if told == uint64(there) && told <= maxKeys {
				checkAnswer(t, got(slices.Repeat([]api.Item{{Key: "k", Value: "v"}}, there)...), packet(1, body))
				continue
			}
			checkBody(t, 1, body)
		}
	}
	for of := byte(1); of <= 11; of++ {
		for kind := byte(1); kind <= 7; kind++ {
			if of != 1 || kind != 1 {
				checkBody(t, 1, string([]byte{of, kind})+"\x00\x01"+one)
				checkBody(t, 1, string([]byte{of, kind})+"\x00\x01")
				checkBody(t, 1, string([]byte{of, kind})+"\x00\x00"+one)
			}
		}
	}
	for _, many := range []uint64{0, 2, 3, 6, 7, 32, 33, 127, 128, 512, 513, 4096, 1 << 32, 1<<32 + 1, 1 << 63, 1<<63 + 1, all} {
		checkModel(t, packet(1, with(4, small(many))))
		checkModel(t, packet(1, with(6, small(many))))
		if many > 6 {
			checkBody(t, 1, with(4, small(many)))
			checkBody(t, 1, with(6, small(many)))
		}
	}
}

// P17.2: an Of, or a Result.Kind, that may not be, and those that don't go together with what stands behind.
func TestOfsAndResultKinds(t *testing.T) {
	for of := range 256 {
		for kind := range 256 {
			for _, behind := range []string{"\x00\x00", "\x01\x00", "\x00\x01" + itemOf(api.Item{Key: "k"})} {
				body := string([]byte{byte(of), byte(kind)}) + behind
				checkModel(t, packet(1, body))
				if of < 1 || of > 11 || kind < 1 || kind > 7 {
					checkBad(t, packet(1, body))
				}
			}
		}
	}
	checkBody(t, 1, "\x00\x01\x00\x00")
	checkBody(t, 1, "\x0c\x01\x00\x00")
	checkBody(t, 1, "\x81\x00\x01\x00\x00")
	checkBody(t, 1, "\x01\x00\x00\x00")
	checkBody(t, 1, "\x01\x08\x00\x00")
	checkBody(t, 1, "\x02\x01\x05\x00")
	checkBody(t, 1, "\x0a\x01\x09\x00")
	checkBody(t, 1, "\x0a\x02\x01\x00")
	checkBody(t, 1, "\x06\x06\x01\x00")
}

// P17.2: an answer that has bytes, and may not be, is none.
func TestAnswersThatMayNotBe(t *testing.T) {
	x := api.Item{Key: "k"}
	for _, a := range []api.Answer{
		push(""), push(strings.Repeat("k", 33)), result(0, 1, 0), result(12, 1, 0), result(1, 0, 0), result(1, 8, 0),
		result(1, 1, 1), result(2, 1, 1), result(6, 2, 1), result(10, 1, 9), result(11, 1, 1), result(2, 1, 0, x), result(1, 2, 0, x), result(10, 1, 1, x),
		got(someItems(9)...), got(x, api.Item{}), got(api.Item{Value: "v"}, x), got(api.Item{Key: strings.Repeat("k", 33)}), got(api.Item{Key: "k", Value: strings.Repeat("v", 513)}),
		got(api.Item{Key: "k", Until: -1}), got(api.Item{Key: "k", Until: least}), got(api.Item{Key: "k", Until: top}), got(x, x, api.Item{Key: "k", Until: maxClock + 1}),
	} {
		if wantCheck(a) == api.OK {
			t.Fatalf("the model lets %s be", short(a))
		}
		checkBody(t, a.Kind, bodyOf(a))
		checkWrite(t, a, "", api.ErrBad)
	}
}

// P17.2: all bodies of up to two bytes, of each kind; and all of a result's last bytes.
func TestAllShortBodies(t *testing.T) {
	for kind := uint8(0); kind <= 9; kind++ {
		checkModel(t, packet(kind, ""))
		for c := range 256 {
			checkModel(t, packet(kind, string([]byte{byte(c)})))
			for d := range 256 {
				checkModel(t, packet(kind, string([]byte{byte(c), byte(d)})))
			}
		}
	}
	for _, head := range []string{"\x01\x01", "\x06\x01", "\x0a\x01", "\x02\x07"} {
		for c := range 256 {
			for d := range 256 {
				checkModel(t, packet(1, head+string([]byte{byte(c), byte(d)})))
			}
		}
	}
}

// P17.2: which counts, where two things are wrong at once: what counts first is what binary.Cut tells.
func TestWhichCountsFirst(t *testing.T) {
	checkRead(t, strings.Repeat("\xb1", maxText+1), api.Answer{}, 0, api.ErrText)
	checkRead(t, packet(9, "")+strings.Repeat("x", maxText), api.Answer{}, 0, api.ErrText)
	checkRead(t, packet(4, "")+strings.Repeat("x", maxText-5), api.Answer{}, 0, api.ErrText)
	checkBad(t, "\xb1\x09\xff\xff\xff\xff")
	checkBad(t, "\xb1")
	checkWaits(t, "\xb2\x09\x00\x00\x00")
	checkWaits(t, "\xb2\x09\x00\x00\x00\x01")
	checkWaits(t, "\xb2\x02\x00\x00\x00\x02\x02")
	checkWaits(t, "\xb2\x04\x00\x00\x00\x01")
	checkWaits(t, "\xb2\x07\x00\x00\x10\x00"+strings.Repeat("k", 33))
	checkBad(t, "\xb2\x09\x00\x00\x00\x01x")
	checkBad(t, "\xb2\x09\x00\x00\x10\x01")
}

// P17.2: packets with any one byte turned.
func TestEachByteTurned(t *testing.T) {
	for _, a := range []api.Answer{got(api.Item{Key: "k", Value: "ab", Flags: 7, Unique: 300}, api.Item{Key: "l", Until: 200}), result(6, 1, 300), result(10, 1, 3), push("key"), {Kind: 2, Yes: true}, {Kind: 4}} {
		s, _ := wantWrite(a)
		for i := range s {
			for c := range 256 {
				turned := s[:i] + string([]byte{byte(c)}) + s[i+1:]
				checkModel(t, turned)
				checkModel(t, turned+packet(4, ""))
				checkModel(t, turned+"\x00\x00")
			}
		}
	}
}

// P17.2: packets, whole ones or not, with something turned, left out or doubled in them.
func TestManyBytes(t *testing.T) {
	r := rand.New(rand.NewSource(172))
	told := map[bool]map[api.Errno]int{false: {}, true: {}}
	for range 40000 {
		s := randomBlob(r)
		_, n, e := wantRead(s)
		told[n > 0][e]++
		checkModel(t, s)
	}
	if told[true][api.OK] < 5000 || told[false][api.OK] < 500 || told[false][api.ErrBad] < 5000 {
		t.Error("too few", told)
	}
}
