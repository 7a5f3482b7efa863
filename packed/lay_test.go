package packed_test

import (
	stdbinary "encoding/binary"
	"fmt"
	"math/rand"
	"reflect"
	"slices"
	"strconv"
	"strings"
	"testing"

	"cloakroom/api"
	"cloakroom/packed"
)

const (
	least = -1 << 63
	top   = 1<<63 - 1
	all   = 1<<64 - 1
)

// The limits, written out, so that the program's own numbers are held against them.
const (
	maxKey    = 32
	maxValue  = 512
	maxKeys   = 8
	maxPacket = 4096
	maxText   = 16384
	maxFlags  = 4294967295
	maxClock  = 1099511627776
)

// result is the answer to a command; got that to a get with these items.
func result(of, kind uint8, number uint64, items ...api.Item) api.Answer {
	return api.Answer{Kind: 1, Of: of, Result: api.Result{Kind: kind, Number: number, Items: items}}
}

func got(items ...api.Item) api.Answer { return result(1, 1, 0, items...) }

// push is the answer that tells of a key.
func push(key string) api.Answer { return api.Answer{Kind: 7, Key: key} }

// each is every answer that has the fewest things: each result of each command, both of those that say yes or not, and the others.
func each() []api.Answer {
	var l []api.Answer
	for of := uint8(1); of <= 11; of++ {
		for kind := uint8(1); kind <= 7; kind++ {
			l = append(l, result(of, kind, 0))
		}
	}
	return append(l, api.Answer{Kind: 2}, api.Answer{Kind: 2, Yes: true}, api.Answer{Kind: 3}, api.Answer{Kind: 3, Yes: true},
		api.Answer{Kind: 4}, api.Answer{Kind: 5}, api.Answer{Kind: 6}, push("k"))
}

// rich are answers that have as much as they may have.
func rich() []api.Answer {
	few := richItem()
	few.Value = few.Value[:400]
	return []api.Answer{
		got(richItem()), got(slices.Repeat([]api.Item{few}, 8)...), got(slices.Repeat([]api.Item{richItem()}, 7)...),
		result(6, 1, all), result(7, 1, all), result(10, 1, 8), push(strings.Repeat("\xff", maxKey)),
	}
}

// richItem is one that has as much as it may have.
func richItem() api.Item {
	return api.Item{Key: strings.Repeat("\xb2", maxKey), Value: strings.Repeat("\r\n\x00\xff", maxValue/4), Flags: maxFlags, Until: maxClock, Unique: all}
}

// someItems are so many, each with a key of its own.
func someItems(many int) []api.Item {
	var l []api.Item
	for i := range many {
		l = append(l, api.Item{Key: "k" + strconv.Itoa(i), Value: strings.Repeat("v", i), Flags: uint32(i), Until: i * 2, Unique: uint64(i) * 3})
	}
	return l
}

// eight is the answer to a get whose body has so many bytes, from 3645 on: seven full values, and one that is as long as needed.
func eight(many int) api.Answer {
	x := api.Item{Key: "k", Value: strings.Repeat("\xb2", maxValue)}
	a := got(slices.Repeat([]api.Item{x}, 8)...)
	a.Result.Items[7].Value = x.Value[:maxValue-len(bodyOf(a))+many]
	return a
}

// packet is an answer's packet by the library's own means.
func packet(kind uint8, body string) string {
	b := stdbinary.BigEndian.AppendUint32([]byte{178, kind}, uint32(len(body)))
	return string(b) + body
}

// small is a number's bytes by the library's own means; word a text's.
func small(n uint64) string { return string(stdbinary.AppendUvarint(nil, n)) }

func word(s string) string { return small(uint64(len(s))) + s }

// itemOf is an item's bytes, whatever it has.
func itemOf(x api.Item) string {
	return word(x.Key) + word(x.Value) + small(uint64(x.Flags)) + small(uint64(x.Until)) + small(x.Unique)
}

// bodyOf is an answer's body, whatever it has; resultOf that of a result.
func bodyOf(a api.Answer) string {
	switch a.Kind {
	case 1:
		return resultOf(a)
	case 2, 3:
		return map[bool]string{false: "\x00", true: "\x01"}[a.Yes]
	case 7:
		return a.Key
	}
	return ""
}

func resultOf(a api.Answer) string {
	s := string([]byte{a.Of, a.Result.Kind}) + small(a.Result.Number) + small(uint64(len(a.Result.Items)))
	for _, x := range a.Result.Items {
		s += itemOf(x)
	}
	return s
}

// loose reads a result in a loose way: more bytes than these are read, too, as the same result.
func loose(b string) (a api.Answer) {
	is := true
	number := func() uint64 {
		n, many := stdbinary.Uvarint([]byte(b))
		if many <= 0 {
			b, is = "", false
			return 0
		}
		b = b[many:]
		return n
	}
	text := func() string {
		many := number()
		if many > uint64(len(b)) {
			b, is = "", false
			return ""
		}
		s := b[:many]
		b = b[many:]
		return s
	}
	if len(b) < 2 {
		return api.Answer{}
	}
	a.Kind, a.Of, a.Result.Kind, b = 1, b[0], b[1], b[2:]
	a.Result.Number = number()
	for many := number(); is && many > 0; many-- {
		a.Result.Items = append(a.Result.Items, api.Item{Key: text(), Value: text(), Flags: uint32(number()), Until: int(number()), Unique: number()})
	}
	return a
}

// wantCheck tells whether an answer may be: what it has is held against what its kind has.
func wantCheck(a api.Answer) api.Errno {
	just := api.Answer{Kind: a.Kind, Of: a.Of, Result: api.Result{Kind: a.Result.Kind}}
	is := a.Kind >= 1 && a.Kind <= 7
	if a.Kind == 1 {
		is = a.Of >= 1 && a.Of <= 11 && a.Result.Kind >= 1 && a.Result.Kind <= 7
	} else {
		is = is && a.Of == 0 && a.Result.Kind == 0
	}
	switch {
	case a.Kind == 1 && a.Of == 1 && a.Result.Kind == 1:
		just.Result.Items = a.Result.Items
		is = is && len(a.Result.Items) <= maxKeys
		for _, x := range a.Result.Items {
			is = is && len(x.Key) >= 1 && len(x.Key) <= maxKey && len(x.Value) <= maxValue && x.Until >= 0 && x.Until <= maxClock
		}
	case a.Kind == 1 && slices.Contains([]uint8{6, 7, 10}, a.Of) && a.Result.Kind == 1:
		just.Result.Number = a.Result.Number
		is = is && (a.Of != 10 || a.Result.Number <= maxKeys)
	case a.Kind == 2, a.Kind == 3:
		just.Yes = a.Yes
	case a.Kind == 7:
		just.Key = a.Key
		is = is && len(a.Key) >= 1 && len(a.Key) <= maxKey
	}
	if !is || !same(just, a) {
		return api.ErrBad
	}
	return api.OK
}

// wantWrite is what Write is to tell.
func wantWrite(a api.Answer) (string, api.Errno) {
	body := bodyOf(a)
	switch {
	case wantCheck(a) != api.OK:
		return "", api.ErrBad
	case len(body) > maxPacket:
		return "", api.ErrText
	}
	return packet(a.Kind, body), api.OK
}

// wantRead is what Read is to tell: the answer that is written as the packet; there is but one that it may be.
func wantRead(s string) (api.Answer, int, api.Errno) {
	switch {
	case len(s) > maxText:
		return api.Answer{}, 0, api.ErrText
	case s == "":
		return api.Answer{}, 0, api.OK
	case s[0] != 178:
		return api.Answer{}, 0, api.ErrBad
	case len(s) < 6:
		return api.Answer{}, 0, api.OK
	}
	many := stdbinary.BigEndian.Uint32([]byte(s[2:6]))
	switch {
	case many > maxPacket:
		return api.Answer{}, 0, api.ErrBad
	case len(s)-6 < int(many):
		return api.Answer{}, 0, api.OK
	}
	body := s[6 : 6+many]
	a := api.Answer{Kind: s[1]}
	switch a.Kind {
	case 1:
		a = loose(body)
	case 2, 3:
		a.Yes = body == "\x01"
	case 7:
		a.Key = body
	}
	if w, e := wantWrite(a); e != api.OK || w != s[:6+many] {
		return api.Answer{}, 0, api.ErrBad
	}
	return a, len(s[:6+many]), api.OK
}

// randomBytes is a text of any bytes, of some more often.
func randomBytes(r *rand.Rand, many int) string {
	b := make([]byte, many)
	for i := range b {
		b[i] = byte(r.Intn(256))
		if r.Intn(3) == 0 {
			b[i] = "\x00\x01\x02\x07\x08\x09\r\n\x7f\x80\xb1\xb2\xff"[r.Intn(13)]
		}
	}
	return string(b)
}

// randomKey is one that may be, most often a short one.
func randomKey(r *rand.Rand) string {
	return randomBytes(r, 1+r.Intn([]int{1, 2, maxKey}[r.Intn(3)]))
}

func randomItem(r *rand.Rand) api.Item {
	return api.Item{Key: randomKey(r), Value: randomBytes(r, r.Intn(maxValue+1)>>r.Intn(10)), Flags: r.Uint32() >> r.Intn(32), Until: int(r.Uint64() >> r.Intn(64) % (maxClock + 1)), Unique: r.Uint64() >> r.Intn(64)}
}

// randomAnswer has a packet; every second one is that of a get.
func randomAnswer(r *rand.Rand) api.Answer {
	a := got()
	if r.Intn(2) == 0 {
		for range r.Intn(maxKeys + 1) {
			if x := randomItem(r); len(bodyOf(a))+len(itemOf(x)) <= maxPacket {
				a.Result.Items = append(a.Result.Items, x)
			}
		}
		return a
	}
	l := each()
	a = l[r.Intn(len(l))]
	switch r.Intn(8) {
	case 0:
		a = result(uint8(6+r.Intn(2)), 1, r.Uint64()>>r.Intn(64))
	case 1:
		a = result(10, 1, uint64(r.Intn(maxKeys+1)))
	case 2:
		a = push(randomKey(r))
	case 3:
		a = l[77+r.Intn(len(l)-77)]
	}
	return a
}

// spoilt is an answer of which one thing is another one: some may be nevertheless.
func spoilt(r *rand.Rand, a api.Answer) api.Answer {
	a = copied(a)
	switch r.Intn(9) {
	case 0:
		a.Kind = uint8(r.Intn(9))
	case 1:
		a.Of = uint8(r.Intn(13))
	case 2:
		a.Result.Kind = uint8(r.Intn(9))
	case 3:
		a.Result.Number = []uint64{0, 1, 8, 9, all}[r.Intn(5)]
	case 4:
		a.Result.Items = append(a.Result.Items, randomItem(r))
	case 5:
		a.Yes = !a.Yes
	case 6:
		a.Key = []string{"", "k", "a b", strings.Repeat("k", maxKey+1)}[r.Intn(4)]
	default:
		if l := a.Result.Items; len(l) > 0 {
			x := &l[r.Intn(len(l))]
			x.Key = strings.Repeat("k", []int{0, 1, maxKey, maxKey + 1}[r.Intn(4)])
			x.Until = []int{0, maxClock, maxClock + 1, -1, least, top}[r.Intn(6)]
			x.Value = strings.Repeat("v", []int{0, maxValue, maxValue + 1}[r.Intn(3)])
		}
	}
	return a
}

// randomPacket is an answer's, or that of an answer that may not be, or one of whatever body.
func randomPacket(r *rand.Rand) string {
	switch r.Intn(4) {
	case 0:
		return packet(uint8(r.Intn(9)), randomBytes(r, []int{0, 1, 2, 4, 5, 9, 33}[r.Intn(7)]))
	case 1:
		a := spoilt(r, randomAnswer(r))
		return packet(a.Kind, bodyOf(a))
	}
	a := randomAnswer(r)
	return packet(a.Kind, bodyOf(a))
}

// randomBlob is packets, one behind another, cut, or with a byte or two of them turned, left out or doubled.
func randomBlob(r *rand.Rand) string {
	s := ""
	for range 1 + r.Intn(3) {
		s += randomPacket(r)
	}
	for range r.Intn(3) {
		i := r.Intn(len(s))
		switch r.Intn(5) {
		case 0:
			s = s[:i+1]
		case 1:
			s = s[:i] + s[i+1:] + "x"
		case 2:
			s = s[:i] + s[i:i+1] + s[i:]
		default:
			i = min(i, r.Intn(20))
			s = s[:i] + randomBytes(r, 1) + s[i+1:]
		}
	}
	return s
}

// copied is an answer as new memory.
func copied(a api.Answer) api.Answer {
	a.Result.Items = slices.Clone(a.Result.Items)
	return a
}

// same tells whether two answers are the same: a list without elements may be nil or not.
func same(a, b api.Answer) bool {
	items := slices.Equal(a.Result.Items, b.Result.Items)
	a.Result.Items, b.Result.Items = nil, nil
	return items && reflect.DeepEqual(a, b)
}

// short is how something is told where a test fails: texts may be long.
func short(what any) string {
	s := fmt.Sprintf("%+q", fmt.Sprintf("%+v", what))
	return s[:min(len(s), 400)]
}

// checkRead ends the test, as the other checks do: what many inputs fail in is mostly one thing.
func checkRead(t *testing.T, s string, want api.Answer, wantN int, wantE api.Errno) {
	t.Helper()
	if a, n, e := packed.Read([]byte(s)); !same(a, want) || n != wantN || e != wantE {
		t.Fatalf("Read(%s), of %d bytes: %s, %d, error %d, want %s, %d, error %d", short(s), len(s), short(a), n, e, short(want), wantN, wantE)
	}
}

func checkWrite(t *testing.T, a api.Answer, want string, wantE api.Errno) {
	t.Helper()
	if b, e := packed.Write(a); string(b) != want || e != wantE {
		t.Fatalf("Write(%s): %s, error %d, want %s, error %d", short(a), short(string(b)), e, short(want), wantE)
	}
}

// checkWaits and checkBad end the test unless of these bytes none is there whole, or they are none's.
func checkWaits(t *testing.T, s string) {
	t.Helper()
	checkRead(t, s, api.Answer{}, 0, api.OK)
}

func checkBad(t *testing.T, s string) {
	t.Helper()
	checkRead(t, s, api.Answer{}, 0, api.ErrBad)
}

// behinds are bytes that may stand behind a packet.
func behinds() []string {
	return []string{"", "x", "\x00", "\xb1", "\xb2", packet(4, ""), packet(9, ""), "\xb2\x01\xff\xff\xff\xff"}
}

// checkBody ends the test unless a packet's body is none of its kind's, whatever comes behind; as long as it is not there whole, it is waited for.
func checkBody(t *testing.T, kind uint8, body string) {
	t.Helper()
	s := packet(kind, body)
	for _, behind := range behinds() {
		checkBad(t, s+behind)
	}
	checkWaits(t, s[:len(s)-1])
}

// checkAnswer ends the test unless an answer is written as these bytes, is read of them, whatever comes behind, and is not there whole in any beginning of them.
func checkAnswer(t *testing.T, a api.Answer, s string) {
	t.Helper()
	checkWrite(t, a, s, api.OK)
	for _, behind := range behinds() {
		checkRead(t, s+behind, a, len(s), api.OK)
	}
	for i := range s {
		checkWaits(t, s[:i])
	}
}

// checkMayNotBe ends the test unless an answer that may not be is neither written nor read.
func checkMayNotBe(t *testing.T, a api.Answer) {
	t.Helper()
	checkWrite(t, a, "", api.ErrBad)
	if body := bodyOf(a); len(body) <= maxPacket && body != "" {
		if _, _, e := wantRead(packet(a.Kind, body)); e == api.ErrBad {
			checkBody(t, a.Kind, body)
		}
	}
}

// checkModel and checkWritten end the test unless Read, and Write, tell what the model tells.
func checkModel(t *testing.T, s string) {
	t.Helper()
	a, n, e := wantRead(s)
	checkRead(t, s, a, n, e)
}

func checkWritten(t *testing.T, a api.Answer) {
	t.Helper()
	s, e := wantWrite(a)
	checkWrite(t, a, s, e)
}
