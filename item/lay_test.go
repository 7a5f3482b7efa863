package item_test

import (
	"fmt"
	"math/big"
	"math/rand"
	"testing"

	"cloakroom/api"
	"cloakroom/item"
)

const (
	least = -1 << 63
	top   = 1<<63 - 1
	all   = 1<<64 - 1
)

// The limits, written out, so that the program's own numbers are held against them.
const (
	maxKey   = 32
	maxValue = 512
	over     = 8
	maxClock = 1099511627776
)

// greatest is the text of 2^64 - 1.
const greatest = "18446744073709551615"

// wantCheck is what Check is to tell.
func wantCheck(key, value, until int) api.Errno {
	if key == 0 || key > 32 || value > 512 {
		return api.ErrText
	}
	if until < 0 || until > maxClock {
		return api.ErrArg
	}
	return api.OK
}

// wantUntil is what Until is to tell: what is left of the clock behind now is held against many, so that nothing is added up that may be too much.
func wantUntil(now, many int) (int, api.Errno) {
	for _, n := range []int{now, many} {
		if n < 0 || n > maxClock {
			return 0, api.ErrArg
		}
	}
	if many > maxClock-now || many == 0 {
		return 0, api.OK
	}
	return now + many, api.OK
}

// isText tells whether a text is a number's by its bytes: of two of one length the one that stands behind is the greater.
func isText(s string) bool {
	for i := range len(s) {
		if s[i] < '0' || s[i] > '9' {
			return false
		}
	}
	switch len(s) {
	case 0:
		return false
	case 1:
		return true
	case 20:
		return s[0] != '0' && s <= greatest
	}
	return s[0] != '0' && len(s) < 20
}

// wantNumber is what Number is to tell, with numbers of any length.
func wantNumber(s string) (uint64, bool) {
	if !isText(s) {
		return 0, false
	}
	n, _ := new(big.Int).SetString(s, 10)
	return n.Uint64(), true
}

// wantCount is what Count is to tell, with numbers of any length.
func wantCount(s string, by uint64, down bool) (string, uint64, bool) {
	if !isText(s) {
		return "", 0, false
	}
	n, _ := new(big.Int).SetString(s, 10)
	b := new(big.Int).SetUint64(by)
	round := new(big.Int).Lsh(big.NewInt(1), 64)
	switch {
	case !down:
		if n.Add(n, b); n.Cmp(round) >= 0 {
			n.Sub(n, round)
		}
	default:
		if n.Sub(n, b); n.Sign() < 0 {
			n = new(big.Int)
		}
	}
	return n.String(), n.Uint64(), true
}

// edgeNumbers are 0, the powers of two and of ten, and those beside them.
func edgeNumbers() []uint64 {
	l := []uint64{0, all}
	for i := range 64 {
		p := uint64(1) << i
		l = append(l, p-1, p, p+1)
	}
	for p := uint64(10); ; p *= 10 {
		l = append(l, p-1, p, p+1, 9*(p/10), p/10*5)
		if p > all/10 {
			return l
		}
	}
}

// edgeMoments are in and beside what a moment may be.
func edgeMoments() []int {
	return []int{least, least + 1, -maxClock - 1, -maxClock, -maxClock + 1, -1 << 32, -2, -1, 0, 1, 2, 3, 1 << 31, 1<<32 - 1, 1 << 32, 1<<32 + 1, maxClock / 2, maxClock/2 + 1, maxClock - 2, maxClock - 1, maxClock, maxClock + 1, maxClock + 2, 2 * maxClock, 1 << 62, top - maxClock, top - 1, top}
}

// randomNumber has any number of digits: as many have few bits as have many.
func randomNumber(r *rand.Rand) uint64 {
	return r.Uint64() >> r.Intn(64)
}

// randomItem may be.
func randomItem(r *rand.Rand) api.Item {
	x := api.Item{Key: randomBytes(r, 1+r.Intn(maxKey)), Value: randomBytes(r, r.Intn(maxValue+1)), Flags: r.Uint32(), Unique: r.Uint64()}
	if r.Intn(4) > 0 {
		x.Until = int(randomNumber(r) % (maxClock + 1))
	}
	return x
}

// randomBytes is a text of any bytes.
func randomBytes(r *rand.Rand, many int) string {
	b := make([]byte, many)
	for i := range b {
		b[i] = byte(r.Intn(256))
	}
	return string(b)
}

// short is how something is told where a test fails: texts may be long.
func short(what any) string {
	text := fmt.Sprintf("%+q", fmt.Sprint(what))
	return text[:min(len(text), 200)]
}

// checkErrno ends the test, as the other checks do: what many inputs fail in is mostly one thing.
func checkErrno(t *testing.T, what any, e, want api.Errno) {
	t.Helper()
	if e != want {
		t.Fatalf("%s: error %d, want %d", short(what), e, want)
	}
}

// checkItem ends the test unless Check and Size tell of an item what the lengths of its key and value, and its Until, tell.
func checkItem(t *testing.T, x api.Item) {
	t.Helper()
	want, size := wantCheck(len(x.Key), len(x.Value), x.Until), 0
	if want == api.OK {
		size = over + len(x.Key) + len(x.Value)
	}
	checkErrno(t, x, item.Check(x), want)
	if n, e := item.Size(x); n != size || e != want {
		t.Fatalf("Size(%s): %d, error %d, want %d, error %d", short(x), n, e, size, want)
	}
}

func checkDue(t *testing.T, x api.Item, now int, want bool) {
	t.Helper()
	if due := item.Due(x, now); due != want {
		t.Fatalf("Due(%s, %d): %v", short(x), now, due)
	}
}

func checkUntil(t *testing.T, now, many, want int, wantE api.Errno) {
	t.Helper()
	if n, e := item.Until(now, many); n != want || e != wantE {
		t.Fatalf("Until(%d, %d): %d, error %d, want %d, error %d", now, many, n, e, want, wantE)
	}
}

func checkNumber(t *testing.T, s string, want uint64, is bool) {
	t.Helper()
	if n, got := item.Number(s); n != want || got != is {
		t.Fatalf("Number(%s): %d, %v, want %d, %v", short(s), n, got, want, is)
	}
}

func checkText(t *testing.T, n uint64, want string) {
	t.Helper()
	if s := item.Text(n); s != want {
		t.Fatalf("Text(%d): %s, want %s", n, short(s), want)
	}
}

func checkCount(t *testing.T, s string, by uint64, down bool, want string, number uint64, is bool) {
	t.Helper()
	if text, n, got := item.Count(s, by, down); text != want || n != number || got != is {
		t.Fatalf("Count(%s, %d, %v): %s, %d, %v, want %s, %d, %v", short(s), by, down, short(text), n, got, want, number, is)
	}
}

// checkNone ends the test unless a text is no number's, whatever is asked of it.
func checkNone(t *testing.T, s string) {
	t.Helper()
	checkNumber(t, s, 0, false)
	for _, by := range []uint64{0, 1, 7, top, all} {
		checkCount(t, s, by, false, "", 0, false)
		checkCount(t, s, by, true, "", 0, false)
	}
}

// countBoth counts up and down in both ways, and ends the test unless they come to the same.
func countBoth(t *testing.T, s string, by uint64) {
	t.Helper()
	for _, down := range []bool{false, true} {
		want, number, is := wantCount(s, by, down)
		checkCount(t, s, by, down, want, number, is)
	}
}

// checkJoin ends the test unless two values come to the one and the other, if together they are short enough.
func checkJoin(t *testing.T, a, b string) {
	t.Helper()
	want, wantE := a+b, api.OK
	if len(want) > maxValue {
		want, wantE = "", api.ErrText
	}
	if s, e := item.Join(a, b); s != want || e != wantE {
		t.Fatalf("Join(%s, %s): %s, error %d, want %s, error %d", short(a), short(b), short(s), e, short(want), wantE)
	}
}
