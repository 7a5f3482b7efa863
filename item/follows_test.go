package item_test

import (
	"math/rand"
	"strings"
	"testing"

	"cloakroom/api"
	"cloakroom/item"
)

// thereAndBack ends the test unless a number's text is read back the same, and has the form of one.
func thereAndBack(t *testing.T, n uint64) string {
	t.Helper()
	s := item.Text(n)
	if !isText(s) {
		t.Fatalf("Text(%d): %s", n, short(s))
	}
	checkNumber(t, s, n, true)
	return s
}

// P9.5, W7: Number of Text of n is n.
func TestNumberOfText(t *testing.T) {
	texts := map[string]uint64{}
	for _, n := range edgeNumbers() {
		texts[thereAndBack(t, n)] = n
	}
	r := rand.New(rand.NewSource(96))
	for range 50000 {
		n := randomNumber(r)
		s := thereAndBack(t, n)
		if was, is := texts[s]; is && was != n {
			t.Fatalf("%d and %d have one text", was, n)
		}
		texts[s] = n
	}
}

// P9.5, W7: Text of Number of a number's text is it: texts made of digits, not of numbers.
func TestTextOfNumber(t *testing.T) {
	r := rand.New(rand.NewSource(97))
	read := 0
	for range 50000 {
		b := make([]byte, 1+r.Intn(21))
		for i := range b {
			b[i] = byte('0' + r.Intn(10))
		}
		if len(b) == 20 && r.Intn(2) == 0 {
			b[0] = '1'
		}
		s := string(b)
		n, is := item.Number(s)
		if is != isText(s) || is && item.Text(n) != s {
			t.Fatalf("Number(%s): %d, %v", s, n, is)
		}
		if is {
			read++
		}
	}
	if read < 10000 {
		t.Error("too few", read)
	}
}

// P9.5: a greater number's text is longer, or of the same length and stands behind.
func TestTextsRiseAsNumbersDo(t *testing.T) {
	r := rand.New(rand.NewSource(98))
	for range 20000 {
		n, m := randomNumber(r), randomNumber(r)
		a, b := item.Text(n), item.Text(m)
		if (n < m) != (len(a) < len(b) || len(a) == len(b) && a < b) {
			t.Fatalf("%d is %s, %d is %s", n, a, m, b)
		}
	}
}

// P9.5: what is counted up and down by the same, or down and up, is what it was, if nothing went beyond; and it tells whether something did.
func TestCountUpAndDown(t *testing.T) {
	r := rand.New(rand.NewSource(99))
	up, down := 0, 0
	for range 20000 {
		n, by := randomNumber(r), randomNumber(r)
		s := item.Text(n)
		then, m, is := item.Count(s, by, false)
		if !is || m != n+by {
			t.Fatalf("Count(%s, %d): %s, %d, %v", s, by, then, m, is)
		}
		if m >= n {
			checkCount(t, then, by, true, s, n, true)
			up++
		} else {
			checkCount(t, then, by, true, "0", 0, true)
		}
		then, _, _ = item.Count(s, by, true)
		if by <= n {
			checkCount(t, then, by, false, s, n, true)
			down++
		} else {
			checkCount(t, then, by, false, item.Text(by), by, true)
		}
	}
	if up < 5000 || down < 5000 {
		t.Error("too few", up, down)
	}
}

// P9.5: counted step by step, up beyond the greatest, and down to 0, where it stays.
func TestCountStepByStep(t *testing.T) {
	for _, step := range []uint64{1, 10, 999} {
		for _, first := range []uint64{0, 95, 99999990, 1<<63 - 500, all - 5} {
			s := item.Text(first)
			for i := range uint64(1000) {
				checkNumber(t, s, first+i*step, true)
				s, _, _ = item.Count(s, step, false)
			}
		}
	}
	s := "2500"
	for i := range uint64(3000) {
		checkNumber(t, s, 2500-min(i, 2500), true)
		s, _, _ = item.Count(s, 1, true)
	}
}

// P9.5: what is due by a moment is so by every later one, and what isn't was so by no earlier one.
func TestDueStaysDue(t *testing.T) {
	r := rand.New(rand.NewSource(100))
	came := 0
	for range 5000 {
		x := randomItem(r)
		was := false
		now := r.Intn(3) - 1
		for range 50 {
			due := item.Due(x, now)
			if was && !due {
				t.Fatalf("Until %d: due ahead of %d, and not by it", x.Until, now)
			}
			if due && !was {
				came++
			}
			was = due
			now += int(randomNumber(r) % maxClock)
		}
	}
	if came < 1000 {
		t.Error("too few", came)
	}
	for until := -3; until < 30; until++ {
		due := false
		for now := -5; now < 40; now++ {
			next := item.Due(api.Item{Until: until}, now)
			if due && !next || next != (until != 0 && now >= until) {
				t.Fatal(until, now, next)
			}
			due = next
		}
	}
}

// P9.1, P9.2: a moment that Until tells may be an item's: it is not due as long as it is to be kept, and due then.
func TestUntilIsWhenItIsDue(t *testing.T) {
	r := rand.New(rand.NewSource(101))
	kept := 0
	for range 20000 {
		now, many := int(randomNumber(r)%(maxClock+1)), int(randomNumber(r)%(maxClock+1))
		until, e := item.Until(now, many)
		x := api.Item{Key: "k", Until: until}
		checkErrno(t, now, e, api.OK)
		checkErrno(t, x, item.Check(x), api.OK)
		checkDue(t, x, now, false)
		if until == 0 {
			checkDue(t, x, maxClock, false)
			continue
		}
		kept++
		checkDue(t, x, now+many-1, false)
		checkDue(t, x, now+many, true)
	}
	if kept < 5000 {
		t.Error("too few", kept)
	}
}

// P9.1, P9.4: values that are put together are one that an item may have, and its size is theirs; what Join refuses, Check would.
func TestJoinedValues(t *testing.T) {
	r := rand.New(rand.NewSource(102))
	for range 5000 {
		a, b, c := randomBytes(r, r.Intn(300)), randomBytes(r, r.Intn(300)), randomBytes(r, r.Intn(100))
		s, e := item.Join(a, b)
		checkErrno(t, "Join", e, item.Check(api.Item{Key: "k", Value: a + b}))
		if e != api.OK {
			continue
		}
		n, _ := item.Size(api.Item{Key: "k", Value: a})
		m, _ := item.Size(api.Item{Key: "k", Value: s})
		if m != n+len(b) || !strings.HasPrefix(s, a) || !strings.HasSuffix(s, b) {
			t.Fatalf("Join(%s, %s): %s", short(a), short(b), short(s))
		}
		left, e := item.Join(s, c)
		right, f := item.Join(b, c)
		if f == api.OK {
			right, f = item.Join(a, right)
		}
		if e != f || e == api.OK && left != right {
			t.Fatalf("three values: error %d, and %d", e, f)
		}
	}
}

// R2: what is answered hangs on the arguments alone.
func TestAskedAgain(t *testing.T) {
	r := rand.New(rand.NewSource(103))
	for range 1000 {
		x := randomItem(r)
		n, _ := item.Size(x)
		s, _, _ := item.Count(item.Text(x.Unique), 7, false)
		item.Join(x.Key, x.Value)
		item.Until(-1, x.Until)
		item.Number(x.Value)
		if m, e := item.Size(x); m != n || e != api.OK {
			t.Fatalf("Size(%s): %d, then %d", short(x), n, m)
		}
		if again, _, _ := item.Count(item.Text(x.Unique), 7, false); again != s {
			t.Fatalf("Count of %d: %s, then %s", x.Unique, s, again)
		}
	}
}

// Looks for items, moments, values and numbers' texts of which something else is told than their lengths and digits tell.
func FuzzItem(f *testing.F) {
	f.Add("k", "abc", 0, 5, uint64(3))
	f.Add("", "18446744073709551615", -1, -1, uint64(1))
	f.Add("0", "18446744073709551616", 1<<40, 1<<40+1, uint64(1<<63))
	f.Add("\xff", "007", 1, 1<<40, uint64(all))
	f.Fuzz(func(t *testing.T, key, value string, until, now int, by uint64) {
		x := api.Item{Key: key, Value: value, Until: until, Flags: uint32(by), Unique: by}
		checkItem(t, x)
		checkDue(t, x, now, until != 0 && until <= now)
		want, wantE := wantUntil(now, until)
		checkUntil(t, now, until, want, wantE)
		for _, s := range []string{key, value, item.Text(by)} {
			n, is := wantNumber(s)
			checkNumber(t, s, n, is)
			countBoth(t, s, by)
		}
		thereAndBack(t, by)
		checkJoin(t, key, value)
		checkJoin(t, value, key)
	})
}
