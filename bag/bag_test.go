package bag_test

import (
	"bytes"
	"fmt"
	"math/rand"
	"slices"
	"testing"

	"cloakroom/api"
	"cloakroom/bag"
)

// The chapter's examples of bags.
func TestExamplesOfBags(t *testing.T) {
	three := list(1, 2, 3)
	left, out, e := bag.Step(three, api.BagGives, 1)
	checkList(t, "BagGives leaves", left, e, list(1, 3))
	checkBytes(t, "BagGives", out, e, []byte{2})
	left, out, e = bag.Step(three, api.BagTwice, 1)
	checkList(t, "BagTwice leaves", left, e, list(1, 2, 3))
	checkBytes(t, "BagTwice", out, e, []byte{2})
	left, out, e = bag.Step(three, api.BagLoses, 1)
	checkList(t, "BagLoses leaves", left, e, list(1, 3))
	checkBytes(t, "BagLoses", out, e, nil)
	left, out, e = bag.Step(nil, api.BagGives, 0)
	checkRefused(t, "Step(none, BagGives, 0)", e, api.ErrNone, left, out)
	left, out, e = bag.Step(list(1), 3, 0)
	checkRefused(t, "Step((1), 3, 0)", e, api.ErrArg, left, out)
	left, e = bag.Send(numbered(64), []byte{1})
	checkRefused(t, "Send of 64 messages", e, api.ErrFull, left, nil)
}

// P3.2: into a bag of every size that may be.
func TestSend(t *testing.T) {
	for many := range 64 {
		l := numbered(many)
		for _, m := range [][]byte{nil, {}, {7}, uneven(1, 1000)} {
			sent, e := bag.Send(l, m)
			checkList(t, []any{many, len(m)}, sent, e, append(clones(l), m))
		}
	}
}

// P3.2: from none up to as many as may be, also of messages without bytes and of the same ones again.
func TestSendUntilFull(t *testing.T) {
	for _, empty := range [][][]byte{nil, {}} {
		l := empty
		var want [][]byte
		for i := range 64 {
			m := bytes.Repeat([]byte{9}, i%3)
			want = append(want, m)
			sent, e := bag.Send(l, m)
			checkList(t, i, sent, e, want)
			l = sent
		}
		for _, m := range [][]byte{nil, {1}, make([]byte, mostBytes)} {
			sent, e := bag.Send(l, m)
			checkRefused(t, len(m), e, api.ErrFull, sent, nil)
		}
		checkList(t, "the full bag", l, api.OK, want)
	}
}

// P3.2: only the message that is sent is held against a limit; those of the bag may be any ones.
func TestSendOfLongOnes(t *testing.T) {
	if mostBytes != api.MaxRecord+64 {
		t.Fatal(mostBytes)
	}
	for _, many := range []int{0, 1, 63} {
		l := numbered(many)
		for _, size := range []int{api.MaxText + 1, api.MaxRecord, api.MaxRecord + 1, mostBytes - 1, mostBytes} {
			sent, e := bag.Send(l, uneven(1, size))
			checkList(t, []any{many, size}, sent, e, append(clones(l), uneven(1, size)))
		}
		for _, size := range []int{mostBytes + 1, 2 * mostBytes, 1 << 20} {
			sent, e := bag.Send(l, make([]byte, size))
			checkRefused(t, []any{many, size}, e, api.ErrText, sent, nil)
		}
	}
	long := [][]byte{uneven(1, mostBytes+1), {}, uneven(2, 2*mostBytes)}
	sent, e := bag.Send(long, []byte{1})
	checkList(t, "behind long ones", sent, e, append(clones(long), []byte{1}))
}

// P3.2: too many messages stand first, then too many bytes, then that the bag is full.
func TestWhichErrorOfSendStandsFirst(t *testing.T) {
	for _, c := range []struct {
		many, size int
		e          api.Errno
	}{
		{65, mostBytes + 1, api.ErrMany},
		{65, 0, api.ErrMany},
		{65, 1, api.ErrMany},
		{66, 1, api.ErrMany},
		{128, 1, api.ErrMany},
		{1000, mostBytes + 1, api.ErrMany},
		{64, mostBytes + 1, api.ErrText},
		{63, mostBytes + 1, api.ErrText},
		{64, mostBytes, api.ErrFull},
		{64, 0, api.ErrFull},
	} {
		sent, e := bag.Send(make([][]byte, c.many), make([]byte, c.size))
		checkRefused(t, c, e, c.e, sent, nil)
	}
}

// stepped is what a step is to leave and to give, had without package bag.
func stepped(l [][]byte, kind uint8, at int) (left [][]byte, out []byte) {
	left = clones(l)
	if kind != api.BagLoses {
		out = left[at]
	}
	if kind != api.BagTwice {
		left = slices.Delete(left, at, at+1)
	}
	return left, out
}

// P3.2: each kind at each place of bags of every size that may be.
func TestStepEverywhere(t *testing.T) {
	for many := 1; many <= 64; many++ {
		l := numbered(many)
		for at := range many {
			for _, kind := range []uint8{api.BagGives, api.BagTwice, api.BagLoses} {
				wantLeft, wantOut := stepped(l, kind, at)
				left, out, e := bag.Step(l, kind, at)
				checkList(t, []any{many, kind, at, "left"}, left, e, wantLeft)
				checkBytes(t, []any{many, kind, at, "out"}, out, e, wantOut)
			}
		}
	}
}

// P3.2: messages without bytes, and ones that are the same, are messages like others; a step takes the one at the place.
func TestStepOfEmptyAndEqualOnes(t *testing.T) {
	l := [][]byte{{}, {5}, nil, {5}, {}}
	for at := range l {
		for kind := range uint8(3) {
			wantLeft, wantOut := stepped(l, kind, at)
			left, out, e := bag.Step(l, kind, at)
			checkList(t, []any{kind, at, "left"}, left, e, wantLeft)
			checkBytes(t, []any{kind, at, "out"}, out, e, wantOut)
		}
	}
	long := [][]byte{uneven(1, 2*mostBytes), {}}
	left, out, e := bag.Step(long, api.BagTwice, 0)
	checkList(t, "a long one stays", left, e, long)
	checkBytes(t, "a long one", out, e, long[0])
}

// P3.2
func TestStepOfWrongOnes(t *testing.T) {
	for _, many := range []int{0, 1, 3, 63, 64} {
		l := numbered(many)
		for kind := range uint8(3) {
			for _, at := range []int{-1, -2, -many - 1, many, many + 1, 64, 65, 1 << 32, 1 << 62, least, top} {
				left, out, e := bag.Step(l, kind, at)
				checkRefused(t, []any{many, kind, at}, e, api.ErrNone, left, out)
			}
		}
		for kind := 3; kind < 256; kind++ {
			for _, at := range []int{0, many - 1, -1, many, least, top} {
				left, out, e := bag.Step(l, uint8(kind), at)
				checkRefused(t, []any{many, kind, at}, e, api.ErrArg, left, out)
			}
		}
	}
}

// P3.2: too many messages stand first, then the kind, then the place.
func TestWhichErrorOfStepStandsFirst(t *testing.T) {
	for _, many := range []int{65, 66, 128, 1000} {
		l := make([][]byte, many)
		for _, kind := range []uint8{0, 1, 2, 3, 255} {
			for _, at := range []int{0, 63, 64, many - 1, many, -1, least, top} {
				left, out, e := bag.Step(l, kind, at)
				checkRefused(t, []any{many, kind, at}, e, api.ErrMany, left, out)
			}
		}
	}
	for _, at := range []int{-1, 64, top} {
		left, out, e := bag.Step(numbered(64), 3, at)
		checkRefused(t, at, e, api.ErrArg, left, out)
	}
}

// P3.4, W4: whatever a link does, in any order: what comes out was sent, and what is neither given nor lost is still in the bag, in its order.
func TestWhateverTheLinkDoes(t *testing.T) {
	r := rand.New(rand.NewSource(4))
	for range 20 {
		var l, inside [][]byte
		sent := map[string]int{}
		for i := range 600 {
			if r.Intn(5) < 3 {
				m := fmt.Appendf(nil, "message %d", i)
				after, e := bag.Send(l, m)
				if len(inside) == 64 {
					checkRefused(t, i, e, api.ErrFull, after, nil)
					continue
				}
				inside = append(inside, m)
				sent[string(m)] = i + 1
				checkList(t, i, after, e, inside)
				l = after
				continue
			}
			kind, at := uint8(r.Intn(3)), r.Intn(66)-1
			left, out, e := bag.Step(l, kind, at)
			if at < 0 || at >= len(inside) {
				checkRefused(t, i, e, api.ErrNone, left, out)
				continue
			}
			var want []byte
			inside, want = stepped(inside, kind, at)
			checkList(t, i, left, e, inside)
			checkBytes(t, i, out, e, want)
			if kind != api.BagLoses && sent[string(out)] == 0 {
				t.Errorf("%d: what came out was not sent: %q", i, out)
			}
			l = left
		}
	}
}

// P3.4: a link may turn all about: the youngest first, until none is left.
func TestTurnedAbout(t *testing.T) {
	l := numbered(64)
	for i := 63; i >= 0; i-- {
		left, out, e := bag.Step(l, api.BagGives, i)
		checkBytes(t, i, out, e, numbered(64)[i])
		checkList(t, i, left, e, numbered(i))
		l = left
	}
	left, out, e := bag.Step(l, api.BagGives, 0)
	checkRefused(t, "nothing is left", e, api.ErrNone, left, out)
}

// P3.4: what is told twice again and again stays, until it is given or lost.
func TestTwiceAgainAndAgain(t *testing.T) {
	l := list(1, 2, 3)
	for i := range 10 {
		left, out, e := bag.Step(l, api.BagTwice, 1)
		checkBytes(t, i, out, e, []byte{2})
		checkList(t, i, left, e, list(1, 2, 3))
		l = left
	}
	l, out, e := bag.Step(l, api.BagGives, 1)
	checkBytes(t, "given", out, e, []byte{2})
	l, out, e = bag.Step(l, api.BagLoses, 1)
	checkBytes(t, "lost", out, e, nil)
	checkList(t, "what is left", l, e, list(1))
}

// P3.3: neither call changes what it is handed, nor the room behind it, be it well or refused.
func TestArgumentsOfBagsStay(t *testing.T) {
	l, full, m := roomyList(numbered(5)), roomyList(numbered(64)), roomy(uneven(1, 9))
	over := roomyList(numbered(65))
	l0, full0, over0, m0 := wholes(l), wholes(full), wholes(over), bytes.Clone(whole(m))
	calls := map[string]func(){
		"Send":                  func() { bag.Send(l, m) },
		"Send of one of them":   func() { bag.Send(l, l[2]) },
		"Send into a full one":  func() { bag.Send(full, m) },
		"Send into one too big": func() { bag.Send(over, m) },
		"Send of too long a one": func() {
			bag.Send(l, make([]byte, mostBytes+1))
		},
	}
	for kind := range uint8(4) {
		for _, at := range []int{-1, 0, 2, 4, 5, 63, 64} {
			calls[fmt.Sprint("Step ", kind, " ", at)] = func() {
				bag.Step(l, kind, at)
				bag.Step(full, kind, at)
				bag.Step(over, kind, at)
			}
		}
	}
	for name, call := range calls {
		call()
		if !same(wholes(l), l0) || !same(wholes(full), full0) || !same(wholes(over), over0) {
			t.Error(name, "changed the bag")
		}
		if !bytes.Equal(whole(m), m0) {
			t.Error(name, "changed the message")
		}
	}
}

// P3.3: the message that is sent is handed in as the last one of what came.
func TestSendIsNewMemory(t *testing.T) {
	for _, many := range []int{0, 1, 2, 63} {
		t.Run(fmt.Sprint("Send ", many), func(t *testing.T) {
			came := roomyList(append(numbered(many), uneven(1, 9)))
			checkApart(t, came, func() [][]byte { l, _ := bag.Send(came[:many], came[many]); return l })
		})
	}
	t.Run("Send of one of them", func(t *testing.T) {
		came := roomyList(numbered(3))
		checkApart(t, came, func() [][]byte { l, _ := bag.Send(came, came[1]); return l })
	})
	t.Run("Send of one without bytes", func(t *testing.T) {
		came := roomyList([][]byte{nil, {}, {1}})
		checkApart(t, came, func() [][]byte { l, _ := bag.Send(came, came[1]); return l })
	})
}

// P3.3: what comes out is not what stays in the bag, either.
func TestStepIsNewMemory(t *testing.T) {
	for kind := range uint8(3) {
		for _, at := range []int{0, 1, 3} {
			t.Run(fmt.Sprint("Step ", kind, " ", at), func(t *testing.T) {
				messages := [][]byte{{1, 2}, {3}, {}, {4, 5, 6}}
				came := roomyList(messages)
				checkApart(t, came, func() [][]byte { left, _, _ := bag.Step(came, kind, at); return left })
				again := roomyList(messages)
				checkApart(t, again, func() [][]byte {
					left, out, _ := bag.Step(again, kind, at)
					return append(slices.Clip(left), out)
				})
			})
		}
	}
}

// P3.3: messages that came in one memory go apart.
func TestSharedMessagesGoApart(t *testing.T) {
	shared := uneven(1, 20)
	came := func() [][]byte { return [][]byte{shared[:8], shared[:8], shared[4:12], shared[:0], shared} }
	want := clones(came())
	left, out, _ := bag.Step(came(), api.BagTwice, 0)
	sent, _ := bag.Send(came(), shared[:8])
	for name, l := range map[string][][]byte{"Step": append(left, out), "Send": sent} {
		for i := range l {
			others := clones(l[i+1:])
			flip(l[i])
			l[i] = append(l[i], 0x77)
			if !same(l[i+1:], others) {
				t.Error(name, i, "others changed with it")
			}
		}
	}
	if !same(came(), want) {
		t.Error("what came changed")
	}
}

// P3.2, P3.3: what stands behind a list in its memory is no part of the bag.
func TestSpareRoomIsNoPartOfABag(t *testing.T) {
	l := numbered(64)
	sent, e := bag.Send(l[:3], []byte{9})
	checkList(t, "Send", sent, e, append(numbered(3), []byte{9}))
	left, out, e := bag.Step(l[:3], api.BagGives, 3)
	checkRefused(t, "Step behind", e, api.ErrNone, left, out)
	left, out, e = bag.Step(l[:3], api.BagGives, 2)
	checkList(t, "Step", left, e, numbered(2))
	checkBytes(t, "Step", out, e, numbered(3)[2])
	checkList(t, "what is behind", l, api.OK, numbered(64))
}
