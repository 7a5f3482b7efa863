package bag_test

import (
	"bytes"
	"fmt"
	"math/rand"
	"slices"
	"testing"

	"cloakroom/api"
	"cloakroom/bag"
)

// The chapter's examples of pieces.
func TestExamplesOfPieces(t *testing.T) {
	l, e := bag.Pieces([]byte{1, 2, 3}, []int{1, 1})
	checkList(t, "Pieces(1 2 3, 1 1)", l, e, [][]byte{{1}, {}, {2, 3}})
	l, e = bag.Pieces([]byte{1, 2}, nil)
	checkList(t, "Pieces(1 2, none)", l, e, [][]byte{{1, 2}})
	l, e = bag.Pieces([]byte{1, 2}, []int{2, 1})
	checkRefused(t, "Pieces(1 2, 2 1)", e, api.ErrArg, l, nil)
	l, e = bag.Pieces([]byte{1, 2}, []int{3})
	checkRefused(t, "Pieces(1 2, 3)", e, api.ErrArg, l, nil)
}

// P3.1
func TestPieces(t *testing.T) {
	b := []byte("abcdef")
	for _, c := range []struct {
		at   []int
		want []string
	}{
		{nil, []string{"abcdef"}},
		{[]int{}, []string{"abcdef"}},
		{[]int{0}, []string{"", "abcdef"}},
		{[]int{1}, []string{"a", "bcdef"}},
		{[]int{3}, []string{"abc", "def"}},
		{[]int{5}, []string{"abcde", "f"}},
		{[]int{6}, []string{"abcdef", ""}},
		{[]int{0, 0}, []string{"", "", "abcdef"}},
		{[]int{6, 6}, []string{"abcdef", "", ""}},
		{[]int{0, 6}, []string{"", "abcdef", ""}},
		{[]int{2, 2}, []string{"ab", "", "cdef"}},
		{[]int{2, 2, 2}, []string{"ab", "", "", "cdef"}},
		{[]int{1, 3, 4}, []string{"a", "bc", "d", "ef"}},
		{[]int{0, 1, 1, 5, 6, 6}, []string{"", "a", "", "bcde", "f", "", ""}},
		{[]int{1, 2, 3, 4, 5}, []string{"a", "b", "c", "d", "e", "f"}},
		{[]int{0, 1, 2, 3, 4, 5, 6}, []string{"", "a", "b", "c", "d", "e", "f", ""}},
	} {
		var want [][]byte
		for _, p := range c.want {
			want = append(want, []byte(p))
		}
		l, e := bag.Pieces(b, c.at)
		checkList(t, c.at, l, e, want)
	}
}

// P3.1: bytes of none are one piece, and can be cut at 0 alone.
func TestPiecesOfNone(t *testing.T) {
	for _, b := range [][]byte{nil, {}} {
		for many := range 4 {
			l, e := bag.Pieces(b, make([]int, many))
			checkList(t, many, l, e, make([][]byte, many+1))
		}
		for _, at := range [][]int{{1}, {-1}, {0, 1}, {0, -1}} {
			l, e := bag.Pieces(b, at)
			checkRefused(t, at, e, api.ErrArg, l, nil)
		}
	}
}

// P3.1
func TestPiecesAtTheLimits(t *testing.T) {
	b := uneven(1, 16384)
	l, e := bag.Pieces(b, []int{0, 16383, 16384})
	checkList(t, "MaxText bytes", l, e, [][]byte{nil, b[:16383], b[16383:], nil})
	var at []int
	var want [][]byte
	for i := range 256 {
		at = append(at, 64*i)
		want = append(want, b[max(0, 64*(i-1)):64*i])
	}
	l, e = bag.Pieces(b, at)
	checkList(t, "MaxOps places", l, e, append(want, b[64*255:]))
	l, e = bag.Pieces(b, append(at, 16384))
	checkRefused(t, "MaxOps + 1 places", e, api.ErrMany, l, nil)
	l, e = bag.Pieces(append(b, 1), nil)
	checkRefused(t, "MaxText + 1 bytes", e, api.ErrText, l, nil)
	l, e = bag.Pieces(make([]byte, 10*16384), []int{5})
	checkRefused(t, "many bytes", e, api.ErrText, l, nil)
	l, e = bag.Pieces(nil, make([]int, 256))
	checkList(t, "nothing at MaxOps places", l, e, make([][]byte, 257))
}

// P3.1: each place is held against the bytes and the one ahead of it, wherever it stands.
func TestPiecesAtWrongPlaces(t *testing.T) {
	b := []byte("abcdef")
	for _, at := range [][]int{
		{-1}, {7}, {8}, {least}, {top}, {least + 1}, {1 << 32}, {-1 << 32},
		{-1, 0}, {-1, -1}, {7, 7}, {0, -1}, {6, 7}, {3, -1}, {3, 7},
		{1, 0}, {2, 1}, {6, 5}, {6, 0}, {5, 4, 5}, {1, 3, 2}, {1, 3, 2, 6}, {0, 6, 0}, {3, 3, 2}, {top, 0}, {0, least},
	} {
		l, e := bag.Pieces(b, at)
		checkRefused(t, at, e, api.ErrArg, l, nil)
	}
	last := slices.Repeat([]int{6}, 256)
	last[255] = 5
	l, e := bag.Pieces(b, last)
	checkRefused(t, "the last one of MaxOps", e, api.ErrArg, l, nil)
}

// P3.1: too many bytes stand first, then too many places, then wrong ones.
func TestWhichErrorOfPiecesStandsFirst(t *testing.T) {
	long, fits := make([]byte, 16385), make([]byte, 16384)
	many, wrong := make([]int, 257), []int{-1}
	manyWrong := slices.Repeat(wrong, 257)
	for i, c := range []struct {
		b  []byte
		at []int
		e  api.Errno
	}{
		{long, many, api.ErrText},
		{long, wrong, api.ErrText},
		{long, manyWrong, api.ErrText},
		{long, []int{16386}, api.ErrText},
		{fits, manyWrong, api.ErrMany},
		{nil, manyWrong, api.ErrMany},
		{nil, many, api.ErrMany},
		{fits, wrong, api.ErrArg},
		{fits, []int{16385}, api.ErrArg},
	} {
		l, e := bag.Pieces(c.b, c.at)
		checkRefused(t, i, e, c.e, l, nil)
	}
}

// P3.1
func TestJoin(t *testing.T) {
	for i, c := range []struct {
		l    [][]byte
		want string
	}{
		{nil, ""},
		{[][]byte{}, ""},
		{[][]byte{nil}, ""},
		{[][]byte{{}, nil, {}}, ""},
		{[][]byte{[]byte("abc")}, "abc"},
		{[][]byte{[]byte("abc"), []byte("de")}, "abcde"},
		{[][]byte{[]byte("de"), []byte("abc")}, "deabc"},
		{[][]byte{nil, []byte("a"), {}, []byte("bc"), nil}, "abc"},
		{[][]byte{[]byte("a"), []byte("a"), []byte("a")}, "aaa"},
	} {
		b, e := bag.Join(c.l)
		checkBytes(t, i, b, e, []byte(c.want))
	}
}

// P3.1
func TestJoinAtTheLimits(t *testing.T) {
	b, e := bag.Join(list(uneven(1, 257)...))
	checkBytes(t, "MaxOps + 1 pieces", b, e, uneven(1, 257))
	b, e = bag.Join(make([][]byte, 257))
	checkBytes(t, "MaxOps + 1 pieces of none", b, e, nil)
	b, e = bag.Join(make([][]byte, 258))
	checkRefused(t, "MaxOps + 2 pieces", e, api.ErrMany, nil, b)
	b, e = bag.Join(list(uneven(1, 258)...))
	checkRefused(t, "MaxOps + 2 pieces of one byte", e, api.ErrMany, nil, b)
	full := uneven(1, 16384)
	for i, l := range [][][]byte{{full}, {full, nil}, {nil, full}, {full[:1], full[1:]}, {full[:16383], full[16383:]}, {full[:5000], {}, full[5000:6000], full[6000:]}} {
		b, e = bag.Join(l)
		checkBytes(t, []any{"MaxText bytes", i}, b, e, full)
		b, e = bag.Join(append(slices.Clone(l), []byte{1}))
		checkRefused(t, []any{"one byte behind", i}, e, api.ErrText, nil, b)
		b, e = bag.Join(slices.Insert(slices.Clone(l), 0, []byte{1}))
		checkRefused(t, []any{"one byte ahead", i}, e, api.ErrText, nil, b)
	}
	b, e = bag.Join([][]byte{make([]byte, 16385)})
	checkRefused(t, "one piece of MaxText + 1 bytes", e, api.ErrText, nil, b)
	b, e = bag.Join(slices.Repeat([][]byte{full}, 257))
	checkRefused(t, "all pieces of MaxText bytes", e, api.ErrText, nil, b)
	b, e = bag.Join(slices.Repeat([][]byte{full}, 258))
	checkRefused(t, "too many of too many bytes", e, api.ErrMany, nil, b)
}

// P3.4, W1: bytes that are cut anywhere, by up to three places, are the same when they are joined.
func TestJoinOfPiecesEverywhere(t *testing.T) {
	b := uneven(1, 9)
	check := func(at ...int) {
		l, e := bag.Pieces(b, at)
		if e != api.OK || len(l) != len(at)+1 {
			t.Fatal(at, len(l), e)
		}
		joined, e := bag.Join(l)
		checkBytes(t, at, joined, e, b)
	}
	check()
	for x := range 10 {
		check(x)
		for y := x; y < 10; y++ {
			check(x, y)
			for z := y; z < 10; z++ {
				check(x, y, z)
			}
		}
	}
}

// P3.4, W1: so are long ones, at many places.
func TestJoinOfRandomPieces(t *testing.T) {
	r := rand.New(rand.NewSource(3))
	for range 300 {
		b := uneven(r.Intn(256), r.Intn(16385))
		at := make([]int, r.Intn(257))
		for i := range at {
			at[i] = r.Intn(len(b) + 1)
		}
		slices.Sort(at)
		l, e := bag.Pieces(b, at)
		if e != api.OK || len(l) != len(at)+1 {
			t.Fatal(len(b), at, len(l), e)
		}
		for i := range at {
			if sum := len(bytes.Join(l[:i+1], nil)); sum != at[i] {
				t.Error("the place", i, "is", sum, "want", at[i])
			}
		}
		joined, e := bag.Join(l)
		checkBytes(t, at, joined, e, b)
	}
}

// P3.3: neither call changes what it is handed, nor the room behind it, be it well or refused.
func TestArgumentsOfPiecesStay(t *testing.T) {
	b, at := roomy(uneven(1, 20)), append(make([]int, 0, 8), 3, 3, 20, 4)
	l := roomyList([][]byte{uneven(2, 5), nil, uneven(3, 4)})
	long := roomyList([][]byte{uneven(2, 16384), uneven(3, 1)})
	b0, at0, l0, long0 := bytes.Clone(whole(b)), slices.Clone(whole(at)), wholes(l), wholes(long)
	for name, call := range map[string]func(){
		"Pieces":         func() { bag.Pieces(b, at[:3]) },
		"Pieces of all":  func() { bag.Pieces(b, nil) },
		"Pieces refused": func() { bag.Pieces(b, at) },
		"Join":           func() { bag.Join(l) },
		"Join refused":   func() { bag.Join(long) },
	} {
		call()
		if !bytes.Equal(whole(b), b0) || !slices.Equal(whole(at), at0) {
			t.Error(name, "changed the bytes or the places")
		}
		if !same(wholes(l), l0) || !same(wholes(long), long0) {
			t.Error(name, "changed the pieces")
		}
	}
}

// P3.3
func TestPiecesAreNewMemory(t *testing.T) {
	for _, at := range [][]int{nil, {0}, {9}, {0, 9}, {4, 4}, {1, 2, 2, 7}, {0, 0, 9, 9}} {
		t.Run(fmt.Sprint("Pieces ", at), func(t *testing.T) {
			came := roomyList([][]byte{uneven(1, 9)})
			checkApart(t, came, func() [][]byte { l, _ := bag.Pieces(came[0], at); return l })
		})
	}
	places := []int{2, 5}
	l, _ := bag.Pieces(uneven(1, 9), places)
	places[0], places[1] = 0, 0
	checkList(t, "the places changed", l, api.OK, [][]byte{uneven(1, 9)[:2], uneven(1, 9)[2:5], uneven(1, 9)[5:]})
}

// P3.3: also where one piece alone has bytes, which could be answered as it is.
func TestJoinIsNewMemory(t *testing.T) {
	for i, l := range [][][]byte{nil, {nil}, {uneven(1, 9)}, {uneven(1, 9), nil}, {nil, uneven(1, 9)}, {uneven(1, 9), uneven(2, 3)}} {
		t.Run(fmt.Sprint("Join ", i), func(t *testing.T) {
			came := roomyList(l)
			checkApart(t, came, func() [][]byte { b, _ := bag.Join(came); return [][]byte{b} })
		})
	}
	// Pieces that lie behind one another in one memory must not be joined there.
	b := uneven(1, 9)
	came := [][]byte{b[:4], b[2:6], b[4:]}
	joined, e := bag.Join(came)
	checkBytes(t, "overlapping", joined, e, slices.Concat(uneven(1, 9)[:4], uneven(1, 9)[2:6], uneven(1, 9)[4:]))
	if !bytes.Equal(b, uneven(1, 9)) {
		t.Error("what came changed:", b)
	}
}

// FuzzPieces takes each byte of the second text as one more step from the place ahead; the fuzzer may go on from there.
func FuzzPieces(f *testing.F) {
	f.Add([]byte("abc"), []byte{1, 0, 1})
	f.Add([]byte{}, []byte{0})
	f.Add([]byte("abc"), []byte{4})
	f.Fuzz(func(t *testing.T, b, steps []byte) {
		var at []int
		place := 0
		for _, s := range steps {
			place += int(s)
			at = append(at, place)
		}
		l, e := bag.Pieces(b, at)
		want := api.OK
		switch {
		case len(b) > 16384:
			want = api.ErrText
		case len(at) > 256:
			want = api.ErrMany
		case place > len(b):
			want = api.ErrArg
		}
		if want != api.OK {
			checkRefused(t, at, e, want, l, nil)
			return
		}
		if e != api.OK || len(l) != len(at)+1 {
			t.Fatal(at, len(l), e)
		}
		joined, e := bag.Join(l)
		checkBytes(t, at, joined, e, b)
	})
}
