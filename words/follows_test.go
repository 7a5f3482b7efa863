package words_test

import (
	"bytes"
	"math/rand"
	"slices"
	"strings"
	"testing"

	"cloakroom/api"
	"cloakroom/words"
)

// roomy is a list with spare room behind it, in which something stands.
func roomy[T any](l []T, behind ...T) []T {
	return append(slices.Clone(l), behind...)[:len(l)]
}

// full is a list with its spare room, as new memory.
func full[T any](l []T) []T { return slices.Clone(l[:cap(l)]) }

// spoil changes each element of a list, and its spare room.
func spoil[T any](l []T, with T) {
	for i := range l[:cap(l)] {
		l[:cap(l)][i] = with
	}
}

// P15.3: what is handed in is only read, its spare room neither changed nor told.
func TestWhatIsHandedInIsOnlyRead(t *testing.T) {
	r := rand.New(rand.NewSource(154))
	for range 5000 {
		s, of := randomBlob(r), uint8(r.Intn(13)*r.Intn(2)+1)
		b := roomy([]byte(s), []byte("\n\r\nEND\r\nPONG\r\n")...)
		was := full(b)
		a, n, e := words.Read(b, of)
		if want, many, err := wantRead(s, of); !same(a, want) || n != many || e != err {
			t.Fatalf("Read(%s, %d): %s, %d, error %d", short(s), of, short(a), n, e)
		}
		if !bytes.Equal(full(b), was) {
			t.Fatalf("%s changed", short(s))
		}
		a = spoilt(r, randomAnswer(r))
		a.Result.Items = roomy(a.Result.Items, api.Item{Key: "x"}, api.Item{}, api.Item{Key: "y"})
		items := full(a.Result.Items)
		checkWritten(t, a)
		if !slices.Equal(full(a.Result.Items), items) {
			t.Fatalf("%s changed", short(items))
		}
	}
}

// P15.3: what is read shares nothing with the bytes, nor with what is read of them again.
func TestAnswersAreNewMemory(t *testing.T) {
	r := rand.New(rand.NewSource(155))
	for range 3000 {
		want := randomAnswer(r)
		s, _ := wantWrite(want)
		b := roomy([]byte(s), []byte("END\r\n")...)
		was := full(b)
		a, _, _ := words.Read(b, want.Of)
		again, _, _ := words.Read(b, want.Of)
		spoil(b, 'z')
		if !same(a, want) {
			t.Fatalf("%s changed to %s", short(want), short(a))
		}
		copy(b[:cap(b)], was)
		spoil(a.Result.Items, api.Item{Key: "spoilt"})
		if !same(again, want) || !bytes.Equal(full(b), was) {
			t.Fatalf("%s changed to %s", short(want), short(again))
		}
		checkModel(t, s, want.Of)
	}
}

// P15.3: so do the bytes that are written.
func TestBytesAreNewMemory(t *testing.T) {
	r := rand.New(rand.NewSource(156))
	for range 3000 {
		a := randomAnswer(r)
		a.Result.Items = roomy(a.Result.Items, api.Item{Key: "x"}, api.Item{Key: "y"})
		was, items := copied(a), full(a.Result.Items)
		want, _ := wantWrite(a)
		b, _ := words.Write(a)
		other, _ := words.Write(a)
		spoil(other, 'z')
		spoil(a.Result.Items, api.Item{Key: "spoilt"})
		if string(b) != want {
			t.Fatalf("%s: %s changed", short(was), short(string(b)))
		}
		copy(a.Result.Items[:cap(a.Result.Items)], items)
		spoil(b, 'z')
		if !same(a, was) || !slices.Equal(full(a.Result.Items), items) {
			t.Fatalf("%s changed: %s", short(was), short(a))
		}
		checkWritten(t, a)
	}
}

// P15.3, R2: what is answered hangs on the arguments alone.
func TestAskedAgain(t *testing.T) {
	r := rand.New(rand.NewSource(157))
	a := got(someItems(3)...)
	s, _ := wantWrite(a)
	for range 300 {
		checkAnswer(t, a, s)
		checkModel(t, randomBlob(r), 1)
		checkWritten(t, spoilt(r, randomAnswer(r)))
	}
}

// P15.4, W7: what is written is read back, by its own Of, whatever comes behind; no beginning of it is there whole.
func TestThereAndBack(t *testing.T) {
	r := rand.New(rand.NewSource(158))
	for range 3000 {
		a := randomAnswer(r)
		b, e := words.Write(a)
		if e != api.OK {
			t.Fatalf("Write(%s): error %d", short(a), e)
		}
		for _, behind := range []string{"", "\r", "\n", "\r\n", " ", "x", "END\r\n", randomBytes(r, r.Intn(40)), randomBlob(r), strings.Repeat("x", 600)} {
			checkRead(t, string(b)+behind, a.Of, a, len(b), api.OK)
		}
		for range 20 {
			checkNotWhole(t, string(b[:r.Intn(len(b))]), a.Of)
		}
	}
}

// P15.4: no answer's lines are the beginning of another one's of the same Of; nor are two the same.
func TestNoBeginnings(t *testing.T) {
	r := rand.New(rand.NewSource(159))
	for range 300 {
		l := each()
		for range 20 {
			a := got()
			for _, x := range slices.Repeat([]api.Item{{Key: "k"}}, r.Intn(9)) {
				x.Value = []string{"", "END\r\n", "\r\n", "VALUE k 0 0 0 0\r\n"}[r.Intn(4)]
				a.Result.Items = append(a.Result.Items, x)
			}
			l = append(l, a, randomAnswer(r))
		}
		for n := range uint64(20) {
			l = append(l, done(6, n), done(7, n*10), done(10, n%9), api.Answer{Kind: 7, Key: strings.Repeat("k", int(n)+1)})
		}
		slices.SortFunc(l, func(a, b api.Answer) int { return strings.Compare(lines(t, a), lines(t, b)) })
		for i := range l[1:] {
			a, b := l[i], l[i+1]
			if a.Of == b.Of && !same(a, b) && strings.HasPrefix(lines(t, b), lines(t, a)) {
				t.Fatalf("%s: %s; %s: %s", short(a), short(lines(t, a)), short(b), short(lines(t, b)))
			}
		}
	}
}

// lines is what Write tells of an answer that has some.
func lines(t *testing.T, a api.Answer) string {
	t.Helper()
	b, e := words.Write(a)
	if e != api.OK || len(b) == 0 {
		t.Fatal(short(a), e)
	}
	return string(b)
}

// checkKept ends the test unless what is read of bytes is written as the bytes that it was read of, is told of them with more behind, and of no fewer.
func checkKept(t *testing.T, s, behind string, of uint8) {
	t.Helper()
	a, n, e := words.Read([]byte(s), of)
	switch {
	case n > len(s) || n < 0 || n == 0 && !same(a, api.Answer{}):
		t.Fatalf("Read(%s, %d): %s, %d, error %d", short(s), of, short(a), n, e)
	case e != api.OK:
		checkRead(t, s+behind, of, api.Answer{}, 0, e)
	case n > 0:
		if b, e := words.Write(a); string(b) != s[:n] || e != api.OK {
			t.Fatalf("%s was read of %s, and is written as %s, error %d", short(a), short(s[:n]), short(string(b)), e)
		}
		checkRead(t, s+behind, of, a, n, api.OK)
		checkRead(t, s[:n], of, a, n, api.OK)
		checkNotWhole(t, s[:n-1], of)
	}
}

// P15.4: what is read is written as the bytes that it was read of.
func TestWhatIsReadIsWritten(t *testing.T) {
	r := rand.New(rand.NewSource(160))
	for range 20000 {
		of := uint8(1)
		if r.Intn(3) == 0 {
			of = uint8(r.Intn(13))
		}
		checkKept(t, randomBlob(r), randomBlob(r)+randomBytes(r, r.Intn(3)), of)
	}
}

// P15.4: answers that come one behind another, in pieces, are read as they were.
func TestInPieces(t *testing.T) {
	r := rand.New(rand.NewSource(161))
	for range 500 {
		var want []api.Answer
		var s []byte
		for range r.Intn(10) {
			a := randomAnswer(r)
			b, _ := words.Write(a)
			want, s = append(want, a), append(s, b...)
		}
		var rest []byte
		for len(s) > 0 || len(rest) > 0 {
			many := min(len(s), 1+r.Intn([]int{1, 20, 1000}[r.Intn(3)]))
			rest, s = append(rest, s[:many]...), s[many:]
			for len(want) > 0 {
				a, n, e := words.Read(rest, want[0].Of)
				if e != api.OK {
					t.Fatal(short(string(rest)), e)
				}
				if n == 0 {
					break
				}
				if !same(a, want[0]) {
					t.Fatalf("%s, want %s", short(a), short(want[0]))
				}
				want, rest = want[1:], rest[n:]
			}
			if len(s) == 0 && len(rest) > 0 {
				t.Fatal(short(string(rest)))
			}
		}
	}
}

// Looks for bytes, and answers, of which something else is told than expressions and the table of lines tell.
func FuzzWords(f *testing.F) {
	f.Add([]byte("VALUE k 7 0 3 2\r\nab\r\nEND\r\n"), []byte("END\r\n"), uint8(1), uint8(1), uint8(1), "k l", "ab", uint64(0), uint64(3), false)
	f.Add([]byte("VALUE k 4294967295 1099511627776 18446744073709551615 0\r\n\r\n"), []byte("VALUE k 0 0 0 512\r\n"), uint8(1), uint8(6), uint8(1), "", "", uint64(9), uint64(0), false)
	f.Add([]byte("DELETED 8\r\n"), []byte("NUMBER 01\r\n"), uint8(1), uint8(10), uint8(1), "", "", uint64(8), uint64(0), false)
	f.Add([]byte("PUSH k\r\nPONG\r\n"), []byte("DENIED\r\nSTORED\r\n"), uint8(7), uint8(0), uint8(0), "key", "", uint64(0), uint64(0), true)
	f.Fuzz(func(t *testing.T, b, behind []byte, kind, of, came uint8, keys, value string, number, n uint64, yes bool) {
		for _, of := range []uint8{1, of} {
			checkModel(t, string(b), of)
			if len(b)+len(behind) <= maxText {
				checkKept(t, string(b), string(behind), of)
			}
		}
		a := api.Answer{Kind: kind, Of: of, Result: api.Result{Kind: came, Number: number}, Yes: yes, Key: keys}
		checkWritten(t, a)
		a.Key = ""
		checkWritten(t, a)
		a.Yes, a.Result.Number = false, 0
		if keys != "" {
			for i, key := range strings.Split(keys, " ") {
				a.Result.Items = append(a.Result.Items, api.Item{Key: key, Value: value, Flags: uint32(n), Until: int(n >> i), Unique: n})
			}
		}
		checkWritten(t, a)
		if s, e := words.Write(a); e == api.OK {
			checkRead(t, string(s)+string(behind[:min(len(behind), 100)]), a.Of, a, len(s), api.OK)
		}
	})
}
