package code_test

import (
	"bytes"
	"encoding/binary"
	"testing"

	"cloakroom/api"
	"cloakroom/code"
)

// edgeNumbers are 0, all powers of two, their neighbours, and the greatest.
func edgeNumbers() []uint64 {
	l := []uint64{0, 300, top}
	for i := range 64 {
		p := uint64(1) << i
		l = append(l, p-1, p, p+1)
	}
	return l
}

// P1.1
func TestSmallWritesTheChaptersBytes(t *testing.T) {
	for _, c := range []struct {
		n    uint64
		want []byte
	}{
		{0, []byte{0}},
		{1, []byte{1}},
		{127, []byte{127}},
		{128, []byte{128, 1}},
		{129, []byte{129, 1}},
		{300, []byte{172, 2}},
		{16383, []byte{255, 127}},
		{16384, []byte{128, 128, 1}},
		{1<<63 - 1, []byte{255, 255, 255, 255, 255, 255, 255, 255, 127}},
		{1 << 63, []byte{128, 128, 128, 128, 128, 128, 128, 128, 128, 1}},
		{top, []byte{255, 255, 255, 255, 255, 255, 255, 255, 255, 1}},
	} {
		if b := code.Small(c.n); !bytes.Equal(b, c.want) {
			t.Errorf("Small(%d) = %v, want %v", c.n, b, c.want)
		}
	}
	for _, n := range edgeNumbers() {
		if b, want := code.Small(n), binary.AppendUvarint(nil, n); !bytes.Equal(b, want) {
			t.Errorf("Small(%d) = %v, want %v", n, b, want)
		}
	}
}

// P1.1, P1.6, W7
func TestReadReadsNumbersWhateverStandsBehind(t *testing.T) {
	for _, n := range edgeNumbers() {
		small := binary.AppendUvarint(nil, n)
		for _, behind := range [][]byte{nil, {0}, {9}, {128}, {255, 255}, small} {
			b := append(append([]byte{}, small...), behind...)
			if m, many, e := code.Read(b); m != n || many != len(small) || e != api.OK {
				t.Errorf("Read(%v) = %d, %d, %d; want %d, %d", b, m, many, e, n, len(small))
			}
		}
	}
}

// P1.1
func TestReadRefusesWhatIsNoNumber(t *testing.T) {
	nines := func(x byte, behind ...byte) []byte {
		return append(bytes.Repeat([]byte{x}, 9), behind...)
	}
	bad := [][]byte{
		nil, {}, {128}, {255}, {128, 128},
		{128, 0}, {255, 0}, {128, 128, 0}, {255, 255, 0, 1}, {128, 0, 1},
		nines(128), nines(255),
		nines(128, 0), nines(255, 0),
		nines(255, 2), nines(128, 2), nines(255, 3), nines(255, 127), nines(128, 64),
		nines(255, 128), nines(255, 129), nines(255, 130), nines(255, 255),
		nines(128, 128, 0), nines(128, 128, 1), nines(255, 129, 0), nines(255, 129, 1), nines(255, 255, 127),
		bytes.Repeat([]byte{128}, 64), append(bytes.Repeat([]byte{128}, 64), 1), append(bytes.Repeat([]byte{128}, 64), 0),
	}
	for _, n := range edgeNumbers() {
		small := binary.AppendUvarint(nil, n)
		for i := range small {
			bad = append(bad, small[:i])
		}
		longer := append(append([]byte{}, small...), 0)
		longer[len(small)-1] |= 128
		bad = append(bad, longer)
	}
	for _, b := range bad {
		n, many, e := code.Read(b)
		if n != 0 || many != 0 || e != api.ErrBad {
			t.Errorf("Read(%v) = %d, %d, %d", b, n, many, e)
		}
	}
}

func someTexts() []string {
	return []string{"", "a", "ab", "\x00", "\xff\xfe", "é", anyBytes(), long(127), long(128), long(300), long(1 << 17)}
}

// P1.1
func TestTextWritesItsLengthAhead(t *testing.T) {
	if b := code.Text("ab"); !bytes.Equal(b, []byte{2, 97, 98}) {
		t.Error(b)
	}
	for _, s := range someTexts() {
		if b := code.Text(s); !bytes.Equal(b, lay(s)) {
			t.Errorf("Text of %d bytes begins %v", len(s), b[:min(len(b), 4)])
		}
	}
}

// P1.1, P1.6, W7
func TestCutReadsTextsWhateverStandsBehind(t *testing.T) {
	if s, rest, e := code.Cut([]byte{2, 97, 98, 7}); s != "ab" || !bytes.Equal(rest, []byte{7}) || e != api.OK {
		t.Error(s, rest, e)
	}
	for _, s := range someTexts() {
		for _, behind := range [][]byte{nil, {0}, {7}, {128, 0}, lay("next")} {
			got, rest, e := code.Cut(append(lay(s), behind...))
			if got != s || !bytes.Equal(rest, behind) || e != api.OK {
				t.Errorf("text of %d bytes, behind it %v: %d bytes, %v, %d", len(s), behind, len(got), rest, e)
			}
		}
	}
}

// P1.1
func TestCutRefusesWhatIsNoText(t *testing.T) {
	bad := [][]byte{
		nil, {}, {1}, {3, 'a', 'b'}, {128}, {128, 0}, {129, 0, 'a'}, {130, 0, 'a', 'b'},
		lay(top), lay(top, "abc"), lay(uint64(1)<<63, "abc"), lay(uint64(1)<<63-1, "abc"), lay(uint64(1)<<32, "abc"),
		{255, 255, 255, 255, 255, 255, 255, 255, 255, 2, 'a'},
	}
	for _, s := range []string{"a", "abc", long(127), long(128)} {
		whole := lay(s)
		for i := range whole {
			bad = append(bad, whole[:i])
		}
	}
	for _, b := range bad {
		s, rest, e := code.Cut(b)
		if s != "" || len(rest) != 0 || e != api.ErrBad {
			t.Errorf("Cut(%v) = %q, %v, %d", b, s, rest, e)
		}
	}
}

// What stands behind the length handed in is room of the caller's, not bytes.
func TestReadingEndsAtTheLength(t *testing.T) {
	b := []byte{128, 1, 'a', 'b'}
	if _, _, e := code.Read(b[:1]); e != api.ErrBad {
		t.Error(e)
	}
	c := []byte{2, 'a', 'b'}
	if _, _, e := code.Cut(c[:2]); e != api.ErrBad {
		t.Error(e)
	}
}

// P1.5
func TestNumbersAndTextsAreNewMemory(t *testing.T) {
	one, two := code.Small(300), code.Small(300)
	one[0], one[1] = 0, 0
	if !bytes.Equal(two, []byte{172, 2}) {
		t.Error("Small shares memory between its answers")
	}
	b := append(make([]byte, 0, 32), 2, 'a', 'b', 7, 8)
	room := b[:cap(b)]
	before := bytes.Clone(room)
	code.Read(b)
	s, rest, _ := code.Cut(b)
	if !bytes.Equal(room, before) {
		t.Error("what was handed in has changed")
	}
	rest = append(rest, 9)
	rest[0] = 1
	if !bytes.Equal(room, before) {
		t.Error("Cut answers a piece of what was handed in")
	}
	b[1], b[3], b[4] = 'z', 'z', 'z'
	if s != "ab" || !bytes.Equal(rest, []byte{1, 8, 9}) {
		t.Error("what Cut answered turns with what was handed in", s, rest)
	}
	empty := append(make([]byte, 0, 8), 1, 'a')
	_, none, _ := code.Cut(empty)
	_ = append(none, 'z')
	if empty[:3][2] != 0 {
		t.Error("Cut answers the spare room of what was handed in")
	}
}
