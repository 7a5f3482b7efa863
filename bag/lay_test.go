package bag_test

import (
	"bytes"
	"slices"
	"testing"

	"cloakroom/api"
)

const (
	least = -1 << 63
	top   = 1<<63 - 1
)

// mostBytes is of one message, written out, so that the program's own number is held against it.
const mostBytes = 65536 + 64

// filled is n bytes x.
func filled(x byte, n int) []byte { return bytes.Repeat([]byte{x}, n) }

// uneven is n bytes that differ by their places and by seed, so that bytes that stand at a wrong place are seen.
func uneven(seed, n int) []byte {
	b := make([]byte, n)
	for i := range b {
		b[i] = byte(7*i + i/251 + 31*seed + 1)
	}
	return b
}

// list is messages, or pieces, of one byte each.
func list(l ...byte) [][]byte {
	var m [][]byte
	for _, x := range l {
		m = append(m, []byte{x})
	}
	return m
}

// numbered is n messages, each of which tells its place and no two of which are the same.
func numbered(n int) [][]byte {
	var l [][]byte
	for i := range n {
		l = append(l, uneven(i, 1+i%5))
		l[i][0] = byte(i)
	}
	return l
}

// roomy is bytes with spare room behind them, all of it 0xee.
func roomy(b []byte) []byte {
	return append(slices.Clip(bytes.Clone(b)), filled(0xee, 40)...)[:len(b)]
}

// roomyList has spare room behind the list and behind the bytes of each of its elements.
func roomyList(l [][]byte) [][]byte {
	var c [][]byte
	for _, b := range l {
		c = append(c, roomy(b))
	}
	return append(c, filled(0xdd, 3), nil, filled(0xcc, 2))[:len(l)]
}

// whole is a slice with its spare room.
func whole[T any](l []T) []T { return l[:cap(l)] }

// wholes is a list with its spare room and that of each of its elements, as new memory.
func wholes(l [][]byte) [][]byte {
	var c [][]byte
	for _, b := range whole(l) {
		c = append(c, bytes.Clone(whole(b)))
	}
	return c
}

func clones(l [][]byte) [][]byte {
	var c [][]byte
	for _, b := range l {
		c = append(c, bytes.Clone(b))
	}
	return c
}

func same(a, b [][]byte) bool { return slices.EqualFunc(a, b, bytes.Equal) }

// flip turns all bits of bytes and of their spare room.
func flip(b []byte) {
	for i := range whole(b) {
		whole(b)[i] ^= 0xff
	}
}

// checkList fails unless a call was well and answered the wanted list.
func checkList(t *testing.T, what any, got [][]byte, e api.Errno, want [][]byte) {
	t.Helper()
	if e != api.OK {
		t.Errorf("%v: error %d", what, e)
	} else if !same(got, want) {
		t.Errorf("%v: %v, want %v", what, got, want)
	}
}

func checkBytes(t *testing.T, what any, got []byte, e api.Errno, want []byte) {
	t.Helper()
	if e != api.OK {
		t.Errorf("%v: error %d", what, e)
	} else if !bytes.Equal(got, want) {
		t.Errorf("%v: %v, want %v", what, got, want)
	}
}

// checkRefused fails unless the error is the wanted one, and nothing stands beside it: neither a list nor bytes.
func checkRefused(t *testing.T, what any, e, want api.Errno, l [][]byte, b []byte) {
	t.Helper()
	if e != want {
		t.Errorf("%v: error %d, want %d", what, e, want)
	}
	if len(l) != 0 || len(b) != 0 {
		t.Errorf("%v: beside error %d stand %d elements and %d bytes", what, e, len(l), len(b))
	}
}

// checkApart fails if what a call answers shares memory, spare room or not, with one of the lists that came, with another answer of it, or one list of it with another one.
func checkApart(t *testing.T, came [][]byte, call func() [][]byte) {
	t.Helper()
	first, second := call(), call()
	want, stay := clones(first), wholes(came)
	for i := range second {
		others := clones(second[i+1:])
		flip(second[i])
		second[i] = append(second[i], 0x77)
		if !same(second[i+1:], others) {
			t.Error("lists of one answer share memory, the one at", i)
		}
	}
	for i := range whole(second) {
		whole(second)[i] = filled(0x66, 4)
	}
	second = append(second, filled(0x55, 4))
	if !same(wholes(came), stay) {
		t.Error("what came changed with the answer")
	}
	if !same(first, want) {
		t.Error("two answers share memory")
	}
	for i := range whole(came) {
		flip(whole(came)[i])
		whole(came)[i] = filled(0x44, 4)
	}
	if !same(first, want) {
		t.Error("the answer changed with what came")
	}
}
