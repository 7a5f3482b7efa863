package disk_test

import (
	"bytes"
	"math/rand"
	"reflect"
	"testing"

	"cloakroom/api"
)

// filled is n bytes x.
func filled(x byte, n int) []byte { return bytes.Repeat([]byte{x}, n) }

func noughts() []byte { return filled(0, api.Block) }
func ones() []byte    { return filled(1, api.Block) }
func twos() []byte    { return filled(2, api.Block) }

// uneven is n bytes no two neighbours of which are the same, and which differ by seed, so that bytes that stand at a wrong place are seen.
func uneven(seed, n int) []byte {
	b := make([]byte, n)
	for i := range b {
		b[i] = byte(7*i + i/api.Block + 31*seed + 1)
	}
	return b
}

// roomy is bytes with spare room behind them, all of it 0xee.
func roomy(b []byte) []byte {
	l := append(append([]byte(nil), b...), filled(0xee, 2*api.Block)...)
	return l[:len(b)]
}

// whole is a slice with its spare room.
func whole[T any](l []T) []T { return l[:cap(l)] }

// joined is the disk that has these blocks, put together without package disk.
func joined(l ...[]byte) api.Device { return api.Device{Data: bytes.Join(l, nil)} }

// parted are a disk's blocks, cut without package disk.
func parted(d api.Device) [][]byte {
	var l [][]byte
	for at := 0; at < len(d.Data); at += api.Block {
		l = append(l, bytes.Clone(d.Data[at:at+api.Block]))
	}
	return l
}

// disks are such that may be: of one block, of some, of as many as may be, each of uneven bytes.
func disks() []api.Device {
	var l []api.Device
	for _, many := range []int{1, 2, 3, 65, api.MaxBlocks} {
		l = append(l, api.Device{Data: uneven(many, many*api.Block)})
	}
	return l
}

// wrongDisks are such that may not be: by their length alone, whatever room stands behind it.
func wrongDisks() []api.Device {
	l := []api.Device{{}, {Data: []byte{}}, {Data: ones()[:0]}, {Data: ones()[:api.Block-1]}}
	for _, n := range []int{1, api.Block - 1, api.Block + 1, 100, 2*api.Block - 1, api.MaxBlocks*api.Block - 1, api.MaxBlocks*api.Block + 1, (api.MaxBlocks + 1) * api.Block, 2 * api.MaxBlocks * api.Block} {
		l = append(l, api.Device{Data: filled(1, n)})
	}
	return l
}

const (
	least = -1 << 63
	top   = 1<<63 - 1
)

// wrongNumbers are no blocks of a disk of many, some of them so that times Block they wrap round to one that is.
func wrongNumbers(many int) []int {
	return []int{-1, many, many + 1, -many, least, top, 1 << 58, 1<<58 + 1, 1 << 32, least + 1}
}

// wrongLengths are no block's.
func wrongLengths() []int {
	return []int{0, 1, api.Block - 1, api.Block + 1, 2 * api.Block}
}

// checkErrno fails unless e is as wanted and, beside an error, the other result is zero.
func checkErrno(t *testing.T, what any, e, want api.Errno, other any) {
	t.Helper()
	if e != want {
		t.Errorf("%v: error %d, want %d", what, e, want)
	}
	v := reflect.ValueOf(other)
	if want != api.OK && !v.IsZero() && !(v.Kind() == reflect.Slice && v.Len() == 0) {
		t.Errorf("%v: beside error %d stands %v", what, e, other)
	}
}

func checkDisk(t *testing.T, what any, got api.Device, e api.Errno, want api.Device) {
	t.Helper()
	checkErrno(t, what, e, api.OK, got)
	if !bytes.Equal(got.Data, want.Data) {
		t.Errorf("%v: another disk than wanted (of %d bytes, want %d)", what, len(got.Data), len(want.Data))
	}
}

func checkBytes(t *testing.T, what any, got []byte, e api.Errno, want []byte) {
	t.Helper()
	checkErrno(t, what, e, api.OK, got)
	if !bytes.Equal(got, want) {
		t.Errorf("%v: %v, want %v", what, got, want)
	}
}

// randomPuts are writes that may be on a disk of so many blocks, many of them into the same ones.
func randomPuts(r *rand.Rand, blocks, most int) []api.Put {
	l := make([]api.Put, r.Intn(most+1))
	for i := range l {
		l[i] = api.Put{N: r.Intn(blocks), Data: make([]byte, api.Block)}
		r.Read(l[i].Data)
	}
	return l
}

func clonePuts(l []api.Put) []api.Put {
	var c []api.Put
	for _, w := range l {
		c = append(c, api.Put{N: w.N, Data: bytes.Clone(w.Data)})
	}
	return c
}

func samePuts(a, b []api.Put) bool {
	if len(a) != len(b) {
		return false
	}
	for i := range a {
		if a[i].N != b[i].N || !bytes.Equal(a[i].Data, b[i].Data) {
			return false
		}
	}
	return true
}
