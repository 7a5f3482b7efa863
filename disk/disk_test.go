package disk_test

import (
	"bytes"
	"testing"

	"cloakroom/api"
	"cloakroom/disk"
)

// The chapter's examples.
func TestExamples(t *testing.T) {
	d, e := disk.New(2)
	checkDisk(t, "New(2)", d, e, joined(noughts(), noughts()))
	w, e := disk.Write(d, 1, ones())
	checkDisk(t, "Write(D, 1, ones)", w, e, joined(noughts(), ones()))
	b, e := disk.Read(w, 1)
	checkBytes(t, "Read(Write(D, 1, ones), 1)", b, e, ones())
	if many, e := disk.Many(d); many != 2 || e != api.OK {
		t.Error("Many(D)", many, e)
	}
	three := []api.Put{{N: 0, Data: ones()}, {N: 0, Data: twos()}, {N: 1, Data: ones()}}
	x, e := disk.Do(d, three, 2)
	checkDisk(t, "Do(D, three, 2)", x, e, joined(twos(), noughts()))
	left, e := disk.Left(three, 2)
	if e != api.OK || !samePuts(left, []api.Put{{N: 1, Data: ones()}}) {
		t.Error("Left(three, 2)", left, e)
	}
	x, e = disk.New(0)
	checkErrno(t, "New(0)", e, api.ErrDisk, x)
	x, e = disk.New(4097)
	checkErrno(t, "New(4097)", e, api.ErrDisk, x)
	b, e = disk.Read(d, 2)
	checkErrno(t, "Read(D, 2)", e, api.ErrArg, b)
	x, e = disk.Write(d, 0, ones()[:63])
	checkErrno(t, "Write(D, 0, 63 bytes)", e, api.ErrText, x)
	x, e = disk.Do(d, nil, 1)
	checkErrno(t, "Do(D, none, 1)", e, api.ErrArg, x)
}

// P2.1
func TestNewIsNoughts(t *testing.T) {
	for _, n := range []int{1, 2, 3, 64, 65, api.MaxBlocks - 1, api.MaxBlocks} {
		d, e := disk.New(n)
		checkDisk(t, n, d, e, api.Device{Data: make([]byte, n*64)})
		if e := disk.Check(d); e != api.OK {
			t.Error(n, "Check", e)
		}
		if many, e := disk.Many(d); many != n || e != api.OK {
			t.Error(n, "Many", many, e)
		}
	}
}

// P2.1
func TestNewOfWrongNumbers(t *testing.T) {
	for _, n := range []int{0, -1, -2, -api.MaxBlocks, api.MaxBlocks + 1, 2 * api.MaxBlocks, 1 << 32, 1<<32 + 1, 1 << 58, 1<<58 + 1, 1<<62 + 1, top, least, least + 1} {
		d, e := disk.New(n)
		checkErrno(t, n, e, api.ErrDisk, d)
	}
}

// P2.1
func TestCheckAndMany(t *testing.T) {
	for _, many := range []int{1, 2, 3, 100, api.MaxBlocks - 1, api.MaxBlocks} {
		d := api.Device{Data: uneven(1, 64*many)}
		if e := disk.Check(d); e != api.OK {
			t.Error(many, "Check", e)
		}
		if got, e := disk.Many(d); got != many || e != api.OK {
			t.Error(many, "Many", got, e)
		}
	}
	for _, d := range wrongDisks() {
		if e := disk.Check(d); e != api.ErrDisk {
			t.Error(len(d.Data), "Check", e)
		}
		many, e := disk.Many(d)
		checkErrno(t, len(d.Data), e, api.ErrDisk, many)
	}
}

// P2.1: what counts is how many bytes there are, not the room behind them.
func TestSpareRoomIsNoPartOfADisk(t *testing.T) {
	d := api.Device{Data: roomy(uneven(1, 2*api.Block))}
	if many, e := disk.Many(d); many != 2 || e != api.OK {
		t.Error("Many", many, e)
	}
	b, e := disk.Read(d, 2)
	checkErrno(t, "Read", e, api.ErrArg, b)
	x, e := disk.Write(d, 2, ones())
	checkErrno(t, "Write", e, api.ErrArg, x)
	x, e = disk.Write(d, 1, roomy(ones()[:api.Block-1]))
	checkErrno(t, "Write of a short one", e, api.ErrText, x)
	short := api.Device{Data: roomy(uneven(1, 2*api.Block-1))}
	if e := disk.Check(short); e != api.ErrDisk {
		t.Error("Check", e)
	}
	if !disk.Same(d, api.Device{Data: uneven(1, 2*api.Block)}) {
		t.Error("Same: the room made a difference")
	}
}

// P2.1: of any ones, be they disks that may be or not.
func TestSame(t *testing.T) {
	all := append(disks(), wrongDisks()...)
	all = append(all, joined(noughts()), joined(ones()), joined(noughts(), ones()), joined(ones(), noughts()))
	for i, a := range all {
		for j, b := range all {
			want := bytes.Equal(a.Data, b.Data)
			if got := disk.Same(a, api.Device{Data: bytes.Clone(b.Data)}); got != want {
				t.Error(i, j, got)
			}
		}
	}
}

// P2.1: every byte counts.
func TestSameOfDisksThatDifferInOneByte(t *testing.T) {
	a := api.Device{Data: uneven(1, 3*api.Block)}
	for i := range a.Data {
		b := api.Device{Data: bytes.Clone(a.Data)}
		b.Data[i] ^= 1 << (i % 8)
		if disk.Same(a, b) || disk.Same(b, a) {
			t.Error(i)
		}
	}
	for _, n := range []int{0, 1, api.Block, 2 * api.Block, 3*api.Block - 1} {
		b := api.Device{Data: a.Data[:n]}
		if disk.Same(a, b) || disk.Same(b, a) {
			t.Error("the first", n)
		}
	}
	if !disk.Same(api.Device{}, api.Device{Data: []byte{}}) || !disk.Same(api.Device{Data: []byte{}}, api.Device{}) {
		t.Error("no bytes, nil or not")
	}
}

// P2.2
func TestReadEachBlock(t *testing.T) {
	for _, d := range disks() {
		for n, want := range parted(d) {
			b, e := disk.Read(d, n)
			checkBytes(t, n, b, e, want)
		}
	}
}

// P2.2: the disk's error stands ahead of the number's.
func TestReadOfWrongOnes(t *testing.T) {
	for _, d := range disks() {
		for _, n := range wrongNumbers(len(d.Data) / api.Block) {
			b, e := disk.Read(d, n)
			checkErrno(t, n, e, api.ErrArg, b)
		}
	}
	for _, d := range wrongDisks() {
		for _, n := range []int{0, 1, -1, api.MaxBlocks, top, least} {
			b, e := disk.Read(d, n)
			checkErrno(t, n, e, api.ErrDisk, b)
		}
	}
}

// P2.4: Read's answer is not the disk's memory, and nothing grows from it into the disk.
func TestReadIsNewMemory(t *testing.T) {
	d := api.Device{Data: roomy(uneven(1, 3*api.Block))}
	before := bytes.Clone(whole(d.Data))
	for n := range 3 {
		b, e := disk.Read(d, n)
		if e != api.OK {
			t.Fatal(n, e)
		}
		other, _ := disk.Read(d, n)
		want := bytes.Clone(other)
		for i := range whole(b) {
			whole(b)[i] ^= 0xff
		}
		b = append(b, ones()...)
		if !bytes.Equal(whole(d.Data), before) {
			t.Error(n, "the disk changed with what was read")
		}
		if !bytes.Equal(other, want) {
			t.Error(n, "two answers share memory")
		}
	}
}

// P2.4: nor do two answers of New share memory.
func TestNewIsNewMemory(t *testing.T) {
	for _, n := range []int{1, 2, api.MaxBlocks} {
		a, _ := disk.New(n)
		b, _ := disk.New(n)
		for i := range whole(a.Data) {
			whole(a.Data)[i] = 0xff
		}
		if c, _ := disk.New(n); !bytes.Equal(b.Data, make([]byte, 64*n)) || !bytes.Equal(c.Data, make([]byte, 64*n)) {
			t.Error(n)
		}
	}
}
