package disk_test

import (
	"bytes"
	"fmt"
	"math/rand"
	"slices"
	"testing"

	"cloakroom/api"
	"cloakroom/disk"
)

// P2.2, P2.5: what was written is read, and all other blocks are as they were.
func TestWriteIntoOneBlock(t *testing.T) {
	for _, d := range disks() {
		many := len(d.Data) / api.Block
		for _, n := range []int{0, many / 2, many - 1} {
			want := parted(d)
			want[n] = uneven(9, api.Block)
			x, e := disk.Write(d, n, uneven(9, api.Block))
			checkDisk(t, n, x, e, joined(want...))
			b, e := disk.Read(x, n)
			checkBytes(t, n, b, e, uneven(9, api.Block))
		}
	}
}

// P2.2: of several errors the disk's stands first, then the number's, then the bytes'.
func TestWriteOfWrongOnes(t *testing.T) {
	for _, d := range disks() {
		many := len(d.Data) / api.Block
		for _, n := range wrongNumbers(many) {
			for _, size := range append(wrongLengths(), api.Block) {
				x, e := disk.Write(d, n, filled(1, size))
				checkErrno(t, [2]int{n, size}, e, api.ErrArg, x)
			}
		}
		for _, size := range wrongLengths() {
			x, e := disk.Write(d, many-1, filled(1, size))
			checkErrno(t, size, e, api.ErrText, x)
			x, e = disk.Write(d, 0, filled(1, size))
			checkErrno(t, size, e, api.ErrText, x)
		}
		x, e := disk.Write(d, 0, nil)
		checkErrno(t, "nil", e, api.ErrText, x)
	}
	for _, d := range wrongDisks() {
		for _, n := range []int{0, -1, 1, top, least} {
			for _, size := range append(wrongLengths(), api.Block) {
				x, e := disk.Write(d, n, filled(1, size))
				checkErrno(t, [2]int{n, size}, e, api.ErrDisk, x)
			}
		}
	}
}

// P2.5: the last write into a block is the one that is read.
func TestWriteAgain(t *testing.T) {
	r := rand.New(rand.NewSource(2))
	d, _ := disk.New(5)
	want := parted(d)
	for range 400 {
		n := r.Intn(5)
		want[n] = uneven(r.Intn(256), api.Block)
		x, e := disk.Write(d, n, want[n])
		checkDisk(t, n, x, e, joined(want...))
		d = x
	}
}

// P2.3
func TestDoInPart(t *testing.T) {
	for _, d := range disks() {
		last := len(d.Data)/api.Block - 1
		l := []api.Put{{N: last, Data: uneven(1, api.Block)}, {N: 0, Data: uneven(2, api.Block)}, {N: last / 2, Data: uneven(3, api.Block)}, {N: last, Data: uneven(4, api.Block)}, {N: last, Data: uneven(1, api.Block)}, {N: 0, Data: noughts()}}
		want := parted(d)
		for many := 0; many <= len(l); many++ {
			if many > 0 {
				want[l[many-1].N] = l[many-1].Data
			}
			x, e := disk.Do(d, l, many)
			checkDisk(t, [2]int{last, many}, x, e, joined(want...))
		}
	}
}

// P2.3: a list without writes, nil or not, leaves the disk.
func TestDoNothing(t *testing.T) {
	for _, d := range disks() {
		for _, l := range [][]api.Put{nil, {}, {{N: 0, Data: ones()}}} {
			x, e := disk.Do(d, l, 0)
			checkDisk(t, len(l), x, e, d)
		}
	}
}

// P2.3: the disk's error stands first, then those of the writes in order, also of those that would not be done, then that of many.
func TestDoOfWrongOnes(t *testing.T) {
	d := api.Device{Data: uneven(1, 2*api.Block)}
	well := api.Put{N: 1, Data: ones()}
	far := api.Put{N: 2, Data: ones()}
	ahead := api.Put{N: -1, Data: ones()}
	short := api.Put{N: 0, Data: ones()[:63]}
	long := api.Put{N: 0, Data: filled(1, 65)}
	both := api.Put{N: 2, Data: nil}
	for i, c := range []struct {
		l    []api.Put
		many int
		e    api.Errno
	}{
		{nil, 1, api.ErrArg},
		{nil, -1, api.ErrArg},
		{[]api.Put{well}, -1, api.ErrArg},
		{[]api.Put{well}, 2, api.ErrArg},
		{[]api.Put{well, well}, 3, api.ErrArg},
		{[]api.Put{well, well}, top, api.ErrArg},
		{[]api.Put{well, well}, least, api.ErrArg},
		{[]api.Put{far}, 1, api.ErrArg},
		{[]api.Put{ahead}, 1, api.ErrArg},
		{[]api.Put{far}, 0, api.ErrArg},
		{[]api.Put{short}, 1, api.ErrText},
		{[]api.Put{long}, 1, api.ErrText},
		{[]api.Put{short}, 0, api.ErrText},
		{[]api.Put{{}}, 1, api.ErrText},
		{[]api.Put{both}, 1, api.ErrArg},
		{[]api.Put{well, short, far}, 3, api.ErrText},
		{[]api.Put{well, far, short}, 3, api.ErrArg},
		{[]api.Put{well, well, short}, 2, api.ErrText},
		{[]api.Put{well, well, far}, 1, api.ErrArg},
		{[]api.Put{short, well}, 9, api.ErrText},
		{[]api.Put{well, long}, -1, api.ErrText},
	} {
		x, e := disk.Do(d, c.l, c.many)
		checkErrno(t, i, e, c.e, x)
		for _, wrong := range wrongDisks() {
			x, e := disk.Do(wrong, c.l, c.many)
			checkErrno(t, [2]int{i, len(wrong.Data)}, e, api.ErrDisk, x)
		}
	}
	for _, wrong := range wrongDisks() {
		x, e := disk.Do(wrong, []api.Put{{N: 0, Data: ones()}}, 1)
		checkErrno(t, len(wrong.Data), e, api.ErrDisk, x)
		x, e = disk.Do(wrong, nil, 0)
		checkErrno(t, len(wrong.Data), e, api.ErrDisk, x)
	}
}

// P2.3: of each write the error is the one that Write answers of it.
func TestDoAnswersTheErrorOfWrite(t *testing.T) {
	for _, d := range disks() {
		many := len(d.Data) / api.Block
		for _, n := range append(wrongNumbers(many), 0, many-1) {
			for _, size := range append(wrongLengths(), api.Block) {
				b := filled(1, size)
				_, want := disk.Write(d, n, b)
				x, e := disk.Do(d, []api.Put{{N: 0, Data: twos()}, {N: n, Data: b}}, 2)
				checkErrno(t, [2]int{n, size}, e, want, x)
			}
		}
	}
}

// P2.3: Left asks of no disk, so its writes may be any ones.
func TestLeft(t *testing.T) {
	l := []api.Put{{N: 2, Data: ones()}, {}, {N: -1, Data: uneven(1, 3)}, {N: top, Data: []byte{}}, {N: least, Data: uneven(2, 1000)}}
	for many := 0; many <= len(l); many++ {
		left, e := disk.Left(l, many)
		if e != api.OK || !samePuts(left, l[many:]) {
			t.Error(many, left, e)
		}
	}
	for _, none := range [][]api.Put{nil, {}} {
		left, e := disk.Left(none, 0)
		if e != api.OK || len(left) != 0 {
			t.Error("of none", left, e)
		}
	}
}

// P2.3
func TestLeftOfWrongNumbers(t *testing.T) {
	l := []api.Put{{N: 0, Data: ones()}, {N: 1, Data: ones()}, {N: 0, Data: ones()}}
	for size := range len(l) + 1 {
		// The room behind the list holds writes, too: they are none of it.
		for _, many := range []int{-1, -size - 1, size + 1, size + 2, top, least} {
			left, e := disk.Left(l[:size], many)
			checkErrno(t, [2]int{size, many}, e, api.ErrArg, left)
			d, e := disk.Do(api.Device{Data: uneven(1, 2*api.Block)}, l[:size], many)
			checkErrno(t, [2]int{size, many}, e, api.ErrArg, d)
		}
	}
}

// P2.5, W3: wherever the writes are broken off, each block is whole, the old one or one that was written into it; and with those that are left all is done.
func TestBrokenOffAndDoneToTheEnd(t *testing.T) {
	r := rand.New(rand.NewSource(3))
	for range 60 {
		blocks := 1 + r.Intn(6)
		d := api.Device{Data: uneven(r.Intn(256), blocks*api.Block)}
		l := randomPuts(r, blocks, 12)
		all, e := disk.Do(d, l, len(l))
		if e != api.OK {
			t.Fatal(e)
		}
		for many := range len(l) + 1 {
			part, e := disk.Do(d, l, many)
			if e != api.OK {
				t.Fatal(many, e)
			}
			for n, b := range parted(part) {
				may := [][]byte{parted(d)[n]}
				for _, w := range l[:many] {
					if w.N == n {
						may = append(may, w.Data)
					}
				}
				if !bytes.Equal(b, may[len(may)-1]) {
					t.Error(many, "block", n, "is not what was written last into it")
				}
			}
			left, e := disk.Left(l, many)
			if e != api.OK {
				t.Fatal(many, e)
			}
			x, e := disk.Do(part, left, len(left))
			checkDisk(t, many, x, e, all)
			if !disk.Same(x, all) {
				t.Error(many, "not the same")
			}
		}
	}
}

// P2.5: doing writes at once is writing them one by one.
func TestDoIsWriteByWrite(t *testing.T) {
	r := rand.New(rand.NewSource(4))
	for _, d := range disks() {
		l := randomPuts(r, len(d.Data)/api.Block, 8)
		want := d
		for many := range len(l) + 1 {
			x, e := disk.Do(d, l, many)
			checkDisk(t, many, x, e, want)
			if many < len(l) {
				want, e = disk.Write(want, l[many].N, l[many].Data)
				if e != api.OK {
					t.Fatal(many, e)
				}
			}
		}
	}
}

// P2.5: a list may have more writes than a disk has blocks.
func TestDoManyWrites(t *testing.T) {
	d, _ := disk.New(api.MaxBlocks)
	want := make([][]byte, api.MaxBlocks)
	var l []api.Put
	for i := range 3 * api.MaxBlocks {
		n := i * 5 % api.MaxBlocks
		want[n] = uneven(i, api.Block)
		l = append(l, api.Put{N: n, Data: want[n]})
	}
	x, e := disk.Do(d, l, len(l))
	checkDisk(t, "all", x, e, joined(want...))
}

// P2.4: no call changes what it is handed, nor the room behind it, be it well or refused.
func TestArgumentsStay(t *testing.T) {
	d := api.Device{Data: roomy(uneven(1, 3*api.Block))}
	b := roomy(uneven(2, api.Block))
	l := append([]api.Put(nil), api.Put{N: 2, Data: roomy(uneven(3, api.Block))}, api.Put{N: 0, Data: roomy(uneven(4, api.Block))}, api.Put{N: 7, Data: roomy(uneven(5, 3))})
	good := l[:2]
	disk0, b0, l0 := bytes.Clone(whole(d.Data)), bytes.Clone(whole(b)), clonePuts(wholes(l))
	calls := map[string]func(){
		"Check":         func() { disk.Check(d) },
		"Many":          func() { disk.Many(d) },
		"Same":          func() { disk.Same(d, api.Device{Data: b}) },
		"Read":          func() { disk.Read(d, 1) },
		"Write":         func() { disk.Write(d, 1, b) },
		"Write refused": func() { disk.Write(d, 3, b) },
		"Do":            func() { disk.Do(d, good, 2) },
		"Do in part":    func() { disk.Do(d, good, 1) },
		"Do refused":    func() { disk.Do(d, l, 3) },
		"Do by a number": func() {
			disk.Do(d, good, 3)
		},
		"Left":         func() { disk.Left(l, 1) },
		"Left refused": func() { disk.Left(good, 3) },
	}
	for name, call := range calls {
		call()
		if !bytes.Equal(whole(d.Data), disk0) {
			t.Error(name, "changed the disk")
		}
		if !bytes.Equal(whole(b), b0) {
			t.Error(name, "changed the bytes")
		}
		if !samePuts(wholes(l), l0) {
			t.Error(name, "changed the writes")
		}
	}
}

// wholes are writes with the spare room of the list and of each one's bytes.
func wholes(l []api.Put) []api.Put {
	all := slices.Clone(whole(l))
	for i := range all {
		all[i].Data = whole(all[i].Data)
	}
	return all
}

// P2.4: neither does an answer change with an argument, nor an argument with an answer, by writing into it or growing it.
func TestAnswersAreNewMemory(t *testing.T) {
	for _, many := range []int{0, 1, 2} {
		t.Run(fmt.Sprint("Do ", many), func(t *testing.T) {
			d, l := sharable()
			checkApart(t, d, l, func() []byte { x, _ := disk.Do(d, l, many); return x.Data })
		})
		t.Run(fmt.Sprint("Left ", many), func(t *testing.T) {
			d, l := sharable()
			for i := range 2 - many {
				checkApart(t, d, l, func() []byte { x, _ := disk.Left(l, many); return x[i].Data })
			}
		})
	}
	t.Run("Write", func(t *testing.T) {
		d, l := sharable()
		checkApart(t, d, l, func() []byte { x, _ := disk.Write(d, 1, l[0].Data); return x.Data })
	})
}

// sharable is a disk and writes with room behind all bytes, one of which is a piece of the disk.
func sharable() (api.Device, []api.Put) {
	d := api.Device{Data: roomy(uneven(1, 3*api.Block))}
	return d, []api.Put{{N: 2, Data: roomy(uneven(3, api.Block))}, {N: 0, Data: d.Data[64:128]}}
}

func checkApart(t *testing.T, d api.Device, l []api.Put, call func() []byte) {
	t.Helper()
	got, again := call(), call()
	want := bytes.Clone(got)
	disk0, l0 := bytes.Clone(whole(d.Data)), clonePuts(wholes(l))
	for i := range whole(again) {
		whole(again)[i] ^= 0xff
	}
	again = append(again, ones()...)
	if !bytes.Equal(whole(d.Data), disk0) || !samePuts(wholes(l), l0) {
		t.Error("an argument changed with the answer")
	}
	if !bytes.Equal(got, want) {
		t.Error("two answers share memory")
	}
	turn := func() {
		for i := range whole(d.Data) {
			whole(d.Data)[i] ^= 0x55
		}
		for i := range whole(l[0].Data) {
			whole(l[0].Data)[i] ^= 0x55
		}
	}
	turn()
	if !bytes.Equal(got, want) {
		t.Error("the answer changed with an argument")
	}
	turn()
}

// P2.4: no two lists of Left's answer share memory, though those that came did, and its list is not the one that came.
func TestLeftSharesNothing(t *testing.T) {
	shared := roomy(uneven(1, 2*api.Block))
	l := []api.Put{{N: 0, Data: shared[:64]}, {N: 1, Data: shared[:64]}, {N: 2, Data: shared[:0]}, {N: 3, Data: shared[32:96]}, {N: 4}}
	l0 := clonePuts(l)
	left, e := disk.Left(l, 0)
	if e != api.OK {
		t.Fatal(e)
	}
	for i := range left {
		left[i].Data = append(left[i].Data, filled(0xcc, 200)...)[:len(left[i].Data)]
		for j := range whole(left[i].Data) {
			whole(left[i].Data)[j] = byte(i)
		}
		if !samePuts(left[i+1:], l0[i+1:]) {
			t.Error(i, "others changed with it")
		}
	}
	again, _ := disk.Left(l, 1)
	for i := range whole(again) {
		whole(again)[i] = api.Put{N: 99}
	}
	again = append(again, api.Put{N: 98})
	if !samePuts(l, l0) {
		t.Error("the argument changed")
	}
	// An empty piece must not hold on to what came, either: its room would reach into it.
	again, _ = disk.Left(l, 2)
	again[0].Data = append(again[0].Data, 0xcc)
	if !samePuts(l, l0) {
		t.Error("the argument changed by an empty piece")
	}
}

// P2.4, P2.5: a write whose bytes are a piece of the disk itself writes what stood there when it came.
func TestWriteOfThePieceOfADisk(t *testing.T) {
	d := api.Device{Data: uneven(1, 4*api.Block)}
	p := parted(d)
	l := []api.Put{{N: 0, Data: d.Data[64:128]}, {N: 1, Data: d.Data[0:64]}, {N: 3, Data: d.Data[32:96]}}
	x, e := disk.Do(d, l, 3)
	checkDisk(t, "turned about", x, e, joined(p[1], p[0], p[2], slices.Concat(p[0][32:], p[1][:32])))
	checkDisk(t, "the disk itself", d, api.OK, joined(p...))
	x, e = disk.Write(d, 2, d.Data[128:192])
	checkDisk(t, "onto itself", x, e, joined(p...))
	checkDisk(t, "the disk itself", d, api.OK, joined(p...))
}

// P2.4: an answer has no room behind it, so that two lists that grow from it never grow into each other.
func TestNothingGrowsFromAnAnswer(t *testing.T) {
	d := api.Device{Data: roomy(uneven(1, 5*api.Block))}
	l := []api.Put{{N: 4, Data: roomy(ones())}, {N: 0, Data: roomy(uneven(1, 33))}}
	made, _ := disk.New(5)
	written, _ := disk.Write(d, 4, ones())
	done, _ := disk.Do(d, l[:1], 1)
	read, _ := disk.Read(d, 0)
	left, _ := disk.Left(l, 0)
	for i, b := range [][]byte{made.Data, written.Data, done.Data, read, left[0].Data, left[1].Data} {
		x, y := append(b, 1), append(b, 2)
		if x[len(b)] != 1 || y[len(b)] != 2 {
			t.Error(i)
		}
	}
	x, y := append(left, api.Put{N: 1}), append(left, api.Put{N: 2})
	if x[2].N != 1 || y[2].N != 2 {
		t.Error("the list of writes")
	}
}
