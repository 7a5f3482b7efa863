package binary_test

import (
	"math/rand"
	"strings"
	"testing"

	"cloakroom/api"
	"cloakroom/binary"
)

// P16.1: packets as they stand, byte by byte.
func TestPackets(t *testing.T) {
	checkPacket(t, 177, 4, "", "\xb1\x04\x00\x00\x00\x00", api.OK)
	checkPacket(t, 178, 1, "x", "\xb2\x01\x00\x00\x00\x01x", api.OK)
	checkPacket(t, 0, 0, "", "\x00\x00\x00\x00\x00\x00", api.OK)
	checkPacket(t, 255, 255, "\x00", "\xff\xff\x00\x00\x00\x01\x00", api.OK)
	for many, length := range map[int]string{
		0: "\x00\x00\x00\x00", 1: "\x00\x00\x00\x01", 255: "\x00\x00\x00\xff", 256: "\x00\x00\x01\x00", 258: "\x00\x00\x01\x02",
		4094: "\x00\x00\x0f\xfe", 4095: "\x00\x00\x0f\xff", 4096: "\x00\x00\x10\x00",
	} {
		body := randomBytes(rand.New(rand.NewSource(int64(many))), many)
		checkPacket(t, 9, 200, body, "\x09\xc8"+length+body, api.OK)
		checkCut(t, 9, "\x09\xc8"+length+body, 200, body, 6+many, api.OK)
	}
	if b, e := binary.Packet(7, 8, nil); string(b) != "\x07\x08\x00\x00\x00\x00" || e != api.OK {
		t.Error(b, e)
	}
}

// P16.1: any first byte, any kind.
func TestAnyFirstByteAndKind(t *testing.T) {
	for first := range 256 {
		for kind := range 256 {
			f, k := uint8(first), uint8(kind)
			s := packet(f, k, "\x00b")
			checkPacket(t, f, k, "\x00b", s, api.OK)
			checkCut(t, f, s+"x", k, "\x00b", 8, api.OK)
			checkCut(t, f, s[:1], 0, "", 0, api.OK)
			checkCut(t, f+1, s, 0, "", 0, api.ErrBad)
		}
	}
}

// P16.1: a body has at most 4096 bytes; nothing is told beside the error.
func TestBodiesThatAreTooLong(t *testing.T) {
	for _, many := range []int{4097, 4098, 8192, 65535, 65536, 65537, 1 << 20} {
		b, e := binary.Packet(177, 4, make([]byte, many))
		if len(b) != 0 || e != api.ErrText {
			t.Errorf("%d: %d bytes, error %d", many, len(b), e)
		}
	}
	for many := range 4097 {
		if b, e := binary.Packet(1, 2, make([]byte, many)); len(b) != many+6 || e != api.OK {
			t.Fatalf("%d: %d bytes, error %d", many, len(b), e)
		}
	}
}

// P16.1: of too few bytes for a packet nothing is told, but that another first byte is.
func TestCutOfFewBytes(t *testing.T) {
	checkCut(t, 9, "", 0, "", 0, api.OK)
	if kind, body, n, e := binary.Cut(0, nil); kind != 0 || len(body) != 0 || n != 0 || e != api.OK {
		t.Error(kind, body, n, e)
	}
	checkCut(t, 0, "\x01", 0, "", 0, api.ErrBad)
	for many := 1; many <= 6; many++ {
		for _, c := range []byte{0, 1, 9, 177, 255} {
			s := "\x09" + strings.Repeat(string([]byte{c}), many-1)
			if many < 6 {
				checkCut(t, 9, s, 0, "", 0, api.OK)
			}
			checkCut(t, 8, s, 0, "", 0, api.ErrBad)
			checkCut(t, 10, s, 0, "", 0, api.ErrBad)
		}
	}
	checkCut(t, 9, "\x09\xff\x00\x00\x00\x00", 255, "", 6, api.OK)
	checkCut(t, 9, "\x09\xff\x00\x00\x00\x01", 0, "", 0, api.OK)
}

// P16.1: a length above 4096 is ErrBad as soon as it is there, with its body and without; each of its four bytes counts.
func TestCutOfLengths(t *testing.T) {
	lengths := map[string]api.Errno{
		"\x00\x00\x10\x00": api.OK, "\x00\x00\x10\x01": api.ErrBad, "\x00\x00\x11\x00": api.ErrBad, "\x00\x00\xff\xff": api.ErrBad,
		"\x00\x01\x00\x00": api.ErrBad, "\x01\x00\x00\x00": api.ErrBad, "\x80\x00\x00\x00": api.ErrBad, "\x00\x80\x00\x00": api.ErrBad, "\x00\x00\x80\x00": api.ErrBad,
		"\x00\x01\x10\x00": api.ErrBad, "\x01\x00\x10\x00": api.ErrBad, "\xff\xff\xff\xff": api.ErrBad, "\x7f\xff\xff\xff": api.ErrBad, "\xff\xff\x00\x00": api.ErrBad, "\xff\x00\x00\x00": api.ErrBad,
	}
	for length, want := range lengths {
		head := "\x09\x01" + length
		for many := range 6 {
			checkCut(t, 9, head[:many], 0, "", 0, api.OK)
		}
		for _, many := range []int{0, 1, 4095, 4097, 5000, maxText - 6} {
			body := strings.Repeat("b", many)
			if want == api.OK && many >= 4096 {
				checkCut(t, 9, head+body, 1, body[:4096], 4102, api.OK)
				continue
			}
			checkCut(t, 9, head+body, 0, "", 0, want)
			checkCut(t, 8, head+body, 0, "", 0, api.ErrBad)
		}
	}
	for n := range 1 << 17 {
		s := string([]byte{9, 1, byte(n >> 24), byte(n >> 16), byte(n >> 8), byte(n)})
		switch {
		case n == 0:
			checkCut(t, 9, s, 1, "", 6, api.OK)
		case n <= 4096:
			checkCut(t, 9, s, 0, "", 0, api.OK)
		default:
			checkCut(t, 9, s, 0, "", 0, api.ErrBad)
		}
	}
}

// P16.1: a packet is there whole, or not, by one byte; what stands behind it changes nothing.
func TestCutOfWholePackets(t *testing.T) {
	for _, many := range []int{1, 2, 255, 256, 257, 4095, 4096} {
		body := randomBytes(rand.New(rand.NewSource(int64(many))), many)
		s := packet(177, 200, body)
		for _, less := range []int{1, 2, many} {
			checkCut(t, 177, s[:len(s)-less], 0, "", 0, api.OK)
		}
		for _, behind := range []string{"", "x", s, strings.Repeat("x", maxText-len(s))} {
			checkCut(t, 177, s+behind, 200, body, 6+many, api.OK)
		}
	}
}

// P16.1: bytes are held against MaxText ahead of all else.
func TestCutOfTooManyBytes(t *testing.T) {
	for _, s := range []string{packet(9, 3, "ab"), "", "\x09", "\x08", "\x09\x01\xff\xff\xff\xff"} {
		most := s + strings.Repeat("\x09", maxText-len(s))
		kind, body, n, e := wantCut(9, most)
		checkCut(t, 9, most, kind, body, n, e)
		if e == api.ErrText {
			t.Fatal("the model is wrong")
		}
		for _, more := range []int{1, 2, maxText, 1 << 20} {
			checkCut(t, 9, most+strings.Repeat("\x00", more), 0, "", 0, api.ErrText)
		}
	}
	checkCut(t, 9, strings.Repeat("\x08", maxText), 0, "", 0, api.ErrBad)
	checkCut(t, 9, strings.Repeat("\x08", maxText+1), 0, "", 0, api.ErrText)
}

// P16.1: packets with any one or two bytes turned, left out or doubled.
func TestManyCuts(t *testing.T) {
	r := rand.New(rand.NewSource(161))
	told := map[api.Errno]int{}
	for range 30000 {
		s := randomBlob(r)
		first := uint8(177)
		if r.Intn(4) == 0 {
			first = uint8(r.Intn(256))
		}
		kind, body, n, e := wantCut(first, s)
		checkCut(t, first, s, kind, body, n, e)
		told[e]++
		body = randomBytes(r, r.Intn(maxPacket+100)>>r.Intn(12))
		want, wantE := packet(first, uint8(len(s)), body), api.OK
		if len(body) > maxPacket {
			want, wantE = "", api.ErrText
		}
		checkPacket(t, first, uint8(len(s)), body, want, wantE)
	}
	if told[api.OK] < 5000 || told[api.ErrBad] < 5000 {
		t.Error("too few", told)
	}
}
