// Package code is layer 1 (shared/doc/01-code.md): numbers, texts, changes and commands as bytes, and the shard of a key. All other layers write and read by it, so that each thing has one form alone.
package code

import "cloakroom/api"

const (
	bitsEach  = 7             // of a number in each of its small bytes
	goesOn    = 1 << bitsEach // added to a byte that is not the last
	mostSmall = 10            // bytes that 64 bits need, seven in each
)

// Small is a number's small bytes.
func Small(n uint64) []byte {
	return addSmall(nil, n)
}

func addSmall(b []byte, n uint64) []byte {
	for ; n >= goesOn; n >>= bitsEach {
		b = append(b, byte(n)|goesOn)
	}
	return append(b, byte(n))
}

// Read is the number whose small bytes b begins with, and how many they are.
func Read(b []byte) (uint64, int, api.Errno) {
	var n uint64
	for i, x := range b[:min(len(b), mostSmall)] {
		bits, place := uint64(x&^goesOn), bitsEach*i
		// Bits that do not come back were pushed out above: the number is not below 2^64.
		if bits<<place>>place != bits {
			return 0, 0, api.ErrBad
		}
		n |= bits << place
		if x >= goesOn {
			continue
		}
		// A last byte of 0 adds nothing, so fewer bytes would have done.
		if x == 0 && i > 0 {
			return 0, 0, api.ErrBad
		}
		return n, i + 1, api.OK
	}
	return 0, 0, api.ErrBad
}

// Text is a text's bytes.
func Text(s string) []byte {
	return addText(nil, s)
}

func addText(b []byte, s string) []byte {
	return append(addSmall(b, uint64(len(s))), s...)
}

// Cut is the text whose bytes b begins with, and what stands behind it.
func Cut(b []byte) (string, []byte, api.Errno) {
	r := reader{rest: b}
	s := r.text()
	if r.bad {
		return "", nil, api.ErrBad
	}
	// A copy: by a piece of b the caller would write, or grow, into what was handed in.
	return s, append([]byte(nil), r.rest...), api.OK
}

func keyMayBe(key string) bool {
	return len(key) >= 1 && len(key) <= api.MaxKey
}

func tenantMayBe(tenant int) bool {
	return tenant >= 0 && tenant < api.MaxTenants
}

func momentMayBe(moment int) bool {
	return moment >= 0 && moment <= api.MaxClock
}
