package code_test

import (
	"encoding/binary"
	"math/rand"
	"reflect"
	"strings"
	"testing"

	"cloakroom/api"
)

// lay puts bytes together by the chapter's words without package code, so that a fault that writing and reading share is seen: a byte and bytes as they are, a number as small bytes, a text behind its length.
func lay(parts ...any) []byte {
	var b []byte
	for _, part := range parts {
		switch p := part.(type) {
		case byte:
			b = append(b, p)
		case []byte:
			b = append(b, p...)
		case int:
			b = binary.AppendUvarint(b, uint64(p))
		case uint64:
			b = binary.AppendUvarint(b, p)
		case string:
			b = append(binary.AppendUvarint(b, uint64(len(p))), p...)
		default:
			panic("lay: a part of an unknown type")
		}
	}
	return b
}

const top = uint64(1<<64 - 1)

// anyBytes has each byte once, so that texts are seen to be bytes, not runes.
func anyBytes() string {
	b := make([]byte, 256)
	for i := range b {
		b[i] = byte(i)
	}
	return string(b)
}

func long(n int) string { return strings.Repeat("x", n) }

// checkErrno fails unless e is as wanted and, beside an error, the other result is zero.
func checkErrno(t *testing.T, what any, e, want api.Errno, other any) {
	t.Helper()
	if e != want {
		t.Errorf("%v: error %d, want %d", what, e, want)
	}
	v := reflect.ValueOf(other)
	if want != api.OK && !v.IsZero() && !(v.Kind() == reflect.Slice && v.Len() == 0) {
		t.Errorf("%v: beside error %d stands %v", what, e, other)
	}
}

// spoil turns, drops, doubles or adds one byte.
func spoil(r *rand.Rand, b []byte) []byte {
	l := append([]byte(nil), b...)
	at := r.Intn(len(l) + 1)
	if at == len(l) {
		return append(l, byte(r.Intn(256)))
	}
	switch r.Intn(4) {
	case 0:
		l[at] = byte(r.Intn(256))
	case 1:
		l[at] ^= 1 << r.Intn(8)
	case 2:
		l = append(l[:at], l[at+1:]...)
	default:
		l = append(l[:at+1], l[at:]...)
	}
	return l
}

func randomText(r *rand.Rand, least, most int) string {
	b := make([]byte, least+r.Intn(most-least+1))
	r.Read(b)
	return string(b)
}

// randomNumber has any count of bits up to so many, so that all lengths of small bytes come.
func randomNumber(r *rand.Rand, bits int) uint64 {
	return r.Uint64() >> (64 - r.Intn(bits+1))
}
