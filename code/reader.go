package code

import (
	"math"

	"cloakroom/api"
)

// A reader goes through bytes from the first on. What it can't read makes it bad, and from then on it answers zeros: so a structure is read field by field, and asked about once, at its end.
type reader struct {
	rest []byte
	bad  bool
}

// fail leaves nothing to read: all that is asked behind it fails, too.
func (r *reader) fail() {
	r.rest, r.bad = nil, true
}

// ended tells whether all was read, and nothing stands behind it.
func (r *reader) ended() bool {
	return !r.bad && len(r.rest) == 0
}

func (r *reader) single() byte {
	if len(r.rest) == 0 {
		r.fail()
		return 0
	}
	x := r.rest[0]
	r.rest = r.rest[1:]
	return x
}

// truth reads 0 or 1; another byte would be a second form of one of these.
func (r *reader) truth() bool {
	x := r.single()
	if x > 1 {
		r.fail()
	}
	return x == 1
}

func (r *reader) small(most uint64) uint64 {
	n, many, e := Read(r.rest)
	if e != api.OK || n > most {
		r.fail()
		return 0
	}
	r.rest = r.rest[many:]
	return n
}

// number reads what an int can hold, so that nothing wraps round into a number that may be.
func (r *reader) number() int {
	return int(r.small(math.MaxInt))
}

func (r *reader) flags() uint32 {
	return uint32(r.small(math.MaxUint32))
}

func (r *reader) text() string {
	many := r.small(math.MaxUint64)
	if many > uint64(len(r.rest)) {
		r.fail()
		return ""
	}
	s := string(r.rest[:many])
	r.rest = r.rest[many:]
	return s
}
