package packed

import (
	"math"

	"cloakroom/api"
	"cloakroom/binary"
	"cloakroom/code"
	"cloakroom/words"
)

// Read is the answer whose packet bytes begin with, and how many of them it has; 0, if it is not there whole.
func Read(b []byte) (api.Answer, int, api.Errno) {
	kind, body, many, e := binary.Cut(mark, b)
	if e != api.OK || many == 0 {
		return api.Answer{}, 0, e
	}
	a, is := answerOf(kind, body)
	if !is || words.Check(a) != api.OK {
		return api.Answer{}, 0, api.ErrBad
	}
	return a, many, api.OK
}

// answerOf tells what stands in a body, and whether that is all of it. Of a kind that has no row nothing is read; words.Check refuses it.
func answerOf(kind uint8, body []byte) (api.Answer, bool) {
	r := reader{rest: body}
	a := api.Answer{Kind: kind}
	switch kind {
	case api.AnsResult:
		a.Of, a.Result = r.single(), r.result()
	case api.AnsLogin, api.AnsTrack:
		a.Yes = r.truth()
	case api.AnsPush:
		a.Key = r.all()
	}
	return a, !r.bad && len(r.rest) == 0
}

// A reader goes through a body from the first byte on. What it can't read makes it bad, so that a body is read field by field, and asked about once, at its end.
type reader struct {
	rest []byte
	bad  bool
}

func (r *reader) single() uint8 {
	if len(r.rest) == 0 {
		r.bad = true
		return 0
	}
	x := r.rest[0]
	r.rest = r.rest[1:]
	return x
}

// truth takes no third byte for either answer, as none would be written so.
func (r *reader) truth() bool {
	x := r.single()
	r.bad = r.bad || x != yes && x != no
	return x == yes
}

func (r *reader) all() string {
	s := string(r.rest)
	r.rest = nil
	return s
}

// small holds a number against the most that its field may be, ahead of a conversion that would cut it down to one that may.
func (r *reader) small(most uint64) uint64 {
	n, many, e := code.Read(r.rest)
	if e != api.OK || n > most {
		r.bad = true
		return 0
	}
	r.rest = r.rest[many:]
	return n
}

func (r *reader) text() string {
	s, rest, e := code.Cut(r.rest)
	if e != api.OK {
		r.bad = true
		return ""
	}
	r.rest = rest
	return s
}

func (r *reader) result() api.Result {
	next := r.small
	x := api.Result{Kind: r.single(), Number: next(math.MaxUint64)}
	for range next(api.MaxKeys) {
		x.Items = append(x.Items, r.item())
	}
	return x
}

// item names its fields in the order in which they stand in a body, as its calls are done in the order in which they are written here.
func (r *reader) item() api.Item {
	word, next := r.text, r.small
	return api.Item{
		Key:    word(),
		Value:  word(),
		Flags:  uint32(next(math.MaxUint32)),
		Until:  int(next(api.MaxClock)),
		Unique: next(math.MaxUint64),
	}
}
