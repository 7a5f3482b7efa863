package lru_test

import (
	"fmt"
	"math/rand"
	"slices"
	"strings"
	"testing"

	"cloakroom/api"
	"cloakroom/lru"
)

// The limits, written out, so that the program's own numbers are held against them.
const (
	maxKey   = 32
	mostKeys = 256
)

// orderOf has a key of one byte for each byte of the texts.
func orderOf(try, keep string) api.Order {
	return api.Order{Try: letters(try), Keep: letters(keep)}
}

func letters(text string) []string { return strings.Split(text, "") }

// keyOf are keys of a few bytes, no two of which are the same, nor the same as a letter.
func keyOf(n int) string { return fmt.Sprint("key", n) }

// numbered has so many keys in each row.
func numbered(try, keep int) api.Order {
	var o api.Order
	for i := range try {
		o.Try = append(o.Try, keyOf(i))
	}
	for i := range keep {
		o.Keep = append(o.Keep, keyOf(try+i))
	}
	return o
}

// sizes are how many keys the rows may have, of so many keys in all.
func sizes(many int) [][2]int {
	var l [][2]int
	for keep := 0; keep <= many/2+many%2; keep++ {
		l = append(l, [2]int{many - keep, keep})
	}
	return l
}

// smallOrders are all that may be, of up to seven keys: which ones these are makes no difference.
func smallOrders() []api.Order {
	var l []api.Order
	for many := range 8 {
		for _, s := range sizes(many) {
			l = append(l, numbered(s[0], s[1]))
		}
	}
	return l
}

// randomOrder may be; often it is small, at times full.
func randomOrder(r *rand.Rand) api.Order {
	many := r.Intn(12)
	switch r.Intn(8) {
	case 0:
		many = r.Intn(mostKeys + 1)
	case 1:
		many = mostKeys - r.Intn(2)
	}
	keep := r.Intn(many/2 + many%2 + 1)
	o := numbered(many-keep, keep)
	all := slices.Concat(o.Try, o.Keep)
	r.Shuffle(many, func(i, j int) { all[i], all[j] = all[j], all[i] })
	return api.Order{Try: slices.Clone(all[:many-keep]), Keep: slices.Clone(all[many-keep:])}
}

// wrongKeys are too short, or too long.
func wrongKeys() []string {
	return []string{"", strings.Repeat("k", maxKey+1), strings.Repeat("\x00", maxKey+1), strings.Repeat("k", maxKey+2), strings.Repeat("k", 256), strings.Repeat("k", 256+1), strings.Repeat("k", 100000)}
}

// edgeKeys may be: of the least and the most bytes, and of any ones.
func edgeKeys() []string {
	return []string{"x", "\x00", "\xff", " ", "\n", strings.Repeat("x", maxKey), strings.Repeat("x", maxKey-1), strings.Repeat("\x00", maxKey), strings.Repeat("\xff", maxKey), "\xff\x00", "é", strings.Repeat("é", maxKey/2)}
}

// wrongOrders may not be: each by one thing at least.
func wrongOrders() []api.Order {
	l := []api.Order{
		orderOf("aa", ""), orderOf("aba", ""), orderOf("abb", ""), orderOf("abca", ""), orderOf("abcdd", "e"),
		orderOf("abc", "dd"), orderOf("abcd", "efe"),
		orderOf("a", "a"), orderOf("ab", "a"), orderOf("ab", "b"), orderOf("abc", "da"), orderOf("abc", "dc"), orderOf("abc", "bd"), orderOf("", "aa"),
	}
	for _, key := range wrongKeys() {
		l = append(l,
			api.Order{Try: []string{key}}, api.Order{Try: []string{key, "a", "b"}}, api.Order{Try: []string{"a", key, "b"}}, api.Order{Try: []string{"a", "b", key}},
			api.Order{Keep: []string{key}}, api.Order{Try: []string{"a", "b", "c"}, Keep: []string{key, "d"}}, api.Order{Try: []string{"a", "b", "c"}, Keep: []string{"d", key}},
			api.Order{Try: []string{key}, Keep: []string{key}})
	}
	for many := 2; many <= mostKeys; many++ {
		most := many/2 + many%2
		l = append(l, numbered(many-most-1, most+1), numbered(0, many))
	}
	for _, many := range []int{mostKeys + 1, mostKeys + 2, 2 * mostKeys, 5000} {
		l = append(l, numbered(many, 0), numbered(many-1, 1), numbered(many-many/2, many/2), numbered(1, many-1), numbered(0, many), api.Order{Try: make([]string, many)}, api.Order{Keep: make([]string, many)})
	}
	far := numbered(128, 128)
	far.Keep[127] = far.Try[0]
	near := numbered(128, 128)
	near.Try[127] = near.Try[0]
	return append(l, far, near)
}

// model is what an order is to be: both rows as one line, the newest ahead, of which the first kept ones are the kept row.
type model struct {
	line []string
	kept int
}

func modelOf(o api.Order) *model {
	return &model{slices.Concat(o.Keep, o.Try), len(o.Keep)}
}

func (m *model) order() api.Order {
	return api.Order{Try: m.line[m.kept:], Keep: m.line[:m.kept]}
}

func (m *model) level() {
	m.kept = min(m.kept, len(m.line)/2+len(m.line)%2)
}

// take takes a key out of the line, which is not level then.
func (m *model) take(key string) api.Errno {
	if len(key) == 0 || len(key) > maxKey {
		return api.ErrText
	}
	at := slices.Index(m.line, key)
	if at < 0 {
		return api.ErrNone
	}
	m.line = slices.Delete(m.line, at, at+1)
	if at < m.kept {
		m.kept--
	}
	return api.OK
}

func (m *model) add(key string) api.Errno {
	switch {
	case len(key) == 0 || len(key) > maxKey:
		return api.ErrText
	case slices.Contains(m.line, key):
		return api.ErrArg
	case len(m.line) >= mostKeys:
		return api.ErrFull
	}
	m.line = slices.Insert(m.line, m.kept, key)
	return api.OK
}

func (m *model) hit(key string) api.Errno {
	e := m.take(key)
	if e == api.OK {
		m.line = slices.Insert(m.line, 0, key)
		m.kept++
		m.level()
	}
	return e
}

func (m *model) del(key string) api.Errno {
	e := m.take(key)
	m.level()
	return e
}

// turn is one of Add, Hit and Del, as the program and as the model have it.
type turn struct {
	name  string
	call  func(api.Order, string) (api.Order, api.Errno)
	model func(*model, string) api.Errno
}

var turns = []turn{
	{"Add", lru.Add, (*model).add},
	{"Hit", lru.Hit, (*model).hit},
	{"Del", lru.Del, (*model).del},
}

// both turns an order in both ways, and ends the test unless they come to the same; o is as it was where it was refused.
func (u turn) both(t *testing.T, o api.Order, key string) (api.Order, api.Errno) {
	t.Helper()
	defer endIfFailed(t)
	m := modelOf(o)
	want := u.model(m, key)
	left, e := u.call(o, key)
	what := fmt.Sprintf("%s(%v, %q)", u.name, o, key)
	if want != api.OK {
		checkRefused(t, what, e, want, left)
		return o, e
	}
	checkOrder(t, what, left, e, m.order())
	checkErrno(t, left, lru.Check(left), api.OK)
	return left, e
}

// askBoth ends the test unless Victim and All tell what the model has.
func askBoth(t *testing.T, o api.Order) {
	t.Helper()
	defer endIfFailed(t)
	m := modelOf(o)
	slices.Reverse(m.line)
	l, e := lru.All(o)
	checkKeys(t, o, l, e, m.line)
	if len(m.line) > 0 {
		victim, e := lru.Victim(o)
		checkKeys(t, o, []string{victim}, e, m.line[:1])
	}
}

// drained takes out the victim again and again.
func drained(t *testing.T, o api.Order) []string {
	t.Helper()
	defer endIfFailed(t)
	var l []string
	for range mostKeys + 1 {
		victim, e := lru.Victim(o)
		if e != api.OK {
			checkRefused(t, o, e, api.ErrNone, api.Order{}, victim)
			break
		}
		l = append(l, victim)
		o, e = lru.Del(o, victim)
		checkErrno(t, victim, e, api.OK)
	}
	return l
}

// endIfFailed: orders are long, and what they fail in is mostly one thing.
func endIfFailed(t *testing.T) {
	if t.Failed() {
		t.FailNow()
	}
}

func same(a, b api.Order) bool { return slices.Equal(a.Try, b.Try) && slices.Equal(a.Keep, b.Keep) }

func clone(o api.Order) api.Order {
	return api.Order{Try: slices.Clone(o.Try), Keep: slices.Clone(o.Keep)}
}

// whole is a slice with its spare room.
func whole[T any](l []T) []T { return l[:cap(l)] }

// wholes is an order with the spare room of its rows, as new memory.
func wholes(o api.Order) api.Order {
	return clone(api.Order{Try: whole(o.Try), Keep: whole(o.Keep)})
}

// roomy is an order with spare room behind each of its rows, in which keys stand.
func roomy(o api.Order) api.Order {
	try := append(slices.Clone(o.Try), "spare try", "", "spare", "try")
	keep := append(slices.Clone(o.Keep), "spare keep", "", "spare", "keep")
	return api.Order{Try: try[:len(o.Try)], Keep: keep[:len(o.Keep)]}
}

// oneMemory is an order whose rows stand in one memory, the try row with the kept row as its spare room.
func oneMemory(o api.Order) api.Order {
	l := slices.Concat(o.Try, o.Keep, []string{"spare", ""})
	return api.Order{Try: l[:len(o.Try)], Keep: l[len(o.Try):many(o)]}
}

// spoil changes each key of a row, its spare room too.
func spoil(row []string) {
	for i := range whole(row) {
		whole(row)[i] += " spoilt"
	}
}

func many(o api.Order) int { return len(o.Try) + len(o.Keep) }

// sorted are all keys of an order, rising.
func sorted(o api.Order) []string {
	return slices.Sorted(slices.Values(slices.Concat(o.Try, o.Keep)))
}

// short is how something is told where a test fails: orders may be long, and so may keys.
func short(what any) string {
	text := fmt.Sprintf("%q", fmt.Sprint(what))
	return text[:min(len(text), 200)]
}

func checkErrno(t *testing.T, what any, e, want api.Errno) {
	t.Helper()
	if e != want {
		t.Errorf("%s: error %d, want %d", short(what), e, want)
	}
}

func checkKeys(t *testing.T, what any, got []string, e api.Errno, want []string) {
	t.Helper()
	if e != api.OK || !slices.Equal(got, want) {
		t.Errorf("%s: %s, error %d, want %s", short(what), short(got), e, short(want))
	}
}

func checkOrder(t *testing.T, what any, got api.Order, e api.Errno, want api.Order) {
	t.Helper()
	if e != api.OK || !same(got, want) {
		t.Errorf("%s: %s, error %d, want %s", short(what), short(got), e, short(want))
	}
}

// checkRefused fails unless the error is the wanted one, and nothing stands beside it.
func checkRefused(t *testing.T, what any, e, want api.Errno, o api.Order, keys ...string) {
	t.Helper()
	checkErrno(t, what, e, want)
	if many(o) != 0 {
		t.Errorf("%s: beside error %d stands %s", short(what), e, short(o))
	}
	if slices.ContainsFunc(keys, func(key string) bool { return key != "" }) {
		t.Errorf("%s: beside error %d stand %s", short(what), e, short(keys))
	}
}
