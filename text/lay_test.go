package text_test

import (
	"bytes"
	"fmt"
	"math/big"
	"math/rand"
	"reflect"
	"regexp"
	"slices"
	"strconv"
	"strings"
	"testing"

	"cloakroom/api"
	"cloakroom/text"
)

const (
	least = -1 << 63
	top   = 1<<63 - 1
	all   = 1<<64 - 1
)

// The limits, written out, so that the program's own numbers are held against them.
const (
	maxKey    = 32
	maxValue  = 512
	maxKeys   = 8
	maxSecret = 16
	maxLine   = 512
	maxText   = 16384
	maxFlags  = 4294967295
	maxClock  = 1099511627776
	maxTenant = 3
)

// form is a line of the document's table: its first word, the Kind of its request, and of its command; whether it has one key, or up to eight; and what its other words are, by the document's letters (S a secret, O on or off, D the tenant of a login).
type form struct {
	word       string
	kind, does uint8
	keys       int
	words      string
}

// forms are the fifteen first words.
func forms() []form {
	return []form{
		{"get", 1, 1, 8, ""}, {"delete", 1, 10, 8, ""},
		{"set", 1, 2, 1, "FTN"}, {"add", 1, 3, 1, "FTN"}, {"replace", 1, 4, 1, "FTN"}, {"cas", 1, 5, 1, "FTNU"},
		{"append", 1, 8, 1, "N"}, {"incr", 1, 6, 1, "B"}, {"decr", 1, 7, 1, "B"}, {"touch", 1, 9, 1, "T"}, {"flush", 1, 11, 0, ""},
		{"user", 2, 0, 0, "DS"}, {"track", 3, 0, 0, "O"}, {"ping", 4, 0, 0, ""}, {"quit", 5, 0, 0, ""},
	}
}

// mosts are the greatest numbers, by their letters.
func mosts() map[rune]string {
	return map[rune]string{'F': "4294967295", 'T': "1099511627776", 'N': "512", 'U': "18446744073709551615", 'B': "18446744073709551615", 'D': "3"}
}

// shape is a form as an expression: what it lets through has the right words, but for numbers that are too great, and keys that are the same.
func (f form) shape() *regexp.Regexp {
	s := `\A` + f.word
	if f.keys > 0 {
		s += `((?: [!-~]{1,32}){1,` + strconv.Itoa(f.keys) + `})`
	}
	for _, c := range f.words {
		switch c {
		case 'S':
			s += ` ([!-~]{1,16})`
		case 'O':
			s += ` (on|off)`
		default:
			s += ` (0|[1-9][0-9]{0,` + strconv.Itoa(len(mosts()[c])-1) + `})`
		}
	}
	return regexp.MustCompile(s + `\z`)
}

// shapes are made once: they are asked again and again.
var shapes = func() []*regexp.Regexp {
	var l []*regexp.Regexp
	for _, f := range forms() {
		l = append(l, f.shape())
	}
	return l
}()

var secretShape = regexp.MustCompile(`\A[!-~]{1,16}\z`)

// bad is a request that may not be.
func bad(shut bool) api.Request { return api.Request{Kind: 6, Close: shut} }

// wantLine is what a line tells: its request, and how many bytes its value has (-1: it has none).
func wantLine(line string) (r api.Request, value int, is bool) {
	for i, f := range forms() {
		if found := shapes[i].FindStringSubmatch(line); found != nil {
			return f.read(found[1:])
		}
	}
	return api.Request{}, 0, false
}

// read puts together what the words of a line tell.
func (f form) read(found []string) (r api.Request, value int, is bool) {
	r = api.Request{Kind: f.kind, Command: api.Command{Kind: f.does}}
	value = -1
	if f.keys > 0 {
		r.Command.Keys = strings.Fields(found[0])
		sorted := slices.Sorted(slices.Values(r.Command.Keys))
		if len(slices.Compact(sorted)) != len(r.Command.Keys) {
			return api.Request{}, 0, false
		}
		found = found[1:]
	}
	for i, c := range f.words {
		n := new(big.Int)
		if most, has := mosts()[c]; has {
			n.SetString(found[i], 10)
			if m, _ := new(big.Int).SetString(most, 10); n.Cmp(m) > 0 {
				return api.Request{}, 0, false
			}
		}
		switch c {
		case 'F':
			r.Command.Flags = uint32(n.Uint64())
		case 'T':
			r.Command.For = int(n.Int64())
		case 'N':
			value = int(n.Int64())
		case 'U':
			r.Command.Unique = n.Uint64()
		case 'B':
			r.Command.By = n.Uint64()
		case 'D':
			r.Tenant = int(n.Int64())
		case 'S':
			r.Secret = found[i]
		case 'O':
			r.On = found[i] == "on"
		}
	}
	return r, value, true
}

// wantFirst is the first request of bytes, and how many it has.
func wantFirst(s string) (api.Request, int) {
	line, behind, is := strings.Cut(s, "\r\n")
	switch {
	case (!is || len(line) > 512) && len(s) < 514:
		return api.Request{}, 0
	case !is || len(line) > 512:
		return bad(true), len(s)
	}
	r, value, is := wantLine(line)
	switch {
	case !is:
		return bad(false), len(line) + 2
	case value < 0:
		return r, len(line) + 2
	case len(behind) < value+2:
		return api.Request{}, 0
	case !strings.HasPrefix(behind[value:], "\r\n"):
		return bad(true), len(line) + 2 + value + 2
	}
	r.Command.Value = behind[:value]
	return r, len(line) + 2 + value + 2
}

// wantNext is what Next is to tell.
func wantNext(s string) (api.Request, int, api.Errno) {
	if len(s) > 16384 {
		return api.Request{}, 0, api.ErrText
	}
	r, n := wantFirst(s)
	return r, n, api.OK
}

// wantAll is what All is to tell.
func wantAll(s string) ([]api.Request, int, api.Errno) {
	if len(s) > 16384 {
		return nil, 0, api.ErrText
	}
	var l []api.Request
	left := s
	for {
		r, n := wantFirst(left)
		if n == 0 {
			return l, len(s) - len(left), api.OK
		}
		l, left = append(l, r), left[n:]
		if r.Kind == 5 || r.Kind == 6 && r.Close {
			return l, len(s) - len(left), api.OK
		}
	}
}

// wantWrite is what Write is to tell: the one line, of those that the request's fields fill, by which it is read again.
func wantWrite(r api.Request) (string, api.Errno) {
	if !wantHasLine(r) {
		return "", api.ErrBad
	}
	i := slices.IndexFunc(forms(), func(f form) bool { return f.kind == r.Kind && f.does == r.Command.Kind })
	if i < 0 || !wantMayBe(forms()[i], r.Command) {
		return "", api.ErrOrder
	}
	f, c := forms()[i], r.Command
	if c.Tenant != 0 || strings.ContainsFunc(strings.Join(c.Keys, ""), func(c rune) bool { return c < '!' || c > '~' }) {
		return "", api.ErrBad
	}
	line := f.word
	for _, key := range c.Keys {
		line += " " + key
	}
	for _, c := range f.words {
		line += " " + map[rune]string{'F': fmt.Sprint(r.Command.Flags), 'T': fmt.Sprint(r.Command.For), 'N': fmt.Sprint(len(r.Command.Value)), 'U': fmt.Sprint(r.Command.Unique), 'B': fmt.Sprint(r.Command.By), 'D': fmt.Sprint(r.Tenant), 'S': r.Secret, 'O': map[bool]string{true: "on", false: "off"}[r.On]}[c]
	}
	line += "\r\n"
	if strings.Contains(f.words, "N") {
		line += c.Value + "\r\n"
	}
	return line, api.OK
}

// wantHasLine tells whether a request has nothing that its row does not name, its command apart.
func wantHasLine(r api.Request) bool {
	isCommand, isLogin, isTrack := r.Kind == 1, r.Kind == 2, r.Kind == 3
	return r.Kind >= 1 && r.Kind <= 5 && !r.Close && (isTrack || !r.On) &&
		(isCommand || sameCommand(r.Command, api.Command{})) &&
		(isLogin || r.Tenant == 0 && r.Secret == "") &&
		(!isLogin || r.Tenant >= 0 && r.Tenant <= 3 && secretShape.MatchString(r.Secret))
}

// wantMayBe tells whether a command may be, by the letters of its line.
func wantMayBe(f form, c api.Command) bool {
	seen := map[string]int{}
	for _, key := range c.Keys {
		if seen[key]++; key == "" || len(key) > 32 || seen[key] > 1 {
			return false
		}
	}
	has := func(letter string) bool { return strings.Contains(f.words, letter) }
	return c.Tenant >= 0 && c.Tenant <= 3 && len(c.Keys) <= f.keys && (len(c.Keys) > 0) == (f.keys > 0) &&
		len(c.Value) <= 512 && (has("N") || c.Value == "") &&
		c.For >= 0 && c.For <= maxClock && (has("T") || c.For == 0) &&
		(has("F") || c.Flags == 0) && (has("U") || c.Unique == 0) && (has("B") || c.By == 0)
}

// ask is the request of a command.
func ask(c api.Command) api.Request { return api.Request{Kind: api.ReqCommand, Command: c} }

// plain is the request of a form that has the fewest things.
func plain(f form) api.Request {
	r := api.Request{Kind: f.kind, Command: api.Command{Kind: f.does}}
	if f.keys > 0 {
		r.Command.Keys = []string{"k"}
	}
	if f.kind == 2 {
		r.Secret = "s"
	}
	return r
}

// rich is the request of a form that has all that it may have, as much as it may.
func rich(f form) api.Request {
	r := api.Request{Kind: f.kind, Command: api.Command{Kind: f.does, Keys: longKeys(f.keys)}}
	for _, c := range f.words {
		switch c {
		case 'F':
			r.Command.Flags = maxFlags
		case 'T':
			r.Command.For = maxClock
		case 'N':
			r.Command.Value = strings.Repeat("\r\n\x00\xff", maxValue/4)
		case 'U':
			r.Command.Unique = all
		case 'B':
			r.Command.By = all
		case 'D':
			r.Tenant = maxTenant
		case 'S':
			r.Secret = strings.Repeat("~", maxSecret)
		case 'O':
			r.On = true
		}
	}
	return r
}

// longKeys are so many keys of as many bytes as may be, which differ in the last one alone.
func longKeys(many int) []string {
	var l []string
	for i := range many {
		l = append(l, strings.Repeat("!", maxKey-1)+string([]byte{byte('~' - i)}))
	}
	return l
}

// someKeys are so many short keys.
func someKeys(many int) []string {
	var l []string
	for i := range many {
		l = append(l, "k"+strconv.Itoa(i))
	}
	return l
}

// randomBytes is a text of any bytes, of some more often.
func randomBytes(r *rand.Rand, many int) string {
	b := make([]byte, many)
	for i := range b {
		b[i] = byte(r.Intn(256))
		if r.Intn(3) == 0 {
			b[i] = "\r\n 0"[r.Intn(4)]
		}
	}
	return string(b)
}

// randomWord is one of up to so many bytes that may stand in a line.
func randomWord(r *rand.Rand, most int) string {
	b := make([]byte, 1+r.Intn(most))
	for i := range b {
		b[i] = byte(33 + r.Intn(94))
	}
	return string(b)
}

// randomKeys are so many, no two the same, most of them short.
func randomKeys(r *rand.Rand, many int) []string {
	var l []string
	for len(l) < many {
		if key := randomWord(r, []int{1, 2, maxKey}[r.Intn(3)]); !slices.Contains(l, key) {
			l = append(l, key)
		}
	}
	return l
}

// randomRequest has a line.
func randomRequest(r *rand.Rand) api.Request {
	f := forms()[r.Intn(len(forms()))]
	q := plain(f)
	if f.keys > 0 {
		q.Command.Keys = randomKeys(r, 1+r.Intn(f.keys))
	}
	for _, c := range f.words {
		switch c {
		case 'F':
			q.Command.Flags = r.Uint32() >> r.Intn(32)
		case 'T':
			q.Command.For = int(r.Uint64() >> r.Intn(64) % (maxClock + 1))
		case 'N':
			q.Command.Value = randomBytes(r, r.Intn(maxValue+1)>>r.Intn(10))
		case 'U':
			q.Command.Unique = r.Uint64() >> r.Intn(64)
		case 'B':
			q.Command.By = r.Uint64() >> r.Intn(64)
		case 'D':
			q.Tenant = r.Intn(maxTenant + 1)
		case 'S':
			q.Secret = randomWord(r, maxSecret)
		case 'O':
			q.On = r.Intn(2) == 0
		}
	}
	return q
}

// spoilt is a request of which one thing is another one: some have a line nevertheless.
func spoilt(r *rand.Rand, q api.Request) api.Request {
	c := &q.Command
	switch r.Intn(15) {
	case 0:
		q.Kind = uint8(r.Intn(8))
	case 1:
		q.Tenant = r.Intn(7) - 1
	case 2:
		q.Secret = randomBytes(r, r.Intn(3))
	case 3:
		q.Secret = randomWord(r, maxSecret+2)
	case 4:
		q.On = !q.On
	case 5:
		q.Close = true
	case 6:
		c.Kind = uint8(r.Intn(13))
	case 7:
		c.Tenant = r.Intn(7) - 1
	case 8:
		c.Keys = randomKeys(r, r.Intn(maxKeys+3))
	case 9:
		c.Keys = append(slices.Clone(c.Keys), "a", randomBytes(r, r.Intn(35)))
	case 10:
		c.Value = randomBytes(r, r.Intn(maxValue+3))
	case 11:
		c.For = r.Intn(5) - 1 + r.Intn(2)*(maxClock-2)
	case 12:
		c.Flags ^= uint32(r.Intn(2))
	case 13:
		c.Unique ^= uint64(r.Intn(2))
	case 14:
		c.By ^= uint64(r.Intn(2))
	}
	return q
}

// randomBlob is requests, one behind another, cut, or with a byte or two of them turned, left out or doubled.
func randomBlob(r *rand.Rand) string {
	s := ""
	for range r.Intn(5) {
		line, _ := wantWrite(randomRequest(r))
		s += line
	}
	for range r.Intn(3) {
		if s == "" {
			break
		}
		i := r.Intn(len(s))
		switch r.Intn(5) {
		case 0:
			s = s[:i]
		case 1:
			s = s[:i] + s[i+1:]
		case 2:
			s = s[:i] + s[i:i+1] + s[i:]
		case 3:
			s = s[:i] + randomBytes(r, 1) + s[i+1:]
		case 4:
			s = s[:i] + " " + s[i:]
		}
	}
	return s
}

// short is how something is told where a test fails: texts may be long.
func short(what any) string {
	s := fmt.Sprintf("%+q", fmt.Sprintf("%+v", what))
	return s[:min(len(s), 400)]
}

// sameCommand holds commands against each other; lists without elements are the same.
func sameCommand(a, b api.Command) bool {
	keys := slices.Equal(a.Keys, b.Keys)
	a.Keys, b.Keys = nil, nil
	return keys && reflect.DeepEqual(a, b)
}

// same holds requests against each other.
func same(a, b api.Request) bool {
	commands := sameCommand(a.Command, b.Command)
	a.Command, b.Command = api.Command{}, api.Command{}
	return commands && reflect.DeepEqual(a, b)
}

// checkNext ends the test, as the other checks do: what many inputs fail in is mostly one thing.
func checkNext(t *testing.T, s string, want api.Request, wantN int, wantE api.Errno) {
	t.Helper()
	if r, n, e := text.Next([]byte(s)); !same(r, want) || n != wantN || e != wantE {
		t.Fatalf("Next(%s), of %d bytes: %s, %d, error %d, want %s, %d, error %d", short(s), len(s), short(r), n, e, short(want), wantN, wantE)
	}
}

func checkAll(t *testing.T, s string, want []api.Request, wantN int, wantE api.Errno) {
	t.Helper()
	if l, n, e := text.All([]byte(s)); !slices.EqualFunc(l, want, same) || n != wantN || e != wantE {
		t.Fatalf("All(%s), of %d bytes: %s, %d, error %d, want %s, %d, error %d", short(s), len(s), short(l), n, e, short(want), wantN, wantE)
	}
}

func checkWrite(t *testing.T, r api.Request, want string, wantE api.Errno) {
	t.Helper()
	if b, e := text.Write(r); !bytes.Equal(b, []byte(want)) || e != wantE {
		t.Fatalf("Write(%s): %s, error %d, want %s, error %d", short(r), short(string(b)), e, short(want), wantE)
	}
}

// checkBad ends the test unless a line is none, and so told with its end alone, whatever comes behind.
func checkBad(t *testing.T, line string) {
	t.Helper()
	for _, behind := range []string{"", "x", "\r\n", "ping\r\n"} {
		checkNext(t, line+"\r\n"+behind, bad(false), len(line)+2, api.OK)
	}
}

// checkRequest ends the test unless a request is written as these bytes, and read of them.
func checkRequest(t *testing.T, r api.Request, s string) {
	t.Helper()
	checkWrite(t, r, s, api.OK)
	for _, behind := range []string{"", "x", "\r\n", "ping\r\n"} {
		checkNext(t, s+behind, r, len(s), api.OK)
	}
}

// checkRead ends the test unless Next and All tell of bytes what expressions and great numbers tell.
func checkRead(t *testing.T, s string) {
	t.Helper()
	r, n, e := wantNext(s)
	checkNext(t, s, r, n, e)
	l, n, e := wantAll(s)
	checkAll(t, s, l, n, e)
}

// checkWritten ends the test unless Write tells of a request what the table tells.
func checkWritten(t *testing.T, r api.Request) {
	t.Helper()
	s, e := wantWrite(r)
	checkWrite(t, r, s, e)
}
