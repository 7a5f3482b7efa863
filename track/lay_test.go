package track_test

import (
	"fmt"
	"math/rand"
	"slices"
	"strings"
	"testing"

	"cloakroom/api"
	"cloakroom/code"
	"cloakroom/track"
)

const (
	least = -1 << 63
	top   = 1<<63 - 1
)

// The limits, written out, so that the program's own numbers are held against them.
const (
	maxConns   = 8
	maxTracked = 16
	maxKey     = 32
	maxChanges = 4096
)

// nameOf is a name by its tenant's digit and its key: "1 a".
func nameOf(s string) api.Name { return api.Name{Tenant: int(s[0] - '0'), Key: s[2:]} }

// names are those of a text, between commas: "1 a,2 b"; none of an empty one.
func names(s string) []api.Name {
	var l []api.Name
	for x := range strings.SplitSeq(s, ",") {
		if x != "" {
			l = append(l, nameOf(x))
		}
	}
	return l
}

// trackOf has a connection for each text, which is On with these names, or not at all: "-".
func trackOf(l ...string) api.Track {
	t := api.Track{}
	for _, s := range l {
		c := api.Tracked{On: s != "-"}
		if c.On {
			c.Names = names(s)
		}
		t.Conns = append(t.Conns, c)
	}
	return t
}

// pushes are those of a text, between commas: the connection, of, the name: "0 of 1 a,1 of 1 a".
func pushes(s string) []api.Push {
	var l []api.Push
	for x := range strings.SplitSeq(s, ",") {
		if x != "" {
			l = append(l, api.Push{Conn: int(x[0] - '0'), Name: nameOf(x[5:])})
		}
	}
	return l
}

// numbered are so many names of a tenant, no two of which are the same.
func numbered(tenant, many int) []api.Name {
	var l []api.Name
	for i := range many {
		l = append(l, api.Name{Tenant: tenant, Key: fmt.Sprint("key", i)})
	}
	return l
}

// put, drop, clear and the others are changes.
func put(s string) api.Change {
	n := nameOf(s)
	return api.Change{Kind: 1, Tenant: n.Tenant, Item: api.Item{Key: n.Key, Value: "v", Unique: 3}}
}

func drop(s string, why uint8) api.Change {
	n := nameOf(s)
	return api.Change{Kind: 2, Tenant: n.Tenant, Key: n.Key, Why: why}
}

func clearOf(tenant int) api.Change { return api.Change{Kind: 3, Tenant: tenant} }

// silent are changes of which nobody is told: of no name, whatever the tenant.
func silent() []api.Change {
	return []api.Change{{Kind: 4}, {Kind: 4, To: 1 << 40}, {Kind: 5}, {Kind: 5, Tenant: 1}, {Kind: 5, Tenant: 1, To: 16}, {Kind: 6}, {Kind: 6, To: 1<<31 - 1, Primary: true}, {Kind: 7}, {Kind: 7, To: 1}}
}

// edgeNames may be: of each tenant, of the least and the most bytes, and of any ones.
func edgeNames() []api.Name {
	l := []api.Name{{Tenant: 0, Key: "x"}, {Tenant: 1, Key: "x"}, {Tenant: 2, Key: "x"}, {Tenant: 3, Key: "x"}}
	for _, key := range []string{"\x00", "\xff", " ", "\r\n", "x\x00", "X", "xx", strings.Repeat("x", maxKey), strings.Repeat("\x00", maxKey-1), strings.Repeat("\xff", maxKey)} {
		l = append(l, api.Name{Tenant: 3, Key: key})
	}
	return l
}

// wrongNames may not be, each by its tenant, or its key, or both.
func wrongNames() []api.Name {
	l := []api.Name{{}, {Tenant: 4}, {Tenant: -1, Key: strings.Repeat("k", maxKey+1)}}
	for _, tenant := range []int{-1, 4, 5, 256, 1 << 32, least, top} {
		l = append(l, api.Name{Tenant: tenant, Key: "k"})
	}
	for _, many := range []int{0, maxKey + 1, maxKey + 2, 256, 257, 100000} {
		l = append(l, api.Name{Key: strings.Repeat("k", many)}, api.Name{Tenant: 3, Key: strings.Repeat("\x00", many)})
	}
	return l
}

// wrongTracks may not be, each by one thing at least.
func wrongTracks() []api.Track {
	l := []api.Track{
		{}, {Conns: []api.Tracked{}}, {Conns: make([]api.Tracked, maxConns+1)}, {Conns: make([]api.Tracked, 256)}, {Conns: make([]api.Tracked, 70000)},
		trackOf("1 a,1 a"), trackOf("1 a,1 b,1 a"), trackOf("1 b,1 a,1 a"), trackOf("-", "", "3 x,1 a,2 b,1 a,0 z"),
		{Conns: []api.Tracked{{Names: names("1 a")}}},
		{Conns: []api.Tracked{{On: true}, {Names: names("1 a")}}},
		{Conns: []api.Tracked{{Names: names("1 a")}, {On: true, Names: names("1 a")}}},
		{Conns: []api.Tracked{{}, {On: true, Names: numbered(1, maxTracked+1)}}},
		{Conns: []api.Tracked{{On: true, Names: numbered(0, 1000)}}},
		{Conns: []api.Tracked{{On: true, Names: append(numbered(1, maxTracked-1), nameOf("1 key0"))}}},
		{Conns: []api.Tracked{{On: true, Names: append(numbered(1, maxTracked-1), nameOf("1 key14"))}}},
		{Conns: []api.Tracked{{Names: numbered(1, maxTracked+1)}}},
	}
	for _, n := range wrongNames() {
		l = append(l,
			api.Track{Conns: []api.Tracked{{On: true, Names: []api.Name{n}}}},
			api.Track{Conns: []api.Tracked{{On: true, Names: []api.Name{n, {Key: "a"}}}, {}}},
			api.Track{Conns: []api.Tracked{{}, {On: true, Names: []api.Name{{Key: "a"}, n, {Key: "b"}}}}},
			api.Track{Conns: []api.Tracked{{On: true, Names: append(numbered(1, maxTracked-1), n)}}},
			api.Track{Conns: []api.Tracked{{On: true}, {Names: []api.Name{n}}}})
	}
	full := fullTrack()
	full.Conns[maxConns-1].Names[maxTracked-1] = full.Conns[maxConns-1].Names[0]
	more := fullTrack()
	more.Conns = append(more.Conns, api.Tracked{})
	return append(l, full, more)
}

// fullTrack has all connections, with all names that each may have.
func fullTrack() api.Track {
	t := api.Track{}
	for range maxConns {
		t.Conns = append(t.Conns, api.Tracked{On: true, Names: numbered(2, maxTracked)})
	}
	return t
}

// edgeTracks may be.
func edgeTracks() []api.Track {
	return []api.Track{
		trackOf("-"), trackOf(""), trackOf("1 a"), trackOf("1 a", "1 a"), trackOf("1 a,2 a,1 b"), trackOf("-", "1 a", "-"), trackOf("0 a,1 a,2 a,3 a", "3 a,2 a,1 a,0 a"),
		{Conns: make([]api.Tracked, maxConns)}, {Conns: make([]api.Tracked, maxConns-1)},
		{Conns: []api.Tracked{{On: true, Names: numbered(0, maxTracked)}}}, {Conns: []api.Tracked{{}, {On: true, Names: numbered(3, maxTracked-1)}}},
		{Conns: []api.Tracked{{On: true, Names: edgeNames()}, {Names: []api.Name{}}}}, fullTrack(),
	}
}

// longChanges are puts whose bytes are so many, from 65136 to 65646.
func longChanges(bytes int) []api.Change {
	x := put("1 k")
	x.Item.Value, x.Item.Unique = strings.Repeat("v", 512), 0
	l := slices.Repeat([]api.Change{x}, 126)
	l[125].Item.Value = x.Item.Value[:bytes-65135]
	return l
}

// wrongChanges are lists that have an error, with it.
func wrongChanges() []struct {
	l []api.Change
	e api.Errno
} {
	tooMany := make([]api.Change, maxChanges+1)
	return []struct {
		l []api.Change
		e api.Errno
	}{
		{tooMany, 4}, {slices.Repeat([]api.Change{clearOf(1)}, maxChanges+1), 4}, {make([]api.Change, 10000), 4},
		{tooMany[:1], 8}, {tooMany[:maxChanges], 8}, {[]api.Change{{Kind: 8}}, 8}, {[]api.Change{put("4 a")}, 8}, {[]api.Change{put("1 ")}, 8}, {[]api.Change{drop("1 a", 0)}, 8}, {[]api.Change{drop("1 a", 3)}, 8},
		{[]api.Change{{Kind: 3, Tenant: 1, Key: "a"}}, 8}, {[]api.Change{clearOf(-1)}, 8}, {[]api.Change{clearOf(4)}, 8}, {[]api.Change{{Kind: 4, To: 1<<40 + 1}}, 8}, {[]api.Change{{Kind: 4, Tenant: 1}}, 8},
		{[]api.Change{put("1 a"), clearOf(1), {}}, 8}, {[]api.Change{{}, put("1 a")}, 8},
		{longChanges(65537), 3}, {append(longChanges(65536), clearOf(1)), 3}, {append(longChanges(65537), api.Change{}), 8},
	}
}

// copied is a track as new memory.
func copied(t api.Track) api.Track {
	t.Conns = slices.Clone(t.Conns)
	for i, c := range t.Conns {
		t.Conns[i].Names = slices.Clone(c.Names)
	}
	return t
}

// same tells whether two tracks are the same: a list without elements may be nil or not.
func same(a, b api.Track) bool {
	return slices.EqualFunc(a.Conns, b.Conns, func(x, y api.Tracked) bool {
		return x.On == y.On && slices.Equal(x.Names, y.Names)
	})
}

// wantName tells whether a name may be.
func wantName(n api.Name) bool {
	return slices.Contains([]int{0, 1, 2, 3}, n.Tenant) && n.Key != "" && len(n.Key) <= maxKey
}

// wantCheck tells whether a track may be.
func wantCheck(t api.Track) api.Errno {
	is := len(t.Conns) > 0 && len(t.Conns) <= maxConns
	for _, c := range t.Conns {
		seen := map[api.Name]int{}
		for _, n := range c.Names {
			seen[n]++
			is = is && wantName(n) && c.On
		}
		is = is && len(seen) == len(c.Names) && len(seen) <= maxTracked
	}
	if !is {
		return 8
	}
	return 0
}

// wantArg has the errors of a track, and of one of its connections.
func wantArg(t api.Track, conn int) api.Errno {
	if e := wantCheck(t); e != 0 {
		return e
	}
	if conn < 0 || conn > len(t.Conns)-1 {
		return 2
	}
	return 0
}

// wantOn, wantOff, wantTold, wantRead and wantChange are what the functions are to tell.
func wantOn(t api.Track, conn int) (api.Track, api.Errno) {
	if e := wantArg(t, conn); e != 0 {
		return api.Track{}, e
	}
	t = copied(t)
	t.Conns[conn].On = true
	return t, 0
}

func wantOff(t api.Track, conn int) (api.Track, api.Errno) {
	if e := wantArg(t, conn); e != 0 {
		return api.Track{}, e
	}
	t = copied(t)
	t.Conns[conn].On, t.Conns[conn].Names = false, nil
	return t, 0
}

func wantTold(t api.Track, conn int) ([]api.Name, api.Errno) {
	if e := wantArg(t, conn); e != 0 {
		return nil, e
	}
	return slices.Clone(t.Conns[conn].Names), 0
}

func wantRead(t api.Track, conn int, n api.Name) (api.Track, []api.Push, api.Errno) {
	e := wantArg(t, conn)
	if e == 0 && !wantName(n) {
		e = 8
	}
	if e != 0 {
		return api.Track{}, nil, e
	}
	t = copied(t)
	if !t.Conns[conn].On {
		return t, nil, 0
	}
	var l []api.Name
	for _, x := range t.Conns[conn].Names {
		if x.Tenant != n.Tenant || x.Key != n.Key {
			l = append(l, x)
		}
	}
	t.Conns[conn].Names = append(l, n)
	if len(l) < maxTracked {
		return t, nil, 0
	}
	t.Conns[conn].Names = append(slices.Clone(l[1:]), n)
	return t, []api.Push{{Conn: conn, Name: l[0]}}, 0
}

func wantChange(t api.Track, l []api.Change) (api.Track, []api.Push, api.Errno) {
	e := wantCheck(t)
	if e == 0 {
		_, e = code.Changes(l)
	}
	if e != 0 {
		return api.Track{}, nil, e
	}
	t = copied(t)
	var told []api.Push
	for _, c := range l {
		key := c.Key + c.Item.Key // a change has one of both at most
		for conn := range t.Conns {
			var left []api.Name
			for _, n := range t.Conns[conn].Names {
				if n.Tenant == c.Tenant && (c.Kind == 3 || n.Key == key && c.Kind < 3) {
					told = append(told, api.Push{Conn: conn, Name: n})
				} else {
					left = append(left, n)
				}
			}
			t.Conns[conn].Names = left
		}
	}
	return t, told, 0
}

// short is how something is told where a test fails: texts may be long.
func short(what any) string {
	s := fmt.Sprintf("%+q", fmt.Sprintf("%+v", what))
	return s[:min(len(s), 500)]
}

// checkIs ends the test, as the other checks do, unless a track, pushes and an error are those that are wanted: what many inputs fail in is mostly one thing.
func checkIs(t *testing.T, name string, with any, was, x, want api.Track, told, wantTold []api.Push, e, wantE api.Errno) {
	t.Helper()
	if !same(x, want) || e != wantE || !slices.Equal(told, wantTold) {
		t.Fatalf("%s(%s, %s):\n%s, told %s, error %d, want\n%s, told %s, error %d", name, short(was), short(with), short(x), short(told), e, short(want), short(wantTold), wantE)
	}
	f := track.Check(x)
	if e == api.OK && f != api.OK || e != api.OK && f != api.ErrBad {
		t.Fatalf("%s(%s, %s):\n%s may be: error %d", name, short(was), short(with), short(x), f)
	}
}

// checkOn, checkOff, checkTold, checkRead and checkChange end the test unless the functions tell what the model tells. They answer the track that is there then: beside an error, the one that was.
func checkOn(t *testing.T, x api.Track, conn int) api.Track {
	t.Helper()
	want, wantE := wantOn(x, conn)
	y, e := track.On(x, conn)
	checkIs(t, "On", conn, x, y, want, nil, nil, e, wantE)
	return then(x, y, e)
}

func checkOff(t *testing.T, x api.Track, conn int) api.Track {
	t.Helper()
	want, wantE := wantOff(x, conn)
	y, e := track.Off(x, conn)
	checkIs(t, "Off", conn, x, y, want, nil, nil, e, wantE)
	return then(x, y, e)
}

func checkTold(t *testing.T, x api.Track, conn int) []api.Name {
	t.Helper()
	want, wantE := wantTold(x, conn)
	l, e := track.Told(x, conn)
	if !slices.Equal(l, want) || e != wantE {
		t.Fatalf("Told(%s, %d):\n%s, error %d, want %s, error %d", short(x), conn, short(l), e, short(want), wantE)
	}
	return l
}

func checkRead(t *testing.T, x api.Track, conn int, n api.Name) (api.Track, []api.Push) {
	t.Helper()
	want, wantP, wantE := wantRead(x, conn, n)
	y, p, e := track.Read(x, conn, n)
	checkIs(t, "Read", []any{conn, n}, x, y, want, p, wantP, e, wantE)
	return then(x, y, e), p
}

func checkChange(t *testing.T, x api.Track, l ...api.Change) (api.Track, []api.Push) {
	t.Helper()
	want, wantP, wantE := wantChange(x, l)
	y, p, e := track.Change(x, l)
	checkIs(t, "Change", l, x, y, want, p, wantP, e, wantE)
	return then(x, y, e), p
}

func then(was, x api.Track, e api.Errno) api.Track {
	if e != api.OK {
		return was
	}
	return x
}

// checkAll ends the test unless all functions tell of a track what the model tells, with arguments that may be and such that may not.
func checkAll(t *testing.T, x api.Track) {
	t.Helper()
	if e := track.Check(x); e != wantCheck(x) {
		t.Fatalf("Check %s: error %d, want %d", short(x), e, wantCheck(x))
	}
	for _, conn := range conns(x) {
		checkOn(t, x, conn)
		checkOff(t, x, conn)
		checkTold(t, x, conn)
		for _, n := range []api.Name{{Tenant: 1, Key: "a"}, {Tenant: 3, Key: "new"}, {}, {Tenant: 4, Key: "a"}} {
			checkRead(t, x, conn, n)
		}
	}
	for _, l := range [][]api.Change{nil, {put("1 a")}, {clearOf(2), drop("1 a", 2)}, {{}}, make([]api.Change, maxChanges+1)} {
		checkChange(t, x, l...)
	}
}

// conns are numbers of a track's connections, its last one's and such that are none's.
func conns(x api.Track) []int {
	last := min(len(x.Conns), maxConns) - 1
	return []int{0, last, last + 1, -1, maxConns, 256, least, top, 1 << 32}
}

// randomName is one of a few, so that most are met again; at times it may not be.
func randomName(r *rand.Rand) api.Name {
	if r.Intn(60) == 0 {
		l := wrongNames()
		return l[r.Intn(len(l))]
	}
	return api.Name{Tenant: r.Intn(4), Key: string(rune('a' + r.Intn(12)))}
}

// randomTrack may be; often it has few names, at times all.
func randomTrack(r *rand.Rand) api.Track {
	x := api.Track{Conns: make([]api.Tracked, 1+r.Intn(maxConns))}
	for i := range x.Conns {
		if r.Intn(4) == 0 {
			continue
		}
		many := min(r.Intn(24), maxTracked)
		x.Conns[i].On = true
		for _, k := range r.Perm(32)[:many] {
			x.Conns[i].Names = append(x.Conns[i].Names, api.Name{Tenant: k % 4, Key: string(rune('a' + k/4))})
		}
	}
	return x
}

// randomChanges are few, of names that are met again; at times one may not be.
func randomChanges(r *rand.Rand) []api.Change {
	var l []api.Change
	for range r.Intn(5) {
		n := randomName(r)
		switch r.Intn(12) {
		case 0, 1, 2, 3:
			l = append(l, api.Change{Kind: 1, Tenant: n.Tenant, Item: api.Item{Key: n.Key, Value: "v", Flags: r.Uint32(), Until: r.Intn(9), Unique: r.Uint64()}})
		case 4, 5, 6, 7:
			l = append(l, api.Change{Kind: 2, Tenant: n.Tenant, Key: n.Key, Why: uint8(1 + r.Intn(2))})
		case 8:
			l = append(l, clearOf(r.Intn(4)))
		default:
			s := silent()
			l = append(l, s[r.Intn(len(s))])
		}
	}
	return l
}
