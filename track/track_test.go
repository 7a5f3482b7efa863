package track_test

import (
	"math/rand"
	"slices"
	"strings"
	"testing"

	"cloakroom/api"
	"cloakroom/track"
)

// checkLeft ends the test unless connections' names are those of the texts.
func checkLeft(t *testing.T, x api.Track, want ...string) {
	t.Helper()
	for conn, s := range want {
		if l, e := track.Told(x, conn); !slices.Equal(l, names(s)) || e != api.OK {
			t.Fatalf("%d has %s, error %d, want %s", conn, short(l), e, s)
		}
	}
}

// readAll reads names by one connection, one behind the other, and tells all pushes.
func readAll(t *testing.T, x api.Track, conn int, l []api.Name) (api.Track, []api.Push) {
	t.Helper()
	var told []api.Push
	for _, n := range l {
		y, p := checkRead(t, x, conn, n)
		x, told = y, append(told, p...)
	}
	return x, told
}

// P19.1 to P19.4: the chapter's examples.
func TestChapterExamples(t *testing.T) {
	x, e := track.New(2)
	if e != api.OK || !same(x, trackOf("-", "-")) {
		t.Fatal(x, e)
	}
	x, _ = track.On(x, 0)
	x, _ = track.On(x, 1)
	y := x
	for _, s := range []string{"1 a", "1 b", "1 a"} {
		next, p, e := track.Read(y, 0, nameOf(s))
		if len(p) != 0 || e != api.OK {
			t.Fatal(s, p, e)
		}
		y = next
	}
	checkLeft(t, y, "1 b,1 a", "")
	y, p, e := track.Read(y, 1, nameOf("1 a"))
	if len(p) != 0 || e != api.OK {
		t.Fatal(p, e)
	}
	y, p, e = track.Change(y, []api.Change{put("1 a"), drop("1 b", api.WhyDeleted)})
	if !slices.Equal(p, pushes("0 of 1 a,1 of 1 a,0 of 1 b")) || e != api.OK {
		t.Error(p, e)
	}
	checkLeft(t, y, "", "")

	l := numbered(1, 17)
	y, p = readAll(t, x, 0, l)
	if !slices.Equal(p, []api.Push{{Conn: 0, Name: l[0]}}) {
		t.Error(p)
	}
	y = trackOf("1 a,2 a,1 b", "")
	if y, p, e = track.Change(y, []api.Change{clearOf(1)}); !slices.Equal(p, pushes("0 of 1 a,0 of 1 b")) || e != api.OK {
		t.Error(p, e)
	}
	checkLeft(t, y, "2 a", "")
	if y, e := track.On(x, 2); e != api.ErrArg || y.Conns != nil {
		t.Error(y, e)
	}
	if y, e := track.New(9); e != api.ErrArg || y.Conns != nil {
		t.Error(y, e)
	}
	if y, p, e := track.Read(x, 0, nameOf("4 a")); e != api.ErrBad || y.Conns != nil || p != nil {
		t.Error(y, p, e)
	}
}

// P19.1: from one connection to as many as there may be; those that are On have names that may be, each once, and not too many; the others have none.
func TestCheck(t *testing.T) {
	for _, x := range edgeTracks() {
		if e := track.Check(x); e != api.OK {
			t.Errorf("%s: error %d", short(x), e)
		}
	}
	for i, x := range wrongTracks() {
		if e := track.Check(x); e != api.ErrBad || wantCheck(x) != api.ErrBad {
			t.Errorf("%d: %s: error %d", i, short(x), e)
		}
	}
	for _, n := range edgeNames() {
		if e := track.Check(api.Track{Conns: []api.Tracked{{On: true, Names: []api.Name{n}}}}); e != api.OK {
			t.Errorf("%s: error %d", short(n), e)
		}
	}
}

// P19.1: whatever stands beside it, what may not be makes a track one that may not be.
func TestCheckBesideOthers(t *testing.T) {
	var wrong []api.Tracked
	for _, x := range wrongTracks() {
		if len(x.Conns) > maxConns {
			continue
		}
		for _, c := range x.Conns {
			if wantCheck(api.Track{Conns: []api.Tracked{c}}) != api.OK {
				wrong = append(wrong, c)
			}
		}
	}
	if len(wrong) < 50 {
		t.Fatal("too few", len(wrong))
	}
	for many := 1; many <= maxConns; many++ {
		for at := range many {
			for _, c := range wrong {
				x := fullTrack()
				x.Conns = x.Conns[:many]
				x.Conns[at] = c
				if e := track.Check(x); e != api.ErrBad {
					t.Fatalf("%d of %d: %s: error %d", at, many, short(c), e)
				}
			}
		}
	}
}

// P19.1: how many connections and names there may be, by each number of them.
func TestHowMany(t *testing.T) {
	for conns := range 20 {
		for many := range 20 {
			x := api.Track{Conns: make([]api.Tracked, conns)}
			if conns > 0 {
				x.Conns[conns-1] = api.Tracked{On: true, Names: numbered(conns%4, many)}
			}
			want := api.ErrBad
			if conns >= 1 && conns <= maxConns && many <= maxTracked {
				want = api.OK
			}
			if e := track.Check(x); e != want {
				t.Errorf("%d connections, %d names: error %d, want %d", conns, many, e, want)
			}
		}
	}
}

// P19.1: a new track has so many connections, none On.
func TestNew(t *testing.T) {
	for conns := -300; conns <= 300; conns++ {
		x, e := track.New(conns)
		if conns < 1 || conns > maxConns {
			if e != api.ErrArg || x.Conns != nil {
				t.Error(conns, x, e)
			}
			continue
		}
		if e != api.OK || !same(x, api.Track{Conns: make([]api.Tracked, conns)}) || track.Check(x) != api.OK {
			t.Error(conns, x, e)
		}
		checkAll(t, x)
	}
	for _, conns := range []int{least, least + 1, -1 << 32, 1 << 16, 1<<31 - 1, 1 << 32, 1<<32 + 1, 1 << 62, top} {
		if x, e := track.New(conns); e != api.ErrArg || x.Conns != nil {
			t.Error(conns, x, e)
		}
	}
}

// P19.2, P19.3: a number below 0, 0, the last connection's and one beyond, of tracks of each size.
func TestNumbersOfConnections(t *testing.T) {
	for many := 1; many <= maxConns; many++ {
		x := fullTrack()
		x.Conns = x.Conns[:many]
		for _, conn := range []int{least, -256, -2, -1, many, many + 1, maxConns, maxConns + 1, 256, 1 << 32, top} {
			if conn >= 0 && conn < many {
				continue
			}
			y, e := track.On(x, conn)
			z, f := track.Off(x, conn)
			l, g := track.Told(x, conn)
			v, p, h := track.Read(x, conn, nameOf("1 a"))
			if e != api.ErrArg || f != api.ErrArg || g != api.ErrArg || h != api.ErrArg || y.Conns != nil || z.Conns != nil || l != nil || v.Conns != nil || p != nil {
				t.Fatal(many, conn, e, f, g, h)
			}
		}
		for conn := range many {
			if l := checkTold(t, x, conn); !slices.Equal(l, numbered(2, maxTracked)) {
				t.Error(many, conn, l)
			}
			if y := checkOff(t, x, conn); y.Conns[conn].On || len(y.Conns[conn].Names) != 0 {
				t.Error(many, conn, y)
			}
		}
	}
}

// P19.2: On is for one that was not; it takes nothing from one that was. Off takes all.
func TestOnAndOff(t *testing.T) {
	x := trackOf("1 a,1 b", "-", "")
	if y := checkOn(t, x, 0); !same(y, x) {
		t.Error(y)
	}
	if y := checkOn(t, x, 1); !same(y, trackOf("1 a,1 b", "", "")) {
		t.Error(y)
	}
	if y := checkOn(t, x, 2); !same(y, x) {
		t.Error(y)
	}
	y := checkOff(t, x, 0)
	if !same(y, trackOf("-", "-", "")) {
		t.Error(y)
	}
	if z := checkOff(t, y, 0); !same(z, y) {
		t.Error(z)
	}
	if z := checkOn(t, y, 0); !same(z, trackOf("", "-", "")) {
		t.Error(z)
	}
	if z := checkOff(t, x, 2); !same(z, trackOf("1 a,1 b", "-", "-")) {
		t.Error(z)
	}
	if !same(x, trackOf("1 a,1 b", "-", "")) {
		t.Error(x)
	}
}

// P19.2: names that one had are gone behind On, Off, On: nobody is told of them.
func TestNamesAreGoneBehindOff(t *testing.T) {
	x, _ := readAll(t, trackOf("", ""), 0, names("1 a,1 b"))
	x, _ = readAll(t, x, 1, names("1 b"))
	x = checkOn(t, checkOff(t, checkOn(t, x, 0), 0), 0)
	checkLeft(t, x, "", "1 b")
	x, p := checkChange(t, x, put("1 b"), clearOf(1))
	if !slices.Equal(p, pushes("1 of 1 b")) {
		t.Error(p)
	}
	l := numbered(3, maxTracked)
	x, p = readAll(t, x, 0, l)
	if len(p) != 0 {
		t.Error("told of names that it had ahead of Off:", p)
	}
	if left := checkTold(t, x, 0); !slices.Equal(left, l) {
		t.Error(left)
	}
}

// P19.3: what is read is the newest, where it was the newest already, the eldest, one between, or new.
func TestReadAgain(t *testing.T) {
	for _, c := range []struct{ was, read, want string }{
		{"", "1 a", "1 a"}, {"1 a", "1 a", "1 a"}, {"1 a,1 b,1 c", "1 c", "1 a,1 b,1 c"}, {"1 a,1 b,1 c", "1 a", "1 b,1 c,1 a"}, {"1 a,1 b,1 c", "1 b", "1 a,1 c,1 b"}, {"1 a,1 b,1 c", "2 b", "1 a,1 b,1 c,2 b"},
	} {
		x := trackOf("1 a,1 b", c.was, "-")
		y, p := checkRead(t, x, 1, nameOf(c.read))
		if len(p) != 0 || !same(y, trackOf("1 a,1 b", c.want, "-")) {
			t.Error(c, y, p)
		}
	}
	for _, n := range edgeNames() {
		y, p := checkRead(t, trackOf("2 a"), 0, n)
		if len(p) != 0 || !same(y, api.Track{Conns: []api.Tracked{{On: true, Names: []api.Name{nameOf("2 a"), n}}}}) {
			t.Error(y, p)
		}
	}
}

// P19.3: as many names as may be are told of none; one more lets the eldest one go, which its connection alone is told of.
func TestReadTooMany(t *testing.T) {
	l := numbered(1, 60)
	x, p := readAll(t, trackOf("1 key0,1 key1", "", "1 key0"), 1, l[:maxTracked])
	if len(p) != 0 {
		t.Fatal(p)
	}
	for i := maxTracked; i < len(l); i++ {
		x, p = checkRead(t, x, 1, l[i])
		if !slices.Equal(p, []api.Push{{Conn: 1, Name: l[i-maxTracked]}}) {
			t.Fatal(i, p)
		}
		if left := checkTold(t, x, 1); !slices.Equal(left, l[i-maxTracked+1:i+1]) {
			t.Fatal(i, left)
		}
	}
	checkLeft(t, x, "1 key0,1 key1")
	for _, at := range []int{59, 44, 50} {
		x, p = checkRead(t, x, 1, l[at])
		if len(p) != 0 {
			t.Error("told of a name, though none was new:", p)
		}
	}
	if left := checkTold(t, x, 1); !slices.Equal(left, slices.Concat(l[45:50], l[51:60], names("1 key44,1 key50"))) {
		t.Error(left)
	}
	if x, p = checkRead(t, x, 1, nameOf("2 key45")); !slices.Equal(p, pushes("1 of 1 key45")) {
		t.Error(p)
	}
}

// P19.3: one that is not On has read nothing, whatever it reads.
func TestReadOfOneThatIsNotOn(t *testing.T) {
	x := trackOf("1 a", "-")
	for _, n := range append(edgeNames(), nameOf("1 a")) {
		y, p := checkRead(t, x, 1, n)
		if len(p) != 0 || !same(y, x) {
			t.Error(n, y, p)
		}
	}
}

// P19.3: a name that may not be is refused, of one that is On and of one that is not; a wrong number stands ahead of it.
func TestReadErrors(t *testing.T) {
	for _, n := range wrongNames() {
		for _, x := range []api.Track{trackOf("1 a", "-"), fullTrack()} {
			for conn := range 2 {
				if y, p, e := track.Read(x, conn, n); e != api.ErrBad || y.Conns != nil || p != nil {
					t.Error(conn, short(n), y, p, e)
				}
			}
			for _, conn := range []int{-1, len(x.Conns), top} {
				if y, p, e := track.Read(x, conn, n); e != api.ErrArg || y.Conns != nil || p != nil {
					t.Error(conn, short(n), y, p, e)
				}
			}
		}
	}
}

// P19.1 to P19.4: a track that may not be is told first, whatever else is wrong, and nothing beside it.
func TestCheckIsFirst(t *testing.T) {
	changes := [][]api.Change{nil, {put("1 a")}, {{}}, make([]api.Change, maxChanges+1), longChanges(65537)}
	for i, x := range wrongTracks() {
		for _, conn := range conns(x) {
			y, e := track.On(x, conn)
			z, f := track.Off(x, conn)
			l, g := track.Told(x, conn)
			if e != api.ErrBad || f != api.ErrBad || g != api.ErrBad || y.Conns != nil || z.Conns != nil || l != nil {
				t.Fatal(i, conn, e, f, g)
			}
			for _, n := range []api.Name{{Key: "a"}, {}} {
				if y, p, e := track.Read(x, conn, n); e != api.ErrBad || y.Conns != nil || p != nil {
					t.Fatal(i, conn, e)
				}
			}
		}
		for _, l := range changes {
			if y, p, e := track.Change(x, l); e != api.ErrBad || y.Conns != nil || p != nil {
				t.Fatal(i, short(l), e)
			}
		}
	}
}

// P19.1 to P19.4: whatever is asked of tracks at the edges, and of such that may not be.
func TestAllOfEdgeTracks(t *testing.T) {
	for _, x := range edgeTracks() {
		checkAll(t, x)
	}
	for _, x := range wrongTracks() {
		checkAll(t, x)
	}
}

// P19.1 to P19.4: whatever is asked of tracks by chance.
func TestAllOfRandomTracks(t *testing.T) {
	r := rand.New(rand.NewSource(191))
	for range 800 {
		x := randomTrack(r)
		checkAll(t, x)
		checkRead(t, x, r.Intn(len(x.Conns)), randomName(r))
		checkChange(t, x, randomChanges(r)...)
	}
}

// P19.1 to P19.4: names differ by a byte at their end, by their case, by a nought, and by their tenant.
func TestNamesThatAreNearlyTheSame(t *testing.T) {
	long := strings.Repeat("k", maxKey)
	near := []string{"1 k", "1 K", "1 k\x00", "1 \x00k", "1 kk", "2 k", "0 k", "1 " + long, "1 " + long[1:], "1 " + long[1:] + "l", "1 é", "1 \xc3"}
	var all []api.Name
	for _, s := range near {
		all = append(all, nameOf(s))
	}
	x, p := readAll(t, trackOf(""), 0, all)
	if len(p) != 0 || len(checkTold(t, x, 0)) != len(near) {
		t.Fatal(p, x)
	}
	for i, s := range near {
		y, p := checkChange(t, x, put(s), drop(s, 2))
		if !slices.Equal(p, []api.Push{{Name: all[i]}}) || len(checkTold(t, y, 0)) != len(near)-1 {
			t.Error(s, p)
		}
	}
}
