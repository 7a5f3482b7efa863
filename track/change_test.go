package track_test

import (
	"slices"
	"testing"

	"cloakroom/api"
	"cloakroom/track"
)

// changing is a track's texts, changes, and what they come to.
type changing struct {
	l    []api.Change
	told string
	left []string
}

// checkChanging ends the test unless changes come to what they are to come to, of the names of three connections.
func checkChanging(t *testing.T, was []string, c changing) {
	t.Helper()
	x := trackOf(was...)
	y, p := checkChange(t, x, c.l...)
	if !slices.Equal(p, pushes(c.told)) || !same(y, trackOf(c.left...)) {
		t.Fatalf("%s: told %s, left %s, want %s, %v", short(c.l), short(p), short(y), c.told, c.left)
	}
}

// P19.4: each kind of change, alone: whom it tells, in order, and what is left, in its order.
func TestEachKindOfChange(t *testing.T) {
	was := []string{"1 a,2 a,1 b,1 c", "-", "2 b,1 b,2 a,3 z"}
	for _, c := range []changing{
		{nil, "", was},
		{[]api.Change{put("1 a")}, "0 of 1 a", []string{"2 a,1 b,1 c", "-", was[2]}},
		{[]api.Change{put("2 a")}, "0 of 2 a,2 of 2 a", []string{"1 a,1 b,1 c", "-", "2 b,1 b,3 z"}},
		{[]api.Change{put("3 z")}, "2 of 3 z", []string{was[0], "-", "2 b,1 b,2 a"}},
		{[]api.Change{put("3 a")}, "", was},
		{[]api.Change{put("0 a")}, "", was},
		{[]api.Change{drop("1 b", 1)}, "0 of 1 b,2 of 1 b", []string{"1 a,2 a,1 c", "-", "2 b,2 a,3 z"}},
		{[]api.Change{drop("1 b", 2)}, "0 of 1 b,2 of 1 b", []string{"1 a,2 a,1 c", "-", "2 b,2 a,3 z"}},
		{[]api.Change{drop("1 c", 2)}, "0 of 1 c", []string{"1 a,2 a,1 b", "-", was[2]}},
		{[]api.Change{drop("0 b", 1)}, "", was},
		{[]api.Change{clearOf(1)}, "0 of 1 a,0 of 1 b,0 of 1 c,2 of 1 b", []string{"2 a", "-", "2 b,2 a,3 z"}},
		{[]api.Change{clearOf(2)}, "0 of 2 a,2 of 2 b,2 of 2 a", []string{"1 a,1 b,1 c", "-", "1 b,3 z"}},
		{[]api.Change{clearOf(3)}, "2 of 3 z", []string{was[0], "-", "2 b,1 b,2 a"}},
		{[]api.Change{clearOf(0)}, "", was},
	} {
		checkChanging(t, was, c)
		checkChanging(t, was, changing{slices.Concat(silent(), c.l, silent()), c.told, c.left})
	}
	for _, c := range silent() {
		checkChanging(t, was, changing{[]api.Change{c}, "", was})
	}
	checkChanging(t, was, changing{silent(), "", was})
}

// P19.4: changes are gone through in order, and each one's connections; what was told by one is told by none behind it.
func TestChangesOneBehindAnother(t *testing.T) {
	was := []string{"1 b,1 a", "1 a,2 a", "1 a,1 b"}
	for _, c := range []changing{
		{[]api.Change{put("1 a"), put("1 a")}, "0 of 1 a,1 of 1 a,2 of 1 a", []string{"1 b", "2 a", "1 b"}},
		{[]api.Change{put("1 a"), drop("1 a", 2)}, "0 of 1 a,1 of 1 a,2 of 1 a", []string{"1 b", "2 a", "1 b"}},
		{[]api.Change{drop("1 a", 1), put("1 b")}, "0 of 1 a,1 of 1 a,2 of 1 a,0 of 1 b,2 of 1 b", []string{"", "2 a", ""}},
		{[]api.Change{put("1 b"), put("1 a")}, "0 of 1 b,2 of 1 b,0 of 1 a,1 of 1 a,2 of 1 a", []string{"", "2 a", ""}},
		{[]api.Change{put("1 b"), clearOf(1)}, "0 of 1 b,2 of 1 b,0 of 1 a,1 of 1 a,2 of 1 a", []string{"", "2 a", ""}},
		{[]api.Change{put("1 a"), clearOf(1)}, "0 of 1 a,1 of 1 a,2 of 1 a,0 of 1 b,2 of 1 b", []string{"", "2 a", ""}},
		{[]api.Change{clearOf(1), put("1 a"), drop("1 b", 1)}, "0 of 1 b,0 of 1 a,1 of 1 a,2 of 1 a,2 of 1 b", []string{"", "2 a", ""}},
		{[]api.Change{clearOf(2), clearOf(1), clearOf(2)}, "1 of 2 a,0 of 1 b,0 of 1 a,1 of 1 a,2 of 1 a,2 of 1 b", []string{"", "", ""}},
		{[]api.Change{clearOf(1), clearOf(1)}, "0 of 1 b,0 of 1 a,1 of 1 a,2 of 1 a,2 of 1 b", []string{"", "2 a", ""}},
		{[]api.Change{put("3 a"), put("2 a"), put("3 b")}, "1 of 2 a", []string{"1 b,1 a", "1 a", "1 a,1 b"}},
	} {
		checkChanging(t, was, c)
	}
}

// P19.4: names that no connection has, that one has, that some have, that all have, of as many connections as may be.
func TestWhoHasAName(t *testing.T) {
	for which := range 1 << maxConns {
		x := api.Track{}
		var want []api.Push
		for conn := range maxConns {
			c := api.Tracked{On: true, Names: names("1 b,1 a,2 a")}
			if which>>conn&1 == 0 {
				c.Names = names("1 b,2 a")
			} else {
				want = append(want, api.Push{Conn: conn, Name: nameOf("1 a")})
			}
			x.Conns = append(x.Conns, c)
		}
		for _, change := range []api.Change{put("1 a"), drop("1 a", 1)} {
			y, p := checkChange(t, x, change)
			if !slices.Equal(p, want) {
				t.Fatal(which, p)
			}
			for conn := range maxConns {
				if l := checkTold(t, y, conn); !slices.Equal(l, names("1 b,2 a")) {
					t.Fatal(which, conn, l)
				}
			}
		}
	}
}

// P19.4: as many connections with as many names as may be, all of which are told at once, or by as many changes.
func TestAllIsTold(t *testing.T) {
	x := fullTrack()
	l := numbered(2, maxTracked)
	var byConns, byNames []api.Push
	var puts []api.Change
	for conn := range maxConns {
		for _, n := range l {
			byConns = append(byConns, api.Push{Conn: conn, Name: n})
		}
	}
	for _, n := range slices.Backward(l) {
		puts = append(puts, api.Change{Kind: 1, Tenant: 2, Item: api.Item{Key: n.Key}})
		for conn := range maxConns {
			byNames = append(byNames, api.Push{Conn: conn, Name: n})
		}
	}
	empty := trackOf("", "", "", "", "", "", "", "")
	if y, p := checkChange(t, x, clearOf(2)); !slices.Equal(p, byConns) || !same(y, empty) {
		t.Error(y, p)
	}
	if y, p := checkChange(t, x, puts...); !slices.Equal(p, byNames) || !same(y, empty) {
		t.Error(y, p)
	}
	many := slices.Concat(slices.Repeat([]api.Change{clearOf(1)}, maxChanges-1), []api.Change{clearOf(2)})
	if y, p := checkChange(t, x, many...); !slices.Equal(p, byConns) || !same(y, empty) {
		t.Error(y, p)
	}
}

// P19.4: code.Changes' errors, whoever has which names; as many changes, and bytes, as may be are none.
func TestChangeErrors(t *testing.T) {
	for _, x := range []api.Track{trackOf("-"), trackOf("1 a", "-", "1 k,1 a"), fullTrack()} {
		for i, c := range wrongChanges() {
			if y, p, e := track.Change(x, c.l); e != c.e || y.Conns != nil || p != nil {
				t.Errorf("%d: %s: %s, %s, error %d, want %d", i, short(c.l), short(y), short(p), e, c.e)
			}
		}
		for _, l := range [][]api.Change{nil, {}, longChanges(65535), longChanges(65536), slices.Repeat([]api.Change{drop("1 a", 2)}, maxChanges)} {
			if y, _, e := track.Change(x, l); e != api.OK || len(y.Conns) != len(x.Conns) {
				t.Errorf("%s: error %d", short(l), e)
			}
		}
	}
}
