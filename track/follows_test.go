package track_test

import (
	"math/rand"
	"slices"
	"testing"

	"cloakroom/api"
	"cloakroom/code"
	"cloakroom/track"
)

// roomy is a list with spare room behind it, in which something stands.
func roomy[T any](l []T, behind ...T) []T {
	return append(slices.Clone(l), behind...)[:len(l)]
}

// whole is a list with its spare room, as new memory.
func whole[T any](l []T) []T { return slices.Clone(l[:cap(l)]) }

// roomyTrack is a track whose lists have spare room, with connections, and names, that would be told of.
func roomyTrack(x api.Track) api.Track {
	x = copied(x)
	for i, c := range x.Conns {
		x.Conns[i].Names = roomy(c.Names, names("1 a,2 b,1 spare")...)
	}
	x.Conns = roomy(x.Conns, api.Tracked{On: true, Names: names("1 a,1 b")}, api.Tracked{}, api.Tracked{On: true, Names: names("1 a")})
	return x
}

// lists are all lists of names of a track, that of what stands in its spare room, too.
func lists(x api.Track) [][]api.Name {
	var l [][]api.Name
	for _, c := range x.Conns[:cap(x.Conns)] {
		l = append(l, c.Names)
	}
	return l
}

// kept is a track with all its spare room, as new memory.
func kept(x api.Track) (conns []api.Tracked, l [][]api.Name) {
	for _, names := range lists(x) {
		l = append(l, whole(names))
	}
	return whole(x.Conns), l
}

// checkKept ends the test unless nothing of a track changed, its spare room neither.
func checkKept(t *testing.T, x api.Track, conns []api.Tracked, l [][]api.Name) {
	t.Helper()
	is := slices.EqualFunc(whole(x.Conns), conns, func(a, b api.Tracked) bool { return a.On == b.On && slices.Equal(a.Names, b.Names) })
	if _, now := kept(x); !is || !slices.EqualFunc(now, l, slices.Equal[[]api.Name]) {
		t.Fatalf("%s changed", short(x))
	}
}

// P19.5: what is handed in is only read, its spare room neither changed nor told.
func TestWhatIsHandedInIsOnlyRead(t *testing.T) {
	r := rand.New(rand.NewSource(195))
	spare := []api.Change{put("1 a"), clearOf(1), clearOf(2)}
	for range 3000 {
		x := roomyTrack(randomTrack(r))
		conns, l := kept(x)
		changes := roomy(randomChanges(r), spare...)
		was := whole(changes)
		conn := r.Intn(len(x.Conns))
		track.Check(x)
		checkOn(t, x, conn)
		checkOff(t, x, conn)
		checkTold(t, x, conn)
		checkRead(t, x, conn, randomName(r))
		checkRead(t, x, conn, nameOf("1 new"))
		checkChange(t, x, changes...)
		checkChange(t, x, clearOf(r.Intn(4)))
		checkKept(t, x, conns, l)
		if !slices.Equal(whole(changes), was) {
			t.Fatalf("%s changed to %s", short(was), short(changes))
		}
	}
}

// apart ends the test unless lists share no memory, their spare room neither: each is spoilt, and the others stay.
func apart[T comparable](t *testing.T, what string, spoil T, lists ...[]T) {
	t.Helper()
	var was [][]T
	for _, l := range lists {
		was = append(was, whole(l))
	}
	for i, l := range lists {
		room := l[:cap(l)]
		for at := range room {
			room[at] = spoil
		}
		for j, other := range lists {
			if j != i && !slices.Equal(whole(other), was[j]) {
				t.Fatalf("%s: list %d has memory of list %d", what, j, i)
			}
		}
		copy(room, was[i])
	}
}

// apartTracks ends the test unless tracks share no memory, nor two connections of one: neither their lists of connections nor those of names, of which there may be more.
func apartTracks(t *testing.T, what string, tracks []api.Track, more ...[]api.Name) {
	t.Helper()
	for _, x := range tracks {
		more = append(more, lists(x)...)
	}
	apart(t, what, api.Name{Tenant: -1, Key: "spoilt"}, more...)
	for i, x := range tracks {
		room := x.Conns[:cap(x.Conns)]
		was := slices.Clone(room)
		var others []api.Track
		for _, y := range tracks {
			others = append(others, copied(y))
		}
		for at := range room {
			room[at] = api.Tracked{On: !room[at].On, Names: names("3 spoilt")}
		}
		for j, y := range tracks {
			if j != i && !same(y, others[j]) {
				t.Fatalf("%s: track %d has memory of track %d", what, j, i)
			}
		}
		copy(room, was)
	}
}

// P19.5: tracks, names and pushes are new memory, none of it another's, nor that of what is told once more.
func TestAnswersAreNewMemory(t *testing.T) {
	r := rand.New(rand.NewSource(196))
	for range 1500 {
		x := roomyTrack(randomTrack(r))
		conn := r.Intn(len(x.Conns))
		y, _ := track.On(x, conn)
		z, _ := track.On(x, conn)
		apartTracks(t, "On", []api.Track{x, y, z})
		y, _ = track.Off(x, conn)
		z, _ = track.Off(x, conn)
		apartTracks(t, "Off", []api.Track{x, y, z})
		l, _ := track.Told(x, conn)
		m, _ := track.Told(x, conn)
		apartTracks(t, "Told", []api.Track{x}, l, m)
		n := randomName(r)
		y, p, _ := track.Read(x, conn, n)
		z, q, _ := track.Read(x, conn, n)
		apartTracks(t, "Read", []api.Track{x, y, z})
		apart(t, "Read", api.Push{Conn: -1}, p, q)
		changes := randomChanges(r)
		y, p, _ = track.Change(x, changes)
		z, q, _ = track.Change(x, changes)
		apartTracks(t, "Change", []api.Track{x, y, z})
		apart(t, "Change", api.Push{Conn: -1}, p, q)
	}
	x, e := track.New(maxConns)
	y, f := track.New(maxConns)
	if e != api.OK || f != api.OK {
		t.Fatal(e, f)
	}
	apartTracks(t, "New", []api.Track{x, y})
}

// P19.5: lists that are handed in may have memory in common, connections' names, too: nothing grows into another one.
func TestListsOfOneArray(t *testing.T) {
	r := rand.New(rand.NewSource(197))
	for range 2000 {
		var all []api.Name
		for _, k := range r.Perm(40)[:1+r.Intn(30)] {
			all = append(all, api.Name{Tenant: k % 4, Key: string(rune('a' + k/4))})
		}
		was := slices.Clone(all)
		x := api.Track{}
		for range 1 + r.Intn(maxConns) {
			from := r.Intn(len(all))
			to := from + r.Intn(min(maxTracked, len(all)-from)+1)
			x.Conns = append(x.Conns, api.Tracked{On: true, Names: all[from:to]})
		}
		conn := r.Intn(len(x.Conns))
		y := checkOff(t, checkOn(t, x, conn), conn)
		z, _ := checkRead(t, x, conn, api.Name{Tenant: r.Intn(4), Key: string(rune('a' + r.Intn(12)))})
		v, _ := checkChange(t, x, wellChanges(r)...)
		apartTracks(t, "all", []api.Track{y, z, v}, all)
		if !slices.Equal(all, was) {
			t.Fatalf("%s changed to %s", short(was), short(all))
		}
	}
}

// P19.5, R2: what is told hangs on the arguments alone, whatever is asked of other tracks meanwhile.
func TestAskedAgain(t *testing.T) {
	r := rand.New(rand.NewSource(198))
	l := []api.Track{trackOf("", ""), trackOf("-"), fullTrack()}
	for range 2000 {
		i := r.Intn(len(l))
		was := copied(l[i])
		next := randomStep(t, r, l[i])
		if !same(l[i], was) {
			t.Fatalf("%s changed to %s", short(was), short(l[i]))
		}
		checkAll(t, l[i])
		l[i] = next
	}
}

// randomStep does one thing to a track, and tells what it is then.
func randomStep(t *testing.T, r *rand.Rand, x api.Track) api.Track {
	t.Helper()
	conn := r.Intn(len(x.Conns))
	switch r.Intn(16) {
	case 0, 1:
		return checkOn(t, x, conn)
	case 2:
		return checkOff(t, x, conn)
	case 3, 4, 5:
		x, _ = checkChange(t, x, randomChanges(r)...)
	default:
		x, _ = checkRead(t, x, conn, randomName(r))
	}
	return x
}

// past is what happened to one connection: when it was let On (0: it is not), and when it read each name, and was told of it, last.
type past struct {
	on         int
	read, told map[api.Name]int
}

// has are the names that one has by its past: those that it read since it is On, and was not told of since, the eldest first.
func (p *past) has() []api.Name {
	var l []api.Name
	if p.on == 0 {
		return nil
	}
	for n, at := range p.read {
		if at > p.on && at > p.told[n] {
			l = append(l, n)
		}
	}
	slices.SortFunc(l, func(a, b api.Name) int { return p.read[a] - p.read[b] })
	return l
}

// day is a track under way, with what happened to each of its connections.
type day struct {
	t   *testing.T
	x   api.Track
	now int
	l   []*past
}

func newDay(t *testing.T, conns int) *day {
	x, e := track.New(conns)
	if e != api.OK {
		t.Fatal(e)
	}
	d := &day{t: t, x: x}
	for range conns {
		d.l = append(d.l, &past{read: map[api.Name]int{}, told: map[api.Name]int{}})
	}
	return d
}

// tell writes pushes down: each is of a name that its connection has.
func (d *day) tell(l []api.Push) {
	d.t.Helper()
	for _, p := range l {
		if p.Conn < 0 || p.Conn >= len(d.l) || !slices.Contains(d.l[p.Conn].has(), p.Name) {
			d.t.Fatalf("told %s, but it has no such name: %s", short(p), short(d.x))
		}
		d.now++
		d.l[p.Conn].told[p.Name] = d.now
	}
}

// check ends the test unless the track may be, and each connection has what its past tells.
func (d *day) check() {
	d.t.Helper()
	if e := track.Check(d.x); e != api.OK {
		d.t.Fatalf("%s: error %d", short(d.x), e)
	}
	for conn, p := range d.l {
		if l, e := track.Told(d.x, conn); !slices.Equal(l, p.has()) || e != api.OK || d.x.Conns[conn].On != (p.on > 0) {
			d.t.Fatalf("%d has %s, error %d, want %s", conn, short(l), e, short(p.has()))
		}
	}
}

func (d *day) on(conn int) {
	d.now++
	if d.x, _ = track.On(d.x, conn); d.l[conn].on == 0 {
		d.l[conn].on = d.now
	}
}

func (d *day) off(conn int) {
	d.now++
	d.x, _ = track.Off(d.x, conn)
	d.l[conn].on = 0
}

// read reads a name; who has as few names as may be then is told of none.
func (d *day) read(conn int, n api.Name) []api.Push {
	d.t.Helper()
	x, p, e := track.Read(d.x, conn, n)
	if e != api.OK {
		d.t.Fatal(short(d.x), conn, short(n), e)
	}
	d.x = x
	d.now++
	d.l[conn].read[n] = d.now
	has := d.l[conn].has()
	if many := max(0, len(has)-maxTracked); len(p) != many || many > 0 && p[0] != (api.Push{Conn: conn, Name: has[0]}) {
		d.t.Fatalf("%d read %s: told %s, has %s", conn, short(n), short(p), short(has))
	}
	d.tell(p)
	return p
}

// change does changes: behind it nobody has a name that one of them changed, and whoever had one was told.
func (d *day) change(l []api.Change) []api.Push {
	d.t.Helper()
	x, p, e := track.Change(d.x, l)
	if e != api.OK {
		d.t.Fatal(short(d.x), short(l), e)
	}
	d.x = x
	d.tell(p)
	for _, c := range l {
		for conn := range d.l {
			for _, n := range d.l[conn].has() {
				if n.Tenant == c.Tenant && (c.Kind == 3 || c.Kind == 1 && c.Item.Key == n.Key || c.Kind == 2 && c.Key == n.Key) {
					d.t.Fatalf("%d has %s behind %s", conn, short(n), short(l))
				}
			}
		}
	}
	return p
}

// step does one thing, by chance, of a few names, so that they are met again.
func (d *day) step(r *rand.Rand, tenants, keys int) {
	d.t.Helper()
	conn := r.Intn(len(d.l))
	n := api.Name{Tenant: r.Intn(tenants), Key: string(rune('a' + r.Intn(keys)))}
	switch r.Intn(40) {
	case 0, 1, 2:
		d.on(conn)
	case 3:
		d.off(conn)
	case 4, 5, 6, 7:
		var l []api.Change
		for range r.Intn(4) {
			l = append(l, [...]api.Change{
				{Kind: 1, Tenant: n.Tenant, Item: api.Item{Key: n.Key}}, {Kind: 2, Tenant: n.Tenant, Key: n.Key, Why: 1}, {Kind: 4, To: 3}, clearOf(n.Tenant),
			}[r.Intn(8)%7/2])
			n.Key = string(rune('a' + r.Intn(keys)))
		}
		d.change(l)
	default:
		d.read(conn, n)
	}
	d.check()
}

// P19.6: over many calls, in any order: who read a name, and is On since, has it, or was told of it since; who is told of a name had it, and has it no more.
func TestEachHasWhatItReadAndWasNotToldOf(t *testing.T) {
	told := 0
	for seed := range int64(24) {
		r := rand.New(rand.NewSource(seed))
		d := newDay(t, 1+int(seed)%maxConns)
		tenants, keys := 1+r.Intn(4), 2+r.Intn(20)
		for range 400 {
			d.step(r, tenants, keys)
		}
		for _, p := range d.l {
			told += len(p.told)
		}
	}
	if told < 500 {
		t.Error("too few were told of anything:", told)
	}
}

// P19.6: who reads at most as many names as it may have is told of none by reading, in whatever order, and however often.
func TestFewNamesAreToldByNoRead(t *testing.T) {
	r := rand.New(rand.NewSource(199))
	for range 40 {
		d := newDay(t, 3)
		var l [][]api.Name
		for conn := range 3 {
			d.on(conn)
			var few []api.Name
			for _, k := range r.Perm(80)[:maxTracked] {
				few = append(few, api.Name{Tenant: k % 4, Key: string(rune('a' + k/4))})
			}
			l = append(l, few)
		}
		for range 300 {
			conn := r.Intn(3)
			if p := d.read(conn, l[conn][r.Intn(maxTracked)]); len(p) != 0 {
				t.Fatal(p)
			}
			if r.Intn(12) == 0 {
				n := l[conn][r.Intn(maxTracked)]
				d.change([]api.Change{{Kind: 1, Tenant: n.Tenant, Item: api.Item{Key: n.Key}}})
			}
		}
		d.check()
	}
}

// wellChanges are some by chance that may be.
func wellChanges(r *rand.Rand) []api.Change {
	for {
		l := randomChanges(r)
		if _, e := code.Changes(l); e == api.OK {
			return l
		}
	}
}

// P19.4, P19.6: changes that are told in two parts tell the same as at once.
func TestChangesInTwoParts(t *testing.T) {
	r := rand.New(rand.NewSource(1910))
	for range 1500 {
		x := randomTrack(r)
		var l []api.Change
		for len(l) < 4 {
			l = append(l, wellChanges(r)...)
		}
		whole, all, _ := track.Change(x, l)
		for cut := range len(l) + 1 {
			y, p, _ := track.Change(x, l[:cut])
			y, q, e := track.Change(y, l[cut:])
			if e != api.OK || !same(y, whole) || !slices.Equal(slices.Concat(p, q), all) {
				t.Fatalf("%s, cut at %d: told %s and %s, want %s", short(l), cut, short(p), short(q), short(all))
			}
		}
	}
}

// copies are what clients have, each of its own: by names, the value that it read.
type copies []map[api.Name]int

func (l copies) tell(told []api.Push) {
	for _, p := range told {
		delete(l[p.Conn], p.Name)
	}
}

// W5: clients that keep what they read, and drop what they are told of, have nothing but what the house has: whatever changes, in whatever order. What did not change need not be asked again, as long as it is among the last so many that were read.
func TestCopiesAreWhatTheHouseHas(t *testing.T) {
	kept := 0
	for seed := range int64(16) {
		r := rand.New(rand.NewSource(seed))
		d := newDay(t, 3)
		house := map[api.Name]int{} // how often a name was changed
		l := copies{{}, {}, {}}
		for conn := range l {
			d.on(conn)
		}
		keys := 4 + r.Intn(12)
		for range 500 {
			n := api.Name{Tenant: r.Intn(2), Key: string(rune('a' + r.Intn(keys)))}
			conn := r.Intn(len(l))
			switch r.Intn(12) {
			case 0:
				l.tell(d.change([]api.Change{{Kind: 1, Tenant: n.Tenant, Item: api.Item{Key: n.Key}}}))
				house[n]++
			case 1:
				l.tell(d.change([]api.Change{{Kind: 2, Tenant: n.Tenant, Key: n.Key, Why: 2}}))
				house[n]++
			case 2:
				if r.Intn(6) > 0 {
					break
				}
				l.tell(d.change([]api.Change{clearOf(n.Tenant)}))
				for k := range keys {
					house[api.Name{Tenant: n.Tenant, Key: string(rune('a' + k))}]++
				}
			default:
				if _, is := l[conn][n]; is {
					kept++
					continue
				}
				l.tell(d.read(conn, n))
				l[conn][n] = house[n]
			}
			for conn, has := range l {
				if len(has) != len(d.l[conn].has()) {
					t.Fatalf("%d has %d of what it read, and is told of %d", conn, len(has), len(d.l[conn].has()))
				}
				for n, was := range has {
					if was != house[n] {
						t.Fatalf("%d has %s as it was by %d changes, but there were %d", conn, short(n), was, house[n])
					}
				}
			}
		}
	}
	if kept < 500 {
		t.Error("nearly nothing was asked again:", kept)
	}
}

// FuzzTrack looks for steps by which somebody has, or is told of, something else than what it read and was not told of since, and for tracks of which something else is told than the chapter's words tell.
func FuzzTrack(f *testing.F) {
	f.Add(uint8(1), []byte("\x00\x00\x20\x01\x20\x02\x20\x01\x60\x01\x70\x02"))
	f.Add(uint8(3), []byte("\x00\x00\x01\x00\x20\x01\x21\x01\x80\x01\x90\x01\xa0\x00\x12\x00"))
	f.Add(uint8(8), []byte("\x00\x00\x20\x00\x20\x01\x20\x02\x20\x03\x20\x04\x20\x05\x20\x06\x20\x07\x20\x08\x20\x09\x20\x0a\x20\x0b\x20\x0c\x20\x0d\x20\x0e\x20\x0f\x20\x10\x20\x11"))
	f.Fuzz(func(t *testing.T, conns uint8, steps []byte) {
		d := newDay(t, 1+int(conns)%maxConns)
		for ; len(steps) >= 2; steps = steps[2:] {
			conn, n := int(steps[0]&15), api.Name{Tenant: int(steps[1] & 3), Key: string(rune('a' + steps[1]>>2))}
			what, is := steps[0]>>4, conn < len(d.l)
			c := []api.Change{{Kind: 1, Tenant: n.Tenant, Item: api.Item{Key: n.Key}}, {Kind: 2, Tenant: n.Tenant, Key: n.Key, Why: 1}, clearOf(n.Tenant)}
			switch {
			case what >= 6:
				checkChange(t, d.x, c[int(what)%3], put("0 a"))
				d.change([]api.Change{c[int(what)%3], put("0 a")})
			case !is:
				checkAll(t, d.x)
			case what == 0:
				checkOn(t, d.x, conn)
				d.on(conn)
			case what == 1:
				checkOff(t, d.x, conn)
				d.off(conn)
			default:
				checkRead(t, d.x, conn, n)
				d.read(conn, n)
			}
			d.check()
		}
	})
}
