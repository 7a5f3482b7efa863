package table_test

import (
	"math/rand"
	"testing"

	"cloakroom/api"
	"cloakroom/table"
)

// P6.3: 0 at first, whatever is asked that is of no name, or refused.
func TestMovedAtFirst(t *testing.T) {
	x := table.New()
	checkMoved(t, "at first", x, 0)
	checkMoved(t, "asked again", x, 0)
	x.Len()
	x.All()
	for _, n := range wrongNames() {
		checkRefused(t, "at first", x, n, api.ErrBad)
		checkMoved(t, n, x, 0)
	}
	x.Put(name(0, "a"), 1)
	checkMoved(t, "one name, which can't be moved by the call that puts it", x, 0)
}

// P6.3: behind every call it is unchanged by those that are refused, and by Len, All and Moved.
func TestMovedStays(t *testing.T) {
	wrong := wrongNames()
	x, m := table.New(), newModel()
	var seen [maxMoved + 1]int
	stays := func(i, moved int) {
		seen[moved]++
		checkRefused(t, i, x, wrong[i%len(wrong)], api.ErrBad)
		checkMoved(t, "behind a refused call", x, moved)
		m.look(t, i, x)
		checkMoved(t, "behind Len and All", x, moved)
		checkMoved(t, "behind Moved", x, moved)
	}
	for i := range 200 {
		stays(i, m.put(t, x, nth(i), i))
		stays(i, m.get(t, x, nth(i/2)))
	}
	for i := range 200 {
		stays(i, m.del(t, x, nth(i)))
		stays(i, m.get(t, x, absent(i)))
	}
	if seen[0] == 0 || seen[maxMoved] == 0 {
		t.Error("how often so many were moved:", seen)
	}
}

// P6.3: it is of the last call alone: where names are few, and nothing more comes, nothing is moved for good.
func TestMovedIsOfTheLastCall(t *testing.T) {
	x, m := both(t, nths(300)...)
	for i := range 1000 {
		m.get(t, x, nth(i))
	}
	for i := range 1000 {
		if moved := m.get(t, x, nth(i)); moved != 0 {
			t.Fatal(i, "moved", moved, "though nothing came and went")
		}
	}
}

// P6.3, P6.5: however many names there are; it grows, and shrinks, by moving them.
func TestMovedIsAtMostFour(t *testing.T) {
	const many = 50000
	x, m := table.New(), newModel()
	for i := range many {
		m.put(t, x, nth(i), i)
	}
	if m.moved == 0 {
		t.Error("grown without moving")
	}
	for i := range many {
		m.get(t, x, nth(i))
		m.get(t, x, absent(i))
	}
	m.look(t, "grown", x)
	m.moved = 0
	for i := range many {
		m.del(t, x, nth(i))
	}
	if m.moved == 0 {
		t.Error("shrunk without moving")
	}
	m.look(t, "shrunk", x)
	for i := range many {
		if moved := m.get(t, x, nth(i)); moved != 0 {
			t.Fatal("moved", moved, "of no name")
		}
	}
}

// P6.5: at each stage of the moving, up and down, each name is found, put anew, deleted; and such as are not there are not.
func TestEachStageOfTheMoving(t *testing.T) {
	for _, from := range []int{0, 70} {
		for many := range 24 {
			for calls := range 6 {
				lay := func() (*table.Table, *model) {
					x, m := both(t, nths(max(from, many))...)
					for i := many; i < from; i++ {
						m.del(t, x, nth(i))
					}
					for i := range calls {
						m.get(t, x, absent(i))
					}
					return x, m
				}
				for i := range many + 1 {
					x, m := lay()
					m.get(t, x, nth(i))
					m.look(t, "Get", x)
					x, m = lay()
					m.put(t, x, nth(i), -i)
					m.check(t, "Put", x)
					x, m = lay()
					m.del(t, x, nth(i))
					m.check(t, "Del", x)
				}
			}
		}
	}
}

// P6.5: names that have one hash, by themselves and among others, that make the table grow and shrink about them.
func TestNamesOfOneHash(t *testing.T) {
	for what, names := range ofOneHash(t) {
		for _, others := range []int{0, 1, 5, 20, 100, 1000} {
			x, m := table.New(), newModel()
			for i, n := range names {
				m.get(t, x, n)
				m.put(t, x, n, i)
				m.check(t, what, x)
			}
			for i := range others {
				m.put(t, x, nth(i), i)
				m.get(t, x, names[i%len(names)])
				m.put(t, x, names[i%len(names)], -i)
			}
			m.check(t, what, x)
			for i, n := range names {
				if i%2 == 0 {
					m.del(t, x, n)
					m.check(t, what, x)
				}
			}
			for i := range others {
				m.del(t, x, nth(i))
				m.get(t, x, names[i%len(names)])
			}
			m.check(t, what, x)
			for _, n := range names {
				m.del(t, x, n)
				m.check(t, what, x)
			}
			checkLen(t, what, x, 0)
		}
	}
}

// P6.5: names of one hash that stand together are moved in several calls, while they are asked for, put and deleted.
func TestNamesOfOneHashWhileTheyAreMoved(t *testing.T) {
	for what, names := range ofOneHash(t) {
		for others := range 40 {
			x, m := both(t, names...)
			for i := range others {
				m.put(t, x, nth(i), i)
			}
			for i, n := range names {
				switch i % 3 {
				case 0:
					m.del(t, x, n)
				case 1:
					m.put(t, x, n, 100+i)
				case 2:
					m.get(t, x, n)
				}
				m.look(t, what, x)
			}
			m.check(t, what, x)
		}
	}
}

// P6.2, P6.3, P6.5: long runs, in which the names become many, and few again, held against the model.
func TestLongRuns(t *testing.T) {
	for seed := range int64(30) {
		r := rand.New(rand.NewSource(seed))
		x, m := table.New(), newModel()
		most := 1 + r.Intn(1500)
		for range 12 {
			grow := r.Intn(10)
			for range r.Intn(2 * most) {
				n := nth(r.Intn(most))
				switch c := r.Intn(12); {
				case c > 9:
					m.get(t, x, n)
				case c < grow:
					m.put(t, x, n, r.Int()-r.Int())
				default:
					m.del(t, x, n)
				}
				checkLen(t, seed, x, len(m.numbers))
			}
			m.look(t, seed, x)
		}
		m.check(t, seed, x)
	}
}

// Looks for calls by which a table comes to something else than a map would.
func FuzzTable(f *testing.F) {
	f.Add([]byte("\x00a\x04a\x08a\x01a\x02a"))
	f.Add([]byte("\x00a\x00b\x00c\x00d\x00e\x00f\x00g\x00h\x00i\x00j\x00k\x00l\x02a\x02b\x02c\x02d\x02e\x02f\x02g\x02h\x02i"))
	f.Fuzz(func(t *testing.T, script []byte) {
		x, m := table.New(), newModel()
		for i := 0; i+1 < len(script); i += 2 {
			n := name(int(script[i]>>2)%maxTenants, string(script[i+1:i+2]))
			switch script[i] % 4 {
			case 0, 1:
				m.put(t, x, n, i)
			case 2:
				m.del(t, x, n)
			case 3:
				m.get(t, x, n)
			}
			m.look(t, i, x)
		}
		m.check(t, "at the end", x)
	})
}
