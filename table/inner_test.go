package table

import (
	"fmt"
	"math/rand"
	"testing"

	"cloakroom/api"
	"cloakroom/code"
)

func nthName(i int) api.Name {
	return api.Name{Tenant: i % api.MaxTenants, Key: fmt.Sprint(i / api.MaxTenants)}
}

// gather are the names of rows with their numbers; it fails where one does not stand in the row of its hash, or stands twice.
func gather(t *testing.T, rows [][]entry) map[api.Name]int {
	t.Helper()
	names := map[api.Name]int{}
	for i, row := range rows {
		for _, x := range row {
			if _, twice := names[x.name]; twice || rowOf(x.name, len(rows)) != i {
				t.Fatalf("%v stands in row %d of %d, twice: %v", x.name, i, len(rows), twice)
			}
			names[x.name] = x.number
		}
		for _, x := range row[len(row):cap(row)] {
			if x != (entry{}) {
				t.Fatalf("%v is kept behind row %d", x, i)
			}
		}
	}
	return names
}

// checkStep holds what a call did to the rows against what the table tells of it.
func checkStep(t *testing.T, x *Table, do func()) {
	t.Helper()
	begun, next, rows := len(x.old) > 0, x.next, len(x.rows)
	before := gather(t, x.old)
	if !begun {
		before = gather(t, x.rows)
	}
	do()
	old, now := gather(t, x.old), gather(t, x.rows)
	begun = begun || len(x.rows) != rows
	moved, gone := 0, 0
	for n := range before {
		_, stays := old[n]
		_, is := now[n]
		switch {
		case is && stays:
			t.Fatalf("%v stands in old and new rows", n)
		case is && begun:
			moved++
		case !is && !stays && begun:
			gone++ // by Del, perhaps behind having been moved by it
		}
	}
	if x.moved < moved || x.moved > moved+gone || x.moved > 4 {
		t.Fatalf("%d names were moved, and %d are told", moved, x.moved)
	}
	if len(old)+len(now) != x.many {
		t.Fatalf("%d and %d names, and %d are told", len(old), len(now), x.many)
	}
	if x.next-next > mostPassed {
		t.Fatalf("from row %d to row %d in one call", next, x.next)
	}
}

// P6.3: as many names were moved as are told.
func TestMovedTellsWhatWasMoved(t *testing.T) {
	for seed := range int64(10) {
		r := rand.New(rand.NewSource(seed))
		x := New()
		for i := range 1500 {
			n := nthName(r.Intn(200))
			checkStep(t, x, func() {
				switch c := r.Intn(10); {
				case c < 2:
					x.Get(n)
				case c < 3+i/300*2%7:
					x.Put(n, i)
				default:
					x.Del(n)
				}
			})
		}
	}
}

// P6.3: the rows go with the names, up and down, and are at most so many names long on the whole; moving is done before it is called for again.
func TestRowsGoWithTheNames(t *testing.T) {
	x := New()
	for i := range 5000 {
		x.Put(nthName(i), i)
		if len(x.rows) < x.many/2 || len(x.rows) > max(leastRows, 2*x.many) {
			t.Fatal(x.many, "names in", len(x.rows), "rows")
		}
		if len(x.old) > 0 && x.many > len(x.rows) {
			t.Fatal(x.many, "names, and the moving into", len(x.rows), "rows is not done")
		}
	}
	for i := range 5000 {
		x.Del(nthName(i))
		if len(x.rows) < x.many {
			t.Fatal(x.many, "names in", len(x.rows), "rows")
		}
	}
	for range 5000 {
		x.Get(nthName(0))
	}
	if len(x.rows) != leastRows || len(x.old) != 0 {
		t.Error("without names there are", len(x.rows), "rows, and", len(x.old), "old ones")
	}
}

// P6.3: one name to and fro does not move all the others to and fro.
func TestToAndFro(t *testing.T) {
	for many := range 300 {
		x := New()
		for i := range many {
			x.Put(nthName(i), i)
		}
		for range 300 {
			x.Get(nthName(0))
		}
		moved := 0
		for range 300 {
			x.Put(nthName(many), 0)
			moved += x.moved
			x.Del(nthName(many))
			moved += x.moved
		}
		if moved > many+1 {
			t.Fatal(many, "names, and", moved, "moved")
		}
	}
}

// The names of one shard stand in all rows, not in those alone that the shard's number tells.
func TestNamesOfOneShard(t *testing.T) {
	for shard := range api.MaxShards {
		x := New()
		for i := 0; x.many < 1000; i++ {
			n := nthName(i)
			if s, _ := code.Shard(n.Tenant, n.Key, api.MaxShards); s == shard {
				x.Put(n, i)
			}
		}
		used := 0
		for _, row := range x.rows {
			if len(row) > 0 {
				used++
			}
			if len(row) > 10 {
				t.Error("a row of", len(row), "names")
			}
		}
		if used < len(x.rows)/2 {
			t.Error("of", len(x.rows), "rows only", used, "are used")
		}
	}
}
