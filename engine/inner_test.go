package engine

import (
	"fmt"
	"math/rand"
	"slices"
	"strings"
	"testing"

	"cloakroom/api"
	"cloakroom/lru"
)

// checkInner ends the test unless the parts of a shard tell the same of its items, and nothing is kept of what left.
func checkInner(t *testing.T, e *Engine) {
	t.Helper()
	timed, used := 0, 0
	keys := map[[2]int][]string{}
	for _, place := range e.items.row {
		k := e.items.kept[place]
		if at, is := e.find(nameOf(k)); at != place || !is {
			t.Fatalf("%v stands at %d, and is looked for at %d", k, place, at)
		}
		if until, _ := e.wheel.Until(nameOf(k)); until != k.Item.Until {
			t.Fatalf("%v is due at %d", k, until)
		}
		if k.Item.Until != 0 {
			timed++
		}
		class, _ := classOf(k.Item)
		page, chunk := chunkAt(place)
		if p := e.pages.Pages[page]; p.Tenant != k.Tenant || p.Class != class || p.Used>>chunk&1 == 0 {
			t.Fatalf("%v stands in chunk %d of %v", k, chunk, p)
		}
		keys[[2]int{k.Tenant, class}] = append(keys[[2]int{k.Tenant, class}], k.Item.Key)
	}
	for tenant := range e.orders {
		for class, o := range e.orders[tenant] {
			l, f := lru.All(*o)
			want := keys[[2]int{tenant, class}]
			slices.Sort(l)
			slices.Sort(want)
			if f != api.OK || !slices.Equal(l, want) {
				t.Fatalf("the order of tenant %d and class %d has %q, want %q, error %d", tenant, class, l, want, f)
			}
		}
	}
	for _, k := range e.items.kept {
		if k != (api.Kept{}) {
			used++
		}
	}
	names, _ := e.places.Len()
	moments, _ := e.wheel.Len()
	if many := len(e.items.row); many != used || many != names || timed != moments {
		t.Fatalf("%d items: %d are kept, %d have names, %d of %d have moments", many, used, names, moments, timed)
	}
}

// anyCommand may be; of one tenant or two, of few keys.
func anyCommand(r *rand.Rand, last uint64) api.Command {
	c := api.Command{Kind: uint8(1 + r.Intn(10)), Tenant: r.Intn(2), Keys: []string{strings.Repeat(string([]byte{'a' + byte(r.Intn(12))}), 1+r.Intn(2)*6)}}
	switch c.Kind {
	case api.CmdSet, api.CmdAdd, api.CmdReplace, api.CmdCas, api.CmdAppend:
		c.Value = strings.Repeat("9", 1+r.Intn(250)>>r.Intn(8))
	case api.CmdIncr, api.CmdDecr:
		c.By = uint64(r.Intn(3))
	}
	switch c.Kind {
	case api.CmdSet, api.CmdAdd, api.CmdReplace, api.CmdCas, api.CmdTouch:
		c.For = r.Intn(30) * r.Intn(2)
	}
	if c.Kind == api.CmdCas {
		c.Unique = last
	}
	if r.Intn(60) == 0 {
		c = api.Command{Kind: api.CmdFlush, Tenant: c.Tenant}
	}
	return c
}

// P11.3, P11.5, W6: whatever is done or refused, the parts of a shard are of one mind.
func TestPartsAreOfOneMind(t *testing.T) {
	r := rand.New(rand.NewSource(124))
	for range 60 {
		pages := 1 + r.Intn(6)
		first := r.Intn(pages + 1)
		e, f := New(pages, []int{first, pages - first}, 0)
		if f != api.OK {
			t.Fatal(f)
		}
		for range 200 {
			switch r.Intn(12) {
			case 0:
				e.Tick(e.now() + r.Intn(9))
			case 1:
				e.Quota(r.Intn(2), r.Intn(pages+1))
			default:
				e.Do(anyCommand(r, e.last))
			}
			checkInner(t, e)
		}
		i, _ := e.Image()
		if e, f = Load(pages, i); f != api.OK {
			t.Fatal(f)
		}
		checkInner(t, e)
	}
}

// told is the pages, and the items in their order, as a text.
func told(e *Engine) string {
	return fmt.Sprint(*e.pages, e.items.all(), e.items.row)
}

// rowsOf are the rows of all orders, as texts.
func rowsOf(e *Engine) []string {
	var l []string
	for _, tenant := range e.orders {
		for _, o := range tenant {
			l = append(l, fmt.Sprint(o.Try, o.Keep))
		}
	}
	return l
}

// P11.3: a put that is refused for memory leaves each part of the shard as it was.
func TestRefusedPutTakesAllBack(t *testing.T) {
	r := rand.New(rand.NewSource(125))
	refused := 0
	for range 60 {
		e, _ := New(3, []int{2, 1}, 0)
		for range 100 {
			last, was := e.last, slices.Concat(rowsOf(e), []string{told(e)})
			x, _, _ := e.Do(anyCommand(r, e.last))
			if x.Kind != api.ResMemory {
				continue
			}
			refused++
			if now := slices.Concat(rowsOf(e), []string{told(e)}); e.last != last || !slices.Equal(now, was) {
				t.Fatalf("%q, %d became %q, %d", was, last, now, e.last)
			}
		}
	}
	if refused < 50 {
		t.Error("too few", refused)
	}
}
