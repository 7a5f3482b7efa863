package shards

import (
	"math/rand"
	"slices"
	"testing"

	"cloakroom/api"
	"cloakroom/code"
)

// anyTicket may be; of few keys, and often of all shards.
func anyTicket(r *rand.Rand) api.Ticket {
	key := string([]byte{'a' + byte(r.Intn(20))})
	switch r.Intn(8) {
	case 0:
		return api.Ticket{Kind: api.TickClock, To: r.Intn(40)}
	case 1:
		return api.Ticket{Kind: api.TickQuota, Tenant: r.Intn(3), To: r.Intn(5)}
	case 2:
		return api.Ticket{Kind: api.TickCommand, Command: api.Command{Kind: api.CmdDelete, Tenant: r.Intn(2), Keys: []string{key, key + "x"}}}
	}
	return api.Ticket{Kind: api.TickCommand, Command: api.Command{Kind: api.CmdSet, Tenant: r.Intn(2), Keys: []string{key}, Value: "v", For: r.Intn(9)}}
}

// checkShards ends the test unless all shards have one clock, the same quotas and as many pages, and each has the items of its own names alone.
func checkShards(t *testing.T, h *House) {
	t.Helper()
	whole, f := h.Image()
	if f != api.OK {
		t.Fatal(f)
	}
	first, _ := h.state.shards[0].Slab()
	for shard, e := range h.state.shards {
		i, _ := e.Image()
		s, _ := e.Slab()
		if i.Clock != whole.Clock || !slices.Equal(i.Quotas, whole.Quotas) || len(s.Pages) != len(first.Pages) {
			t.Fatalf("shard %d has clock %d, quotas %v, %d pages, the house %d, %v", shard, i.Clock, i.Quotas, len(s.Pages), whole.Clock, whole.Quotas)
		}
		for _, k := range i.Items {
			if at, _ := code.Shard(k.Tenant, k.Item.Key, len(h.state.shards)); at != shard {
				t.Fatalf("%v of shard %d stands in shard %d", k, at, shard)
			}
		}
	}
}

// P13.3, P13.7, W6: all shards have one clock and the same quotas, as all do such a ticket at once; an item is in its name's shard.
func TestShardsAreOfOneMind(t *testing.T) {
	for n := 1; n <= api.MaxShards; n++ {
		r := rand.New(rand.NewSource(int64(n)))
		for range 20 {
			h, f := New(n, 4, []int{2, 1}, 3)
			if f != api.OK || len(h.state.shards) != n {
				t.Fatal(f)
			}
			for range 80 {
				if r.Intn(2) == 0 {
					h.Put(anyTicket(r))
				}
				h.Step(r.Intn(n))
				checkShards(t, h)
			}
			i, _ := h.Image()
			again, f := Load(n, 4, i)
			if f != api.OK {
				t.Fatal(f)
			}
			checkShards(t, again)
		}
	}
}

// What is done leaves the inboxes: nothing of it is kept.
func TestNothingIsKeptOfWhatIsDone(t *testing.T) {
	r := rand.New(rand.NewSource(142))
	h, _ := New(4, 4, []int{2, 1}, 0)
	for range 100 {
		h.Put(anyTicket(r))
	}
	for many := 100; many > 0; many-- {
		ready, _ := h.Ready()
		if _, _, _, f := h.Step(ready[0]); f != api.OK {
			t.Fatal(f)
		}
	}
	for shard, box := range h.state.boxes.Boxes {
		if len(box) != 0 {
			t.Errorf("shard %d still has %v", shard, box)
		}
	}
	if h.state.boxes.Next != 100 {
		t.Error(h.state.boxes.Next)
	}
}
