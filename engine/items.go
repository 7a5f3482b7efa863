package engine

import (
	"slices"

	"cloakroom/api"
	"cloakroom/item"
	"cloakroom/slab"
)

// mostChunks is how many chunks a page has at most. A place is the number of a chunk among all of a shard; it counts so many for each page, whatever the page's class is.
const mostChunks = 1 << (api.Classes - 1)

// items are what stands in the chunks, by their places, and those that are used in the order in which they were put last.
type items struct {
	kept []api.Kept
	row  []int
}

func newItems(pages int) *items {
	return &items{kept: make([]api.Kept, pages*mostChunks)}
}

// put says what stands at a place; it is the last then, be it there already or not.
func (i *items) put(place int, k api.Kept) {
	i.drop(place)
	i.kept[place] = k
	i.row = append(i.row, place)
}

// drop empties a place. What stood there is cleared, so that its texts are not kept.
func (i *items) drop(place int) {
	i.kept[place] = api.Kept{}
	if at := slices.Index(i.row, place); at >= 0 {
		i.row = slices.Delete(i.row, at, at+1)
	}
}

func (i *items) all() []api.Kept {
	l := make([]api.Kept, 0, len(i.row))
	for _, place := range i.row {
		l = append(l, i.kept[place])
	}
	return l
}

// ofTenant is the places of a tenant's items, as a list of its own: they may be dropped while it is gone through.
func (i *items) ofTenant(tenant int) []int {
	return slices.DeleteFunc(slices.Clone(i.row), func(place int) bool { return i.kept[place].Tenant != tenant })
}

func placeOf(page, chunk int) int {
	return page*mostChunks + chunk
}

func chunkAt(place int) (page, chunk int) {
	return place / mostChunks, place % mostChunks
}

func nameOf(k api.Kept) api.Name {
	return api.Name{Tenant: k.Tenant, Key: k.Item.Key}
}

// classOf is the class of chunks that an item needs; there is none for one that may not be, or that is too large.
func classOf(x api.Item) (class int, fits bool) {
	size, f := item.Size(x)
	if f != api.OK {
		return 0, false
	}
	class, f = slab.Class(size)
	return class, f == api.OK
}
