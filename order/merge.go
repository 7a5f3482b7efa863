package order

import (
	"slices"

	"cloakroom/api"
)

// Merge puts the results of a command's parts together: one of each of its shards, in their order.
func Merge(c api.Command, n int, l []api.Result) (api.Result, api.Errno) {
	shards, e := Shards(c, n)
	if e != api.OK {
		return api.Result{}, e
	}
	if len(l) != len(shards) {
		return api.Result{}, api.ErrMany
	}
	// A refused one is asked for first: whatever else stands in it, or beside it, is not told.
	if slices.ContainsFunc(l, isRefused) {
		return api.Result{Kind: api.ResRefused}, api.OK
	}
	if len(l) == 1 {
		only := l[0]
		only.Items = slices.Clone(only.Items)
		return only, api.OK
	}
	switch c.Kind {
	case api.CmdGet:
		return api.Result{Kind: api.ResDone, Items: found(c, n, shards, l)}, api.OK
	case api.CmdDelete:
		return deleted(l), api.OK
	}
	return api.Result{Kind: api.ResDone}, api.OK
}

func isRefused(r api.Result) bool {
	return r.Kind == api.ResRefused
}

// found are the items of a command's keys, in the keys' order. Of each key its own shard alone is asked: what another one has of it counts for nothing.
func found(c api.Command, n int, shards []int, l []api.Result) []api.Item {
	var items []api.Item
	for _, key := range c.Keys {
		place := slices.Index(shards, home(c.Tenant, key, n))
		for _, x := range l[place].Items {
			if x.Key == key {
				items = append(items, x)
				break
			}
		}
	}
	return items
}

func deleted(l []api.Result) api.Result {
	sum := uint64(0)
	for _, r := range l {
		sum += r.Number
	}
	if sum == 0 {
		return api.Result{Kind: api.ResNone}
	}
	return api.Result{Kind: api.ResDone, Number: sum}
}
