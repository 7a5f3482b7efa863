package order

import (
	"slices"

	"cloakroom/api"
	"cloakroom/code"
)

// Shards are those that a command needs, rising.
func Shards(c api.Command, n int) ([]int, api.Errno) {
	if e := Check(c); e != api.OK {
		return nil, e
	}
	if n < 1 || n > api.MaxShards {
		return nil, api.ErrArg
	}
	var l []int
	for shard := range n {
		if needs(c, shard, n) {
			l = append(l, shard)
		}
	}
	return l, api.OK
}

// Part is what one of a command's shards does of it.
func Part(c api.Command, shard, n int) (api.Command, api.Errno) {
	l, e := Shards(c, n)
	if e != api.OK {
		return api.Command{}, e
	}
	if !slices.Contains(l, shard) {
		return api.Command{}, api.ErrArg
	}
	// The rest of a command has no memory of its own: but for its keys a copy is new.
	c.Keys = slices.DeleteFunc(slices.Clone(c.Keys), func(key string) bool {
		return home(c.Tenant, key, n) != shard
	})
	return c, api.OK
}

// needs tells whether a shard is one of a command's; a flush, which has no key, needs each.
func needs(c api.Command, shard, n int) bool {
	return c.Kind == api.CmdFlush || slices.ContainsFunc(c.Keys, func(key string) bool {
		return home(c.Tenant, key, n) == shard
	})
}

// home is the shard of a key. It is asked of commands that may be, and of an n that may be, alone: so it is never refused.
func home(tenant int, key string, n int) int {
	shard, _ := code.Shard(tenant, key, n)
	return shard
}
