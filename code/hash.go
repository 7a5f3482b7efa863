package code

import "cloakroom/api"

const (
	hashBegin = 14695981039346656037
	hashTimes = 1099511628211
)

// Hash is a text's hash.
func Hash(s string) uint64 {
	return hashOn(hashBegin, s)
}

// hashOn goes by bytes, not by runes: a key may have any bytes.
func hashOn(h uint64, s string) uint64 {
	for i := range len(s) {
		h = (h ^ uint64(s[i])) * hashTimes
	}
	return h
}

// Shard is the shard of a tenant's key, out of n.
func Shard(tenant int, key string, n int) (int, api.Errno) {
	switch {
	case !tenantMayBe(tenant):
		return 0, api.ErrArg
	case !keyMayBe(key):
		return 0, api.ErrText
	case n < 1 || n > api.MaxShards:
		return 0, api.ErrArg
	}
	h := hashOn(Hash(string([]byte{byte(tenant)})), key)
	return int(h % uint64(n)), api.OK
}
