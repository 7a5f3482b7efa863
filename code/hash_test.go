package code_test

import (
	"hash/fnv"
	"testing"

	"cloakroom/api"
	"cloakroom/code"
)

// P1.2
func TestHashIsTheChapters(t *testing.T) {
	if h := code.Hash(""); h != 14695981039346656037 {
		t.Error(h)
	}
	if h := code.Hash("a"); h != 12638187200555641996 {
		t.Error(h)
	}
	for _, s := range someTexts() {
		f := fnv.New64a()
		f.Write([]byte(s))
		if h := code.Hash(s); h != f.Sum64() {
			t.Errorf("hash of %d bytes: %d, want %d", len(s), h, f.Sum64())
		}
	}
}

// P1.6
func TestHashGoesOnByOneByte(t *testing.T) {
	for _, s := range someTexts() {
		h := code.Hash(s)
		for x := range 256 {
			want := (h ^ uint64(x)) * 1099511628211
			if got := code.Hash(s + string([]byte{byte(x)})); got != want {
				t.Fatalf("text of %d bytes and %d behind: %d, want %d", len(s), x, got, want)
			}
		}
	}
}

// P1.2
func TestShardIsWhatIsLeftOfTheHash(t *testing.T) {
	keys := []string{"k", "a", "\x00", "\xff", "é", long(api.MaxKey), anyBytes()[200:232]}
	for tenant := range api.MaxTenants {
		for _, key := range keys {
			f := fnv.New64a()
			f.Write(append([]byte{byte(tenant)}, key...))
			for n := 1; n <= api.MaxShards; n++ {
				want := int(f.Sum64() % uint64(n))
				if x, e := code.Shard(tenant, key, n); x != want || e != api.OK {
					t.Errorf("Shard(%d, %q, %d) = %d, %d; want %d", tenant, key, n, x, e, want)
				}
			}
		}
	}
}

// P1.6
func TestEachKeyHasOneShardBelowN(t *testing.T) {
	for n := 1; n <= api.MaxShards; n++ {
		for tenant := range api.MaxTenants {
			checkShards(t, tenant, n)
		}
	}
}

func checkShards(t *testing.T, tenant, n int) {
	t.Helper()
	used := map[int]int{}
	for i := range 200 {
		key := string([]byte{'k', byte(i)})
		x, e := code.Shard(tenant, key, n)
		if e != api.OK || x < 0 || x >= n {
			t.Fatal(tenant, key, n, x, e)
		}
		if again, _ := code.Shard(tenant, key, n); again != x {
			t.Error("a key with two shards", tenant, key, n, x, again)
		}
		used[x]++
	}
	if len(used) != n {
		t.Error("a shard without keys", tenant, n, used)
	}
}

// P1.2: the first wrong argument from the left tells the error.
func TestShardRefuses(t *testing.T) {
	const most, least = int(^uint(0) >> 1), -int(^uint(0)>>1) - 1
	for _, c := range []struct {
		tenant int
		key    string
		n      int
		want   api.Errno
	}{
		{0, "k", 1, api.OK},
		{3, long(32), 4, api.OK},
		{4, "k", 1, api.ErrArg},
		{-1, "k", 1, api.ErrArg},
		{256, "k", 1, api.ErrArg},
		{most, "k", 1, api.ErrArg},
		{least, "k", 1, api.ErrArg},
		{0, "", 1, api.ErrText},
		{0, long(33), 1, api.ErrText},
		{0, "k", 0, api.ErrArg},
		{0, "k", 5, api.ErrArg},
		{0, "k", -1, api.ErrArg},
		{0, "k", most, api.ErrArg},
		{0, "k", least, api.ErrArg},
		{4, "", 0, api.ErrArg},
		{4, "", 1, api.ErrArg},
		{-1, long(33), 4, api.ErrArg},
		{0, "", 0, api.ErrText},
		{0, long(33), 5, api.ErrText},
	} {
		x, e := code.Shard(c.tenant, c.key, c.n)
		if e != c.want || e != api.OK && x != 0 {
			t.Errorf("Shard(%d, %d bytes, %d) = %d, %d; want %d", c.tenant, len(c.key), c.n, x, e, c.want)
		}
	}
}
