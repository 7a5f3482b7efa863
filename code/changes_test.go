package code_test

import (
	"bytes"
	"fmt"
	"math/rand"
	"slices"
	"testing"

	"cloakroom/api"
	"cloakroom/code"
)

func put(tenant int, x api.Item) api.Change {
	return api.Change{Kind: api.ChPut, Tenant: tenant, Item: x}
}

func drop(tenant int, key string, why uint8) api.Change {
	return api.Change{Kind: api.ChDrop, Tenant: tenant, Key: key, Why: why}
}

// laid is a change, and the bytes that its row tells.
type laid struct {
	c api.Change
	b []byte
}

// written is changes that may be, of all kinds and at all limits.
func written() []laid {
	fullKey, fullValue := anyBytes()[224:], anyBytes()+anyBytes()
	return []laid{
		{put(0, api.Item{Key: "k"}), []byte{1, 0, 1, 'k', 0, 0, 0, 0}},
		{put(1, api.Item{Key: "k", Value: "vw", Flags: 300, Until: 5, Unique: 128}), []byte{1, 1, 1, 'k', 2, 'v', 'w', 172, 2, 5, 128, 1}},
		{put(3, api.Item{Key: fullKey, Value: fullValue, Flags: 1<<32 - 1, Until: api.MaxClock, Unique: top}), lay(byte(1), 3, fullKey, fullValue, 1<<32-1, 1<<40, top)},
		{put(2, api.Item{Key: "\x00", Value: "\x00", Flags: 1, Until: 1, Unique: 1}), []byte{1, 2, 1, 0, 1, 0, 1, 1, 1}},
		{drop(0, "k", api.WhyDeleted), []byte{2, 0, 1, 'k', 1}},
		{drop(1, "k", api.WhyEvicted), []byte{2, 1, 1, 'k', 2}},
		{drop(3, fullKey, api.WhyEvicted), lay(byte(2), 3, fullKey, byte(2))},
		{api.Change{Kind: api.ChClear}, []byte{3, 0}},
		{api.Change{Kind: api.ChClear, Tenant: 3}, []byte{3, 3}},
		{api.Change{Kind: api.ChClock}, []byte{4, 0}},
		{api.Change{Kind: api.ChClock, To: 5}, []byte{4, 5}},
		{api.Change{Kind: api.ChClock, To: api.MaxClock}, lay(byte(4), 1<<40)},
		{api.Change{Kind: api.ChQuota}, []byte{5, 0, 0}},
		{api.Change{Kind: api.ChQuota, Tenant: 3, To: 16}, []byte{5, 3, 16}},
		{api.Change{Kind: api.ChTerm}, []byte{6, 0, 0}},
		{api.Change{Kind: api.ChTerm, Primary: true}, []byte{6, 0, 1}},
		{api.Change{Kind: api.ChTerm, To: 1<<31 - 1, Primary: true}, lay(byte(6), 1<<31-1, byte(1))},
		{api.Change{Kind: api.ChTerm, To: 300}, []byte{6, 172, 2, 0}},
		{api.Change{Kind: api.ChNumber}, []byte{7, 0}},
		{api.Change{Kind: api.ChNumber, To: 1<<31 - 1}, lay(byte(7), 1<<31-1)},
	}
}

// P1.3, W7
func TestChangesOfEachKindThereAndBack(t *testing.T) {
	var all []api.Change
	var body []byte
	for _, w := range written() {
		all, body = append(all, w.c), append(body, w.b...)
		checkThereAndBack(t, []api.Change{w.c}, lay(1, w.b))
		checkThereAndBack(t, []api.Change{w.c, w.c}, lay(2, w.b, w.b))
	}
	checkThereAndBack(t, all, lay(len(all), body))
	checkThereAndBack(t, nil, []byte{0})
	checkThereAndBack(t, []api.Change{}, []byte{0})
	example := []api.Change{drop(1, "k", api.WhyEvicted), {Kind: api.ChClock, To: 5}}
	checkThereAndBack(t, example, []byte{2, 2, 1, 1, 107, 2, 4, 5})
}

func checkThereAndBack(t *testing.T, l []api.Change, want []byte) {
	t.Helper()
	b, e := code.Changes(l)
	if e != api.OK || !bytes.Equal(b, want) {
		t.Errorf("%.200v: %d, %.200v; want %.200v", l, e, b, want)
	}
	back, e := code.OfChanges(want)
	if e != api.OK || !slices.Equal(back, l) {
		t.Errorf("%.200v: %d, %.200v; want %.200v", want, e, back, l)
	}
}

// refused is changes that may not be, each by one field beyond its limit, with the bytes that they would have.
func refused() map[string]laid {
	key33, value513 := long(33), long(513)
	return map[string]laid{
		"no kind":             {api.Change{}, []byte{0}},
		"kind 8":              {api.Change{Kind: 8}, []byte{8}},
		"kind 8 with fields":  {api.Change{Kind: 8, To: 1}, []byte{8, 1}},
		"kind 255":            {api.Change{Kind: 255}, []byte{255}},
		"put, tenant 4":       {put(4, api.Item{Key: "k"}), lay(byte(1), 4, "k", "", 0, 0, 0)},
		"put, tenant -1":      {put(-1, api.Item{Key: "k"}), lay(byte(1), top, "k", "", 0, 0, 0)},
		"put, no key":         {put(0, api.Item{Value: "v"}), lay(byte(1), 0, "", "v", 0, 0, 0)},
		"put, key of 33":      {put(0, api.Item{Key: key33}), lay(byte(1), 0, key33, "", 0, 0, 0)},
		"put, value of 513":   {put(0, api.Item{Key: "k", Value: value513}), lay(byte(1), 0, "k", value513, 0, 0, 0)},
		"put, late until":     {put(0, api.Item{Key: "k", Until: 1<<40 + 1}), lay(byte(1), 0, "k", "", 0, 1<<40+1, 0)},
		"put, until below 0":  {put(0, api.Item{Key: "k", Until: -1}), lay(byte(1), 0, "k", "", 0, top, 0)},
		"drop, tenant 4":      {drop(4, "k", 1), lay(byte(2), 4, "k", byte(1))},
		"drop, no key":        {drop(0, "", 1), lay(byte(2), 0, "", byte(1))},
		"drop, key of 33":     {drop(0, key33, 1), lay(byte(2), 0, key33, byte(1))},
		"drop, why 0":         {drop(0, "k", 0), lay(byte(2), 0, "k", byte(0))},
		"drop, why 3":         {drop(0, "k", 3), lay(byte(2), 0, "k", byte(3))},
		"drop, why 255":       {drop(0, "k", 255), lay(byte(2), 0, "k", byte(255))},
		"clear, tenant 4":     {api.Change{Kind: api.ChClear, Tenant: 4}, lay(byte(3), 4)},
		"clear, tenant -1":    {api.Change{Kind: api.ChClear, Tenant: -1}, lay(byte(3), top)},
		"clock too late":      {api.Change{Kind: api.ChClock, To: 1<<40 + 1}, lay(byte(4), 1<<40+1)},
		"clock below 0":       {api.Change{Kind: api.ChClock, To: -1}, lay(byte(4), top)},
		"clock at the bottom": {api.Change{Kind: api.ChClock, To: -1 << 63}, lay(byte(4), uint64(1)<<63)},
		"quota, tenant 4":     {api.Change{Kind: api.ChQuota, Tenant: 4, To: 1}, lay(byte(5), 4, 1)},
		"quota 17":            {api.Change{Kind: api.ChQuota, To: 17}, lay(byte(5), 0, 17)},
		"quota -1":            {api.Change{Kind: api.ChQuota, To: -1}, lay(byte(5), 0, top)},
		"term too great":      {api.Change{Kind: api.ChTerm, To: 1 << 31}, lay(byte(6), 1<<31, byte(0))},
		"term -1":             {api.Change{Kind: api.ChTerm, To: -1}, lay(byte(6), top, byte(0))},
		"number too great":    {api.Change{Kind: api.ChNumber, To: 1 << 31}, lay(byte(7), 1<<31)},
		"number -1":           {api.Change{Kind: api.ChNumber, To: -1}, lay(byte(7), top)},
	}
}

// P1.3
func TestChangesRefusesFieldsBeyondTheirLimits(t *testing.T) {
	good, clear := api.Change{Kind: api.ChClear}, []byte{3, 0}
	for what, w := range refused() {
		for _, l := range [][]api.Change{{w.c}, {w.c, good}, {good, w.c}} {
			b, e := code.Changes(l)
			checkErrno(t, what, e, api.ErrBad, b)
		}
		for _, b := range [][]byte{lay(1, w.b), lay(2, w.b, clear), lay(2, clear, w.b)} {
			l, e := code.OfChanges(b)
			checkErrno(t, what+", read", e, api.ErrBad, l)
		}
	}
}

// P1.3: a kind may have what its row names, and nothing else.
func TestChangesRefusesFieldsThatTheRowDoesNotName(t *testing.T) {
	least := map[uint8]api.Change{
		api.ChPut:    put(0, api.Item{Key: "k"}),
		api.ChDrop:   drop(0, "k", 1),
		api.ChClear:  {Kind: api.ChClear},
		api.ChClock:  {Kind: api.ChClock},
		api.ChQuota:  {Kind: api.ChQuota},
		api.ChTerm:   {Kind: api.ChTerm},
		api.ChNumber: {Kind: api.ChNumber},
	}
	item := []uint8{api.ChPut}
	for _, f := range []struct {
		what  string
		set   func(c *api.Change)
		named []uint8
	}{
		{"Tenant", func(c *api.Change) { c.Tenant = 1 }, []uint8{api.ChPut, api.ChDrop, api.ChClear, api.ChQuota}},
		{"Item.Key", func(c *api.Change) { c.Item.Key = "i" }, item},
		{"Item.Value", func(c *api.Change) { c.Item.Value = "v" }, item},
		{"Item.Flags", func(c *api.Change) { c.Item.Flags = 1 }, item},
		{"Item.Until", func(c *api.Change) { c.Item.Until = 1 }, item},
		{"Item.Unique", func(c *api.Change) { c.Item.Unique = 1 }, item},
		{"Key", func(c *api.Change) { c.Key = "l" }, []uint8{api.ChDrop}},
		{"Why", func(c *api.Change) { c.Why = 2 }, []uint8{api.ChDrop}},
		{"To", func(c *api.Change) { c.To = 1 }, []uint8{api.ChClock, api.ChQuota, api.ChTerm, api.ChNumber}},
		{"To below 0", func(c *api.Change) { c.To = -1 }, nil},
		{"Primary", func(c *api.Change) { c.Primary = true }, []uint8{api.ChTerm}},
	} {
		for kind, c := range least {
			f.set(&c)
			want := api.ErrBad
			if slices.Contains(f.named, kind) {
				want = api.OK
			}
			b, e := code.Changes([]api.Change{c})
			checkErrno(t, fmt.Sprintf("kind %d, %s", kind, f.what), e, want, b)
		}
	}
}

// P1.3
func TestChangesAtMostMaxChanges(t *testing.T) {
	most := make([]api.Change, api.MaxChanges)
	for i := range most {
		most[i] = api.Change{Kind: api.ChClear, Tenant: i % api.MaxTenants}
	}
	body := func(n int) []byte {
		b := lay(n)
		for i := range n {
			b = append(b, 3, byte(i%api.MaxTenants))
		}
		return b
	}
	checkThereAndBack(t, most, body(api.MaxChanges))
	b, e := code.Changes(append(most, api.Change{Kind: api.ChClear}))
	checkErrno(t, "one more than MaxChanges", e, api.ErrMany, b)
	l, e := code.OfChanges(body(api.MaxChanges + 1))
	checkErrno(t, "bytes of one more than MaxChanges", e, api.ErrBad, l)
}

// ofBytes is changes that have so many bytes, from MaxRecord - 100 to MaxRecord + 100.
func ofBytes(n int) []api.Change {
	var l []api.Change
	for range 125 {
		l = append(l, put(1, api.Item{Key: "k", Value: long(512)})) // 521 bytes each
	}
	left := n - 1 - 125*521 - 9
	return append(l, put(1, api.Item{Key: "k", Value: long(left)}))
}

// P1.3
func TestChangesAtMostMaxRecordBytes(t *testing.T) {
	most := ofBytes(api.MaxRecord)
	b, e := code.Changes(most)
	if e != api.OK || len(b) != api.MaxRecord {
		t.Fatal(len(b), e)
	}
	checkThereAndBack(t, most, b)
	over := ofBytes(api.MaxRecord + 1)
	none, e := code.Changes(over)
	checkErrno(t, "one byte more than MaxRecord", e, api.ErrText, none)
	l, e := code.OfChanges(append(b, 0))
	checkErrno(t, "one byte behind MaxRecord bytes", e, api.ErrText, l)
}

// P1.3: many ahead of bad, bad ahead of long; read, long ahead of bad.
func TestChangesTellsTheFirstErrorFirst(t *testing.T) {
	long := ofBytes(api.MaxRecord + 1)
	bad := api.Change{Kind: 8}
	many := slices.Repeat([]api.Change{put(0, api.Item{Key: "k", Value: "a value of some bytes"})}, api.MaxChanges+1)
	for what, c := range map[string]struct {
		l    []api.Change
		want api.Errno
	}{
		"too many, all bad":           {make([]api.Change, api.MaxChanges+1), api.ErrMany},
		"too many, too long":          {many, api.ErrMany},
		"too many, too long, one bad": {append([]api.Change{bad}, many...), api.ErrMany},
		"too long":                    {many[1:], api.ErrText},
		"too long, the last bad":      {append(slices.Clone(long), bad), api.ErrBad},
		"too long, the first bad":     {append([]api.Change{bad}, long...), api.ErrBad},
		"as many as may be, all bad":  {make([]api.Change, api.MaxChanges), api.ErrBad},
	} {
		b, e := code.Changes(c.l)
		checkErrno(t, what, e, c.want, b)
	}
	for n, want := range map[int]api.Errno{api.MaxRecord: api.ErrBad, api.MaxRecord + 1: api.ErrText, api.MaxRecord * 4: api.ErrText} {
		for _, x := range []byte{0, 3, 255} {
			l, e := code.OfChanges(bytes.Repeat([]byte{x}, n))
			checkErrno(t, n, e, want, l)
		}
	}
}

// P1.3, P1.6: broken off anywhere, or with more behind, it is refused.
func TestOfChangesRefusesPiecesAndMore(t *testing.T) {
	for _, w := range written() {
		whole := lay(2, w.b, w.b)
		for i := range whole {
			l, e := code.OfChanges(whole[:i])
			checkErrno(t, whole[:i], e, api.ErrBad, l)
		}
		for _, behind := range [][]byte{{0}, {1}, {255}, w.b} {
			l, e := code.OfChanges(append(slices.Clone(whole), behind...))
			checkErrno(t, w.c.Kind, e, api.ErrBad, l)
		}
		for _, n := range []any{0, 1, 3, api.MaxChanges, api.MaxChanges + 1, uint64(1) << 63, top} {
			l, e := code.OfChanges(lay(n, w.b, w.b))
			checkErrno(t, n, e, api.ErrBad, l)
		}
	}
}

// P1.3, P1.6: each thing has one form alone.
func TestOfChangesRefusesOtherForms(t *testing.T) {
	for what, b := range map[string][]byte{
		"nothing":               nil,
		"count in two bytes":    {129, 0, 3, 0},
		"none in two bytes":     {128, 0},
		"count of 2^64":         {128, 128, 128, 128, 128, 128, 128, 128, 128, 2},
		"tenant in two bytes":   {1, 3, 129, 0},
		"key's length in two":   {1, 2, 0, 129, 0, 'k', 1},
		"value's length in two": {1, 1, 0, 1, 'k', 128, 0, 0, 0, 0},
		"flags in two":          {1, 1, 0, 1, 'k', 0, 128, 0, 0, 0},
		"until in two":          {1, 1, 0, 1, 'k', 0, 0, 128, 0, 0},
		"unique in two":         {1, 1, 0, 1, 'k', 0, 0, 0, 128, 0},
		"to in two":             {1, 4, 133, 0},
		"flags of 2^32":         lay(1, byte(1), 0, "k", "", 1<<32, 0, 0),
		"flags of 2^32 + 1":     lay(1, byte(1), 0, "k", "", 1<<32+1, 0, 0),
		"unique of 2^64":        lay(1, byte(1), 0, "k", "", 0, 0, []byte{128, 128, 128, 128, 128, 128, 128, 128, 128, 2}),
		"primary 2":             {1, 6, 0, 2},
		"primary 128 0":         {1, 6, 0, 128, 0},
		"primary 255":           {1, 6, 0, 255},
		"tenant of 2^32":        lay(1, byte(3), 1<<32),
		"tenant of 2^63":        lay(1, byte(3), uint64(1)<<63),
		"to of 2^32":            lay(1, byte(7), 1<<32),
		"to of 2^63":            lay(1, byte(7), uint64(1)<<63),
		"to of 2^64":            lay(1, byte(7), []byte{128, 128, 128, 128, 128, 128, 128, 128, 128, 2}),
		"key longer than all":   lay(1, byte(2), 0, top, byte(1)),
		"text instead of bytes": []byte("2 1 1 107"),
	} {
		l, e := code.OfChanges(b)
		checkErrno(t, what, e, api.ErrBad, l)
	}
}

func randomItem(r *rand.Rand) api.Item {
	return api.Item{
		Key:    randomText(r, 1, api.MaxKey),
		Value:  randomText(r, 0, 1<<r.Intn(10)),
		Flags:  uint32(randomNumber(r, 32)),
		Until:  int(randomNumber(r, 40)),
		Unique: randomNumber(r, 64),
	}
}

func randomChange(r *rand.Rand) api.Change {
	c := api.Change{Kind: uint8(1 + r.Intn(7))}
	switch c.Kind {
	case api.ChPut:
		c.Tenant, c.Item = r.Intn(4), randomItem(r)
	case api.ChDrop:
		c.Tenant, c.Key, c.Why = r.Intn(4), randomText(r, 1, api.MaxKey), uint8(1+r.Intn(2))
	case api.ChClear:
		c.Tenant = r.Intn(4)
	case api.ChClock:
		c.To = int(randomNumber(r, 40))
	case api.ChQuota:
		c.Tenant, c.To = r.Intn(4), r.Intn(17)
	case api.ChTerm:
		c.To, c.Primary = int(randomNumber(r, 31)), r.Intn(2) == 1
	case api.ChNumber:
		c.To = int(randomNumber(r, 31))
	}
	return c
}

// P1.6, W7: all that may be comes back, and what is read would be written the same.
func TestChangesOfAnyKindThereAndBack(t *testing.T) {
	r := rand.New(rand.NewSource(1))
	for range 2000 {
		l := make([]api.Change, r.Intn(6))
		for i := range l {
			l[i] = randomChange(r)
		}
		b, e := code.Changes(l)
		if e != api.OK {
			t.Fatal(e, l)
		}
		checkThereAndBack(t, l, b)
		for range 10 {
			checkOneForm(t, spoil(r, b))
		}
	}
}

func checkOneForm(t *testing.T, b []byte) {
	t.Helper()
	l, e := code.OfChanges(b)
	if e == api.ErrBad {
		return
	}
	if again, e := code.Changes(l); e != api.OK || !bytes.Equal(again, b) {
		t.Fatalf("%v is read as %v, which has the bytes %v", b, l, again)
	}
}

func FuzzOfChanges(f *testing.F) {
	for _, w := range written() {
		f.Add(lay(1, w.b))
	}
	f.Fuzz(func(t *testing.T, b []byte) {
		if len(b) <= api.MaxRecord {
			checkOneForm(t, b)
		}
	})
}

// P1.5
func TestChangesAreNewMemory(t *testing.T) {
	var l []api.Change
	for _, w := range written() {
		l = append(l, w.c)
	}
	before := slices.Clone(l)
	b, _ := code.Changes(l)
	if !slices.Equal(l, before) {
		t.Error("Changes turned what was handed in")
	}
	handed := append(make([]byte, 0, 2*len(b)), b...)
	room := bytes.Clone(handed[:cap(handed)])
	back, _ := code.OfChanges(handed)
	other, _ := code.OfChanges(handed)
	if !bytes.Equal(handed[:cap(handed)], room) {
		t.Error("OfChanges turned what was handed in")
	}
	clear(handed)
	clear(other)
	if !slices.Equal(back, before) {
		t.Error("what OfChanges answered turns with what was handed in, or with another answer")
	}
	again, _ := code.Changes(l)
	clear(b)
	if got, e := code.OfChanges(again); e != api.OK || !slices.Equal(got, before) {
		t.Error("two answers of Changes share memory")
	}
}
