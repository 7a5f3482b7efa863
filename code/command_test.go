package code_test

import (
	"bytes"
	"math/rand"
	"reflect"
	"slices"
	"testing"

	"cloakroom/api"
	"cloakroom/code"
)

func sameCommand(a, b api.Command) bool {
	keys := slices.Equal(a.Keys, b.Keys)
	a.Keys, b.Keys = nil, nil
	return keys && reflect.DeepEqual(a, b)
}

func checkCommand(t *testing.T, c api.Command, want []byte) {
	t.Helper()
	b, e := code.Command(c)
	if e != api.OK || !bytes.Equal(b, want) {
		t.Errorf("%.200v: %d, %.200v; want %.200v", c, e, b, want)
	}
	back, e := code.OfCommand(want)
	if e != api.OK || !sameCommand(back, c) {
		t.Errorf("%.200v: %d, %.200v; want %.200v", want, e, back, c)
	}
}

func fullCommand(kind uint8) api.Command {
	keys := make([]string, api.MaxKeys)
	for i := range keys {
		keys[i] = anyBytes()[i*32 : i*32+32]
	}
	return api.Command{Kind: kind, Tenant: 3, Keys: keys, Value: anyBytes() + anyBytes(), Flags: 1<<32 - 1, For: api.MaxClock, Unique: top, By: top}
}

func bytesOfFull(kind uint8) []byte {
	c := fullCommand(kind)
	b := lay(kind, 3, api.MaxKeys)
	for _, key := range c.Keys {
		b = append(b, lay(key)...)
	}
	return append(b, lay(c.Value, 1<<32-1, 1<<40, top, top)...)
}

// P1.4, W7
func TestCommandsOfEachKindThereAndBack(t *testing.T) {
	checkCommand(t, api.Command{Kind: api.CmdGet, Tenant: 1, Keys: []string{"a", "b"}}, []byte{1, 1, 2, 1, 97, 1, 98, 0, 0, 0, 0, 0})
	checkCommand(t, api.Command{Kind: api.CmdCas, Tenant: 2, Keys: []string{"k"}, Value: "v", Flags: 300, For: 128, Unique: 9, By: 7}, []byte{5, 2, 1, 1, 'k', 1, 'v', 172, 2, 128, 1, 9, 7})
	checkCommand(t, api.Command{Kind: api.CmdFlush}, []byte{11, 0, 0, 0, 0, 0, 0, 0})
	for kind := api.CmdGet; kind <= api.CmdFlush; kind++ {
		checkCommand(t, api.Command{Kind: kind}, []byte{kind, 0, 0, 0, 0, 0, 0, 0})
		checkCommand(t, api.Command{Kind: kind, Keys: []string{}}, []byte{kind, 0, 0, 0, 0, 0, 0, 0})
		checkCommand(t, api.Command{Kind: kind, Keys: []string{"a", "a"}}, lay(kind, 0, 2, "a", "a", "", 0, 0, 0, 0))
		checkCommand(t, api.Command{Kind: kind, Tenant: 1, Keys: []string{"\x00", long(32)}, Value: "w", By: 300}, lay(kind, 1, 2, "\x00", long(32), "w", 0, 0, 0, 300))
		checkCommand(t, fullCommand(kind), bytesOfFull(kind))
	}
}

// P1.4: each by one field beyond its limit, with the bytes that it would have.
func TestCommandRefusesWhatHasNoShape(t *testing.T) {
	key33, value513 := long(33), long(513)
	nine := slices.Repeat([]string{"k"}, 9)
	var nineKeys []byte
	for range nine {
		nineKeys = append(nineKeys, 1, 'k')
	}
	for what, w := range map[string]struct {
		c api.Command
		b []byte
	}{
		"no kind":           {api.Command{}, lay(byte(0), 0, 0, "", 0, 0, 0, 0)},
		"kind 12":           {api.Command{Kind: 12}, lay(byte(12), 0, 0, "", 0, 0, 0, 0)},
		"kind 255":          {api.Command{Kind: 255}, lay(byte(255), 0, 0, "", 0, 0, 0, 0)},
		"tenant 4":          {api.Command{Kind: 1, Tenant: 4}, lay(byte(1), 4, 0, "", 0, 0, 0, 0)},
		"tenant -1":         {api.Command{Kind: 1, Tenant: -1}, lay(byte(1), top, 0, "", 0, 0, 0, 0)},
		"tenant 256":        {api.Command{Kind: 1, Tenant: 256}, lay(byte(1), 256, 0, "", 0, 0, 0, 0)},
		"nine keys":         {api.Command{Kind: 1, Keys: nine}, lay(byte(1), 0, 9, nineKeys, "", 0, 0, 0, 0)},
		"an empty key":      {api.Command{Kind: 1, Keys: []string{""}}, lay(byte(1), 0, 1, "", "", 0, 0, 0, 0)},
		"a last empty key":  {api.Command{Kind: 1, Keys: []string{"a", "b", ""}}, lay(byte(1), 0, 3, "a", "b", "", "", 0, 0, 0, 0)},
		"a first empty key": {api.Command{Kind: 1, Keys: []string{"", "b"}}, lay(byte(1), 0, 2, "", "b", "", 0, 0, 0, 0)},
		"a key of 33":       {api.Command{Kind: 1, Keys: []string{"a", key33}}, lay(byte(1), 0, 2, "a", key33, "", 0, 0, 0, 0)},
		"a value of 513":    {api.Command{Kind: 2, Keys: []string{"a"}, Value: value513}, lay(byte(2), 0, 1, "a", value513, 0, 0, 0, 0)},
		"for too long":      {api.Command{Kind: 1, For: 1<<40 + 1}, lay(byte(1), 0, 0, "", 0, 1<<40+1, 0, 0)},
		"for -1":            {api.Command{Kind: 1, For: -1}, lay(byte(1), 0, 0, "", 0, top, 0, 0)},
		"for at the bottom": {api.Command{Kind: 1, For: -1 << 63}, lay(byte(1), 0, 0, "", 0, uint64(1)<<63, 0, 0)},
	} {
		b, e := code.Command(w.c)
		checkErrno(t, what, e, api.ErrBad, b)
		c, e := code.OfCommand(w.b)
		checkErrno(t, what+", read", e, api.ErrBad, c)
	}
}

// P1.4, P1.6: broken off anywhere, or with more behind, it is refused.
func TestOfCommandRefusesPiecesAndMore(t *testing.T) {
	for _, whole := range [][]byte{
		bytesOfFull(api.CmdSet),
		{1, 1, 2, 1, 97, 1, 98, 0, 0, 0, 0, 0},
		{11, 0, 0, 0, 0, 0, 0, 0},
	} {
		for i := range whole {
			c, e := code.OfCommand(whole[:i])
			checkErrno(t, whole[:i], e, api.ErrBad, c)
		}
		for _, behind := range [][]byte{{0}, {1}, {255}, whole, make([]byte, 1<<17)} {
			c, e := code.OfCommand(append(slices.Clone(whole), behind...))
			checkErrno(t, "more behind", e, api.ErrBad, c)
		}
	}
}

// P1.4, P1.6: each thing has one form alone.
func TestOfCommandRefusesOtherForms(t *testing.T) {
	beyond := []byte{128, 128, 128, 128, 128, 128, 128, 128, 128, 2}
	for what, b := range map[string][]byte{
		"nothing":               nil,
		"tenant in two bytes":   {1, 129, 0, 0, 0, 0, 0, 0, 0},
		"count in two":          {1, 0, 129, 0, 1, 'k', 0, 0, 0, 0, 0},
		"key's length in two":   {1, 0, 1, 129, 0, 'k', 0, 0, 0, 0, 0},
		"value's length in two": {1, 0, 0, 128, 0, 0, 0, 0, 0},
		"flags in two":          {1, 0, 0, 0, 128, 0, 0, 0, 0},
		"for in two":            {1, 0, 0, 0, 0, 128, 0, 0, 0},
		"unique in two":         {1, 0, 0, 0, 0, 0, 128, 0, 0},
		"by in two":             {1, 0, 0, 0, 0, 0, 0, 128, 0},
		"tenant of 2^32":        lay(byte(1), 1<<32, 0, "", 0, 0, 0, 0),
		"tenant of 2^63":        lay(byte(1), uint64(1)<<63, 0, "", 0, 0, 0, 0),
		"flags of 2^32":         lay(byte(1), 0, 0, "", 1<<32, 0, 0, 0),
		"flags of 2^64 - 1":     lay(byte(1), 0, 0, "", top, 0, 0, 0),
		"unique of 2^64":        lay(byte(1), 0, 0, "", 0, 0, beyond, 0),
		"by of 2^64":            lay(byte(1), 0, 0, "", 0, 0, 0, beyond),
		"more keys than bytes":  lay(byte(1), 0, 8, "k", "", 0, 0, 0, 0),
		"fewer keys than bytes": lay(byte(1), 0, 1, "k", "l", "", 0, 0, 0, 0),
		"2^64 - 1 keys":         lay(byte(1), 0, top, "k", "", 0, 0, 0, 0),
		"key longer than all":   lay(byte(1), 0, 1, top, "", 0, 0, 0, 0),
		"value longer than all": lay(byte(1), 0, 0, top, 0, 0, 0, 0),
		"rubbish":               bytes.Repeat([]byte{255}, 1<<20),
		"text instead of bytes": []byte("get a b"),
	} {
		c, e := code.OfCommand(b)
		checkErrno(t, what, e, api.ErrBad, c)
	}
}

func randomCommand(r *rand.Rand) api.Command {
	c := api.Command{
		Kind:   uint8(1 + r.Intn(11)),
		Tenant: r.Intn(4),
		Value:  randomText(r, 0, 1<<r.Intn(10)),
		Flags:  uint32(randomNumber(r, 32)),
		For:    int(randomNumber(r, 40)),
		Unique: randomNumber(r, 64),
		By:     randomNumber(r, 64),
	}
	for range r.Intn(api.MaxKeys + 1) {
		c.Keys = append(c.Keys, randomText(r, 1, api.MaxKey))
	}
	return c
}

// P1.6, W7: all that has a shape comes back, and what is read would be written the same.
func TestCommandsOfAnyShapeThereAndBack(t *testing.T) {
	r := rand.New(rand.NewSource(2))
	for range 2000 {
		c := randomCommand(r)
		b, e := code.Command(c)
		if e != api.OK {
			t.Fatal(e, c)
		}
		checkCommand(t, c, b)
		for range 10 {
			checkOneCommand(t, spoil(r, b))
		}
	}
}

func checkOneCommand(t *testing.T, b []byte) {
	t.Helper()
	c, e := code.OfCommand(b)
	if e == api.ErrBad {
		return
	}
	if again, e := code.Command(c); e != api.OK || !bytes.Equal(again, b) {
		t.Fatalf("%v is read as %v, which has the bytes %v", b, c, again)
	}
}

func FuzzOfCommand(f *testing.F) {
	f.Add(bytesOfFull(api.CmdSet))
	f.Add([]byte{1, 1, 2, 1, 97, 1, 98, 0, 0, 0, 0, 0})
	f.Fuzz(func(t *testing.T, b []byte) { checkOneCommand(t, b) })
}

// P1.5
func TestCommandsAreNewMemory(t *testing.T) {
	c := fullCommand(api.CmdSet)
	c.Keys = append(make([]string, 0, 16), c.Keys...)
	keys := slices.Clone(c.Keys[:cap(c.Keys)])
	b, _ := code.Command(c)
	other, _ := code.Command(c)
	if !slices.Equal(c.Keys[:cap(c.Keys)], keys) || !sameCommand(c, fullCommand(api.CmdSet)) {
		t.Error("Command turned what was handed in")
	}
	clear(other)
	clear(c.Keys)
	if !bytes.Equal(b, bytesOfFull(api.CmdSet)) {
		t.Error("what Command answered turns with what was handed in, or with another answer")
	}
	handed := append(make([]byte, 0, 2*len(b)), b...)
	room := bytes.Clone(handed[:cap(handed)])
	back, _ := code.OfCommand(handed)
	second, _ := code.OfCommand(handed)
	if !bytes.Equal(handed[:cap(handed)], room) {
		t.Error("OfCommand turned what was handed in")
	}
	clear(handed)
	clear(second.Keys)
	if !sameCommand(back, fullCommand(api.CmdSet)) {
		t.Error("what OfCommand answered turns with what was handed in, or with another answer")
	}
}
