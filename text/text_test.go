package text_test

import (
	"math/rand"
	"slices"
	"strconv"
	"strings"
	"testing"

	"cloakroom/api"
	"cloakroom/text"
)

// P14.1: the chapter's examples.
func TestExamples(t *testing.T) {
	checkNext(t, "get a b\r\n", ask(api.Command{Kind: api.CmdGet, Keys: []string{"a", "b"}}), 9, api.OK)
	checkNext(t, "set a 0 5 2\r\nxy\r\n", ask(api.Command{Kind: api.CmdSet, Keys: []string{"a"}, Value: "xy", For: 5}), 17, api.OK)
	checkNext(t, "set a 0 5 2\r\nx\r\n", api.Request{}, 0, api.OK)
	checkNext(t, "set a 0 5 2\r\nxyz\r\n", bad(true), 17, api.OK)
	for _, line := range []string{"get", "get a a", "get  a", "set a 0 05 2", "user 4 x", "Get a"} {
		checkBad(t, line)
	}
}

// P14.1, P14.3: every line of the table, read and written.
func TestEveryLine(t *testing.T) {
	k := []string{"k"}
	for _, c := range []struct {
		s string
		r api.Request
	}{
		{"get k\r\n", ask(api.Command{Kind: 1, Keys: k})},
		{"get k a z\r\n", ask(api.Command{Kind: 1, Keys: []string{"k", "a", "z"}})},
		{"delete k\r\n", ask(api.Command{Kind: 10, Keys: k})},
		{"delete b a\r\n", ask(api.Command{Kind: 10, Keys: []string{"b", "a"}})},
		{"set k 1 2 3\r\nabc\r\n", ask(api.Command{Kind: 2, Keys: k, Flags: 1, For: 2, Value: "abc"})},
		{"add k 1 2 3\r\nabc\r\n", ask(api.Command{Kind: 3, Keys: k, Flags: 1, For: 2, Value: "abc"})},
		{"replace k 1 2 3\r\nabc\r\n", ask(api.Command{Kind: 4, Keys: k, Flags: 1, For: 2, Value: "abc"})},
		{"cas k 1 2 3 4\r\nabc\r\n", ask(api.Command{Kind: 5, Keys: k, Flags: 1, For: 2, Value: "abc", Unique: 4})},
		{"append k 3\r\nabc\r\n", ask(api.Command{Kind: 8, Keys: k, Value: "abc"})},
		{"incr k 7\r\n", ask(api.Command{Kind: 6, Keys: k, By: 7})},
		{"decr k 7\r\n", ask(api.Command{Kind: 7, Keys: k, By: 7})},
		{"touch k 7\r\n", ask(api.Command{Kind: 9, Keys: k, For: 7})},
		{"flush\r\n", ask(api.Command{Kind: 11})},
		{"user 2 s\r\n", api.Request{Kind: 2, Tenant: 2, Secret: "s"}},
		{"track on\r\n", api.Request{Kind: 3, On: true}},
		{"track off\r\n", api.Request{Kind: 3}},
		{"ping\r\n", api.Request{Kind: 4}},
		{"quit\r\n", api.Request{Kind: 5}},
		{"get get\r\n", ask(api.Command{Kind: 1, Keys: []string{"get"}})},
		{"get 0 1 -1 K k\r\n", ask(api.Command{Kind: 1, Keys: []string{"0", "1", "-1", "K", "k"}})},
		{"user 0 on\r\n", api.Request{Kind: 2, Secret: "on"}},
	} {
		checkRequest(t, c.r, c.s)
	}
	for _, f := range forms() {
		for _, r := range []api.Request{plain(f), rich(f)} {
			s, _ := wantWrite(r)
			checkRequest(t, r, s)
		}
	}
}

// P14.1: a line's end is looked for among the first 514 bytes.
func TestLinesEnd(t *testing.T) {
	for n := range 514 {
		checkNext(t, strings.Repeat("x", n), api.Request{}, 0, api.OK)
		checkNext(t, strings.Repeat("x", max(n-1, 0))+"\r", api.Request{}, 0, api.OK)
		checkBad(t, strings.Repeat("x", min(n, maxLine)))
	}
	for _, n := range []int{514, 515, 516, 600, 1028, 5000, maxText} {
		checkNext(t, strings.Repeat("x", n), bad(true), n, api.OK)
		checkNext(t, strings.Repeat("x", n-1)+"\r", bad(true), n, api.OK)
		checkNext(t, strings.Repeat("x", 513)+strings.Repeat("\r\n", n)[:n-513], bad(true), n, api.OK)
		checkNext(t, strings.Repeat("x", 512)+"\r\n"+strings.Repeat("x", n-514), bad(false), 514, api.OK)
		checkNext(t, strings.Repeat("x", 512)+"\n\r"+strings.Repeat("\r\n", n)[:n-514], bad(true), n, api.OK)
	}
	line := "get " + strings.Repeat("k", maxLine-4)
	checkBad(t, line)
	checkNext(t, line+"k\r\n", bad(true), maxLine+3, api.OK)
	checkNext(t, line+"\r", api.Request{}, 0, api.OK)
	checkNext(t, line+"\rx", bad(true), maxLine+2, api.OK)
}

// P14.1: a 13 or a 10 that stands alone ends nothing.
func TestHalfEnds(t *testing.T) {
	for _, s := range []string{"\r", "\n", "\n\r", "\r\r", "ping\r", "ping\n", "ping\n\r", "ping\r\r", "get a\nping\r"} {
		checkNext(t, s, api.Request{}, 0, api.OK)
		checkAll(t, s, nil, 0, api.OK)
	}
	for _, line := range []string{"", "\r", "\n", "\n\r", "ping\r", "ping\n", "ping\rx", "ping\nping", "\nping", "\rping", "get a\n", "get a\rb", "get a\r", "get\n", "track on\r", "user 1 s\r", "incr a 1\r", "set a 0 0 0\r"} {
		checkBad(t, line)
	}
	checkAll(t, "\r\r\n\n\r\nping\r\n", []api.Request{bad(false), bad(false), {Kind: 4}}, 12, api.OK)
}

// P14.1: words stand between single blanks, in small letters, as many as the line has.
func TestWords(t *testing.T) {
	for _, f := range forms() {
		s, _ := wantWrite(plain(f))
		line, _, _ := strings.Cut(s, "\r\n")
		words := strings.Split(line, " ")
		for i := range words {
			checkBad(t, strings.Join(slices.Insert(slices.Clone(words), i, ""), " "))
			for _, blank := range []string{"\t", "\v", "\f", "\x00", "\u00a0", "\u0085", "\u2003"} {
				checkBad(t, strings.Join(words[:i+1], " ")+blank+strings.Join(words[i+1:], " "))
			}
		}
		for _, wrong := range []string{line + " ", line + "  ", " " + line, "  " + line, "\t" + line, line + "\t"} {
			checkBad(t, wrong)
		}
		for i := range len(f.word) {
			for _, word := range []string{f.word[:i] + strings.ToUpper(f.word[i:i+1]) + f.word[i+1:], f.word[:i] + f.word[i+1:], f.word[:i] + "x" + f.word[i:], f.word[:i]} {
				checkBad(t, word+line[len(f.word):])
			}
		}
		checkBad(t, strings.ToUpper(f.word)+line[len(f.word):])
		checkBad(t, line[len(f.word):])
		for i := range words[1:] {
			checkBad(t, strings.Join(words[:i+1], " "))
		}
		if f.keys < 8 {
			checkBad(t, line+" 1")
			checkBad(t, line+" x")
		}
	}
	for _, line := range []string{" ", "  ", "x", "0", "get", "get ", "delete", "on", "track", "track ON", "track On", "track onoff", "track on off", "track 0", "track 1", "track yes", "track true", "track ", "user", "user 1", "user s 1", "user 1 s s", "flush 0", "flush k", "ping ping", "quit 0", "flushflush", "gets a", "getdelete a", "end", "version", "append k", "append 1", "prepend k 1", "verbosity 1", "flush_all", "flushall", "clear", "login 0 s", "auth 0 s", "stats", "stop", "exit", "bye", "noop", "inc k 1", "incrby k 1", "del k", "remove k", "put k 0 0 0", "store k 0 0 0", "gat 1 k", "mg k"} {
		checkBad(t, line)
	}
}

// withKeys are the lines in which a key stands, with others in its place.
func withKeys(key string) []string {
	return []string{"get " + key, "delete " + key, "get a " + key, "delete " + key + " a", "set " + key + " 0 0 0", "add " + key + " 0 0 0", "replace " + key + " 0 0 0", "cas " + key + " 0 0 0 0", "append " + key + " 0", "incr " + key + " 0", "decr " + key + " 0", "touch " + key + " 0"}
}

// checkIsLine ends the test unless a line has a request: of one with a value of no bytes the end alone stands behind.
func checkIsLine(t *testing.T, line string) {
	t.Helper()
	r, value, is := wantLine(line)
	if !is || value > 0 {
		t.Fatal(short(line))
	}
	s := line + "\r\n"
	if value == 0 {
		s += "\r\n"
	}
	checkRequest(t, r, s)
}

// P14.1: a key has 1 to 32 bytes, each from 33 to 126.
func TestKeys(t *testing.T) {
	for n := 1; n <= maxKey+3; n++ {
		for _, line := range withKeys(strings.Repeat("k", n)) {
			if n <= maxKey {
				checkIsLine(t, line)
			} else {
				checkBad(t, line)
			}
		}
	}
	for c := range 256 {
		b := string([]byte{byte(c)})
		for _, key := range []string{b, "x" + b, b + "x", "x" + b + "x"} {
			for _, line := range withKeys(key) {
				switch {
				case c >= 33 && c <= 126 && line != "get a a" && line != "delete a a":
					checkIsLine(t, line)
				case c != 32:
					checkBad(t, line)
				}
			}
		}
	}
	checkBad(t, "get \u00e9")
	checkBad(t, "get a\x7fb")
	checkBad(t, "set a b 0 0 0")
}

// P14.1: get and delete have from one to eight keys, no two the same; all others one.
func TestHowManyKeys(t *testing.T) {
	for _, word := range []string{"get", "delete"} {
		checkBad(t, word)
		for n := 1; n <= 12; n++ {
			for _, keys := range [][]string{someKeys(n), longKeys(n)} {
				line := word + " " + strings.Join(keys, " ")
				if n > maxKeys {
					checkBad(t, line)
					continue
				}
				checkIsLine(t, line)
				for i := range n {
					checkBad(t, line+" "+keys[i])
					twice := slices.Clone(keys)
					twice[i] = twice[(i+1)%n]
					if n > 1 {
						checkBad(t, word+" "+strings.Join(twice, " "))
					}
				}
			}
		}
		checkIsLine(t, word+" a A aa")
	}
	for _, line := range []string{"set a b 0 0 0", "add a b 0 0 0", "cas a b 0 0 0 0", "append a b 0", "incr a b 0", "decr a b 1", "touch a b 0", "incr 1", "touch 1"} {
		checkBad(t, line)
	}
	checkBad(t, "get"+strings.Repeat(" a", 254))
	checkBad(t, "get"+strings.Repeat(" ", 509))
}

// numbered are lines with a number in one place, and the most that it may be there; those of values are apart.
func numbered() map[string]string {
	return map[string]string{
		"set k # 0 0": "4294967295", "add k # 0 0": "4294967295", "replace k # 0 0": "4294967295", "cas k # 0 0 0": "4294967295",
		"set k 0 # 0": "1099511627776", "add k 0 # 0": "1099511627776", "replace k 0 # 0": "1099511627776", "cas k 0 # 0 0": "1099511627776", "touch k #": "1099511627776",
		"cas k 0 0 0 #": "18446744073709551615", "incr k #": "18446744073709551615", "decr k #": "18446744073709551615",
		"user # s": "3",
	}
}

// valued are lines with how many bytes a value has.
func valued() []string {
	return []string{"set k 0 0 #", "add k 0 0 #", "replace k 0 0 #", "cas k 0 0 # 0", "append k #"}
}

// wrongNumbers are none, or above a most.
func wrongNumbers(most string) []string {
	tens := []byte(most)
	for i := len(tens) - 1; i >= 0; i-- {
		if tens[i]++; tens[i] <= '9' {
			break
		}
		tens[i] = '0'
	}
	return []string{"", string(tens), most + "0", most + "9", "1" + most, strings.Repeat("9", len(most)), strings.Repeat("9", len(most)+1), "0" + most, "00", "01", "007", "+0", "+1", "-0", "-1", "1+", " 1", "1 ", "1.", "1.0", ".1", "1e1", "0x1", "0b1", "0o1", "1_0", "_1", "x", "1x", "x1", ":", "/", "1:", "\u0661", "\u00b2", "1\u0661", "\x00", "1\x00", "null", strings.Repeat("1", 400), strings.Repeat("0", 400), "18446744073709551616", "36893488147419103232", "340282366920938463463374607431768211456"}
}

// P14.1: each number at 0, at its most, one more, and in forms in which none is written.
func TestNumbers(t *testing.T) {
	for line, most := range numbered() {
		for n := range 4 {
			checkIsLine(t, strings.ReplaceAll(line, "#", strconv.Itoa(n)))
		}
		checkIsLine(t, strings.ReplaceAll(line, "#", most))
		if len(most) > 1 {
			for _, n := range []string{"9", "10", "255", "256", "65535", "65536", "2147483647", "2147483648", "4294967294", most[:len(most)-1]} {
				checkIsLine(t, strings.ReplaceAll(line, "#", n))
			}
		}
		for _, wrong := range wrongNumbers(most) {
			checkBad(t, strings.ReplaceAll(line, "#", wrong))
		}
	}
	for _, line := range valued() {
		for _, wrong := range wrongNumbers("512") {
			checkBad(t, strings.ReplaceAll(line, "#", wrong))
		}
	}
	checkNext(t, "incr k 9223372036854775808\r\n", ask(api.Command{Kind: 6, Keys: []string{"k"}, By: 1 << 63}), 28, api.OK)
	checkNext(t, "touch k 1099511627776\r\n", ask(api.Command{Kind: 9, Keys: []string{"k"}, For: 1 << 40}), 23, api.OK)
	checkNext(t, "set k 4294967295 0 0\r\n\r\n", ask(api.Command{Kind: 2, Keys: []string{"k"}, Flags: 1<<32 - 1}), 24, api.OK)
}

// P14.1: a value is there whole or not at all; its end stands behind as many bytes as its line tells.
func TestValues(t *testing.T) {
	r := rand.New(rand.NewSource(141))
	for _, form := range valued() {
		for _, n := range []int{0, 1, 2, 3, 9, 10, 99, 100, 255, 256, 510, 511, 512} {
			line := strings.ReplaceAll(form, "#", strconv.Itoa(n)) + "\r\n"
			want, value, is := wantLine(line[:len(line)-2])
			if !is || value != n {
				t.Fatal(short(line), value)
			}
			for _, v := range []string{strings.Repeat("v", n), strings.Repeat("\r\n", n)[:n], strings.Repeat("\n\r", n)[:n], strings.Repeat("\x00", n), strings.Repeat("quit\r\n", n)[:n], randomBytes(r, n)} {
				want.Command.Value = v
				s := line + v + "\r\n"
				checkRequest(t, want, s)
				for i := range s {
					checkNext(t, s[:i], api.Request{}, 0, api.OK)
				}
				for _, end := range []string{"\n\r", "\r\r", "\n\n", "\rx", "x\n", "xx", "  ", "\r ", "\x00\x00", "\r\x0b"} {
					for _, behind := range []string{"", "\r\n", "\n", "ping\r\n", "x"} {
						checkNext(t, line+v+end+behind, bad(true), len(s), api.OK)
					}
					checkNext(t, line+v+end[:1], api.Request{}, 0, api.OK)
				}
			}
		}
	}
}

// P14.1: a value that begins with its end, or is one byte shorter or longer than its line tells.
func TestValuesOfOtherLengths(t *testing.T) {
	checkNext(t, "append k 1\r\n\r\n", api.Request{}, 0, api.OK)
	checkNext(t, "append k 1\r\n\r\nx", bad(true), 15, api.OK)
	checkNext(t, "append k 1\r\n\r\r\n", ask(api.Command{Kind: 8, Keys: []string{"k"}, Value: "\r"}), 15, api.OK)
	checkNext(t, "append k 2\r\n\r\n\r\n", ask(api.Command{Kind: 8, Keys: []string{"k"}, Value: "\r\n"}), 16, api.OK)
	checkNext(t, "append k 0\r\nx\r\n", bad(true), 14, api.OK)
	checkNext(t, "append k 0\r\n\n\r\n", bad(true), 14, api.OK)
	checkAll(t, "append k 0\r\n\r\n\r\n", []api.Request{ask(api.Command{Kind: 8, Keys: []string{"k"}}), bad(false)}, 16, api.OK)
	checkAll(t, "append k 513\r\nping\r\n", []api.Request{bad(false), {Kind: 4}}, 20, api.OK)
}

// P14.1: a login has one of four tenants, and a secret of 1 to 16 bytes, each from 33 to 126.
func TestLogins(t *testing.T) {
	for tenant := range 7 {
		line := "user " + strconv.Itoa(tenant) + " s"
		if tenant > maxTenant {
			checkBad(t, line)
			continue
		}
		checkRequest(t, api.Request{Kind: 2, Tenant: tenant, Secret: "s"}, line+"\r\n")
	}
	for n := range maxSecret + 20 {
		line := "user 3 " + strings.Repeat("s", n)
		if n < 1 || n > maxSecret {
			checkBad(t, line)
			continue
		}
		checkRequest(t, api.Request{Kind: 2, Tenant: 3, Secret: strings.Repeat("s", n)}, line+"\r\n")
	}
	for c := range 256 {
		for _, secret := range []string{string([]byte{byte(c)}), "s" + string([]byte{byte(c)}), string([]byte{byte(c)}) + "s"} {
			if c < 33 || c > 126 {
				checkBad(t, "user 0 "+secret)
				continue
			}
			checkRequest(t, api.Request{Kind: 2, Secret: secret}, "user 0 "+secret+"\r\n")
		}
	}
}

// P14.1, P14.2: at most 16384 bytes are handed in.
func TestHowManyBytes(t *testing.T) {
	for _, s := range []string{"ping\r\n", "x", "\r\n", "set k 0 0 512\r\n", "get a b\r\n"} {
		long := strings.Repeat(s, maxText+2)
		for _, n := range []int{maxText - 1, maxText} {
			checkRead(t, long[:n])
		}
		for _, n := range []int{maxText + 1, maxText + 2, len(long)} {
			checkNext(t, long[:n], api.Request{}, 0, api.ErrText)
			checkAll(t, long[:n], nil, 0, api.ErrText)
		}
	}
	if l, n, e := text.All([]byte(strings.Repeat("\r\n", maxText/2))); len(l) != maxText/2 || n != maxText || e != api.OK {
		t.Fatal(len(l), n, e)
	}
	checkNext(t, "quit\r\n"+strings.Repeat("x", maxText), api.Request{}, 0, api.ErrText)
	for _, b := range [][]byte{nil, {}} {
		if r, n, e := text.Next(b); !same(r, api.Request{}) || n != 0 || e != api.OK {
			t.Fatal(r, n, e)
		}
		if l, n, e := text.All(b); len(l) != 0 || n != 0 || e != api.OK {
			t.Fatal(l, n, e)
		}
	}
}

// P14.2: request by request, up to one that is not whole.
func TestAllUpToOneNotWhole(t *testing.T) {
	get, ping := ask(api.Command{Kind: 1, Keys: []string{"a"}}), api.Request{Kind: 4}
	set := ask(api.Command{Kind: 2, Keys: []string{"a"}, Value: "\r\n"})
	s := "get a\r\nping\r\nset a 0 0 2\r\n\r\n\r\nget\r\nping\r\n"
	checkAll(t, s, []api.Request{get, ping, set, bad(false), ping}, len(s), api.OK)
	checkAll(t, s+"pin", []api.Request{get, ping, set, bad(false), ping}, len(s), api.OK)
	checkAll(t, s+"ping\r", []api.Request{get, ping, set, bad(false), ping}, len(s), api.OK)
	checkAll(t, s+"set a 0 0 6\r\nping\r\n", []api.Request{get, ping, set, bad(false), ping}, len(s), api.OK)
	checkAll(t, s+"set a 0 0 6\r\nping\r\nx", []api.Request{get, ping, set, bad(false), ping}, len(s), api.OK)
	ends := []int{0, 7, 13, 30, 35, 41}
	for i := range len(s) + 1 {
		whole, _ := slices.BinarySearch(ends, i+1)
		checkAll(t, s[:i], []api.Request{get, ping, set, bad(false), ping}[:whole-1], ends[whole-1], api.OK)
	}
	checkAll(t, "set a 0 0 1\r\nxping\r\n", []api.Request{bad(true)}, 16, api.OK)
	checkAll(t, "ping", nil, 0, api.OK)
}

// P14.2: behind one with Close, or ReqQuit, none is read any more.
func TestAllUpToAnEnd(t *testing.T) {
	ping, quit := api.Request{Kind: 4}, api.Request{Kind: 5}
	checkAll(t, "ping\r\nquit\r\nping\r\n", []api.Request{ping, quit}, 12, api.OK)
	checkAll(t, "quit\r\nquit\r\n", []api.Request{quit}, 6, api.OK)
	checkAll(t, "quit\r\n", []api.Request{quit}, 6, api.OK)
	checkAll(t, "quit \r\nquit\r\n", []api.Request{bad(false), quit}, 13, api.OK)
	checkAll(t, "quit\r\n"+strings.Repeat("x", 600), []api.Request{quit}, 6, api.OK)
	checkAll(t, "append k 1\r\nxxxping\r\nping\r\n", []api.Request{bad(true)}, 15, api.OK)
	checkAll(t, "ping\r\nappend k 4\r\nquit\n\nping\r\n", []api.Request{ping, bad(true)}, 24, api.OK)
	checkAll(t, "append k 6\r\nquit\r\n\r\nping\r\n", []api.Request{ask(api.Command{Kind: 8, Keys: []string{"k"}, Value: "quit\r\n"}), ping}, 26, api.OK)
	for _, n := range []int{514, 515, 1000, maxText - 6} {
		checkAll(t, "ping\r\n"+strings.Repeat("x", n), []api.Request{ping, bad(true)}, 6+n, api.OK)
		checkAll(t, "ping\r\n"+strings.Repeat("x", n-1)+"\r", []api.Request{ping, bad(true)}, 6+n, api.OK)
	}
	checkAll(t, "ping\r\n"+strings.Repeat("x", 513)+"\r\nping\r\n", []api.Request{ping, bad(true)}, 527, api.OK)
	checkAll(t, "ping\r\n"+strings.Repeat("x", 513), []api.Request{ping}, 6, api.OK)
	checkAll(t, "ping\r\n"+strings.Repeat("x", 512)+"\r\nping\r\n", []api.Request{ping, bad(false), ping}, 526, api.OK)
}

// P14.1, P14.2: bytes of many requests, whole, cut and turned, are told as expressions tell them.
func TestManyBytes(t *testing.T) {
	r := rand.New(rand.NewSource(142))
	kinds := map[uint8]int{}
	for range 15000 {
		s := randomBlob(r)
		checkRead(t, s)
		l, _, _ := wantAll(s)
		for _, q := range l {
			kinds[q.Kind]++
			if q.Close {
				kinds[7]++
			}
		}
	}
	for kind := uint8(1); kind <= 7; kind++ {
		if kinds[kind] < 500 {
			t.Error("too few", kind, kinds)
		}
	}
}
