package words

import (
	"bytes"
	"math"
	"strings"

	"cloakroom/api"
	"cloakroom/item"
)

// Read is the answer, to a command of that kind, that bytes begin with, and how many of them it has; 0, if it is not there whole.
func Read(b []byte, of uint8) (api.Answer, int, api.Errno) {
	if len(b) > api.MaxText {
		return api.Answer{}, 0, api.ErrText
	}
	var items []api.Item
	for read := 0; ; {
		line, many, e := cutLine(b[read:])
		if many == 0 {
			return api.Answer{}, 0, e
		}
		read += many
		if len(items) == mostItems(of) || !strings.HasPrefix(line, value+blank) {
			return lastOf(line, of, items, read)
		}
		x, many, e := cutItem(line, b[read:])
		if many == 0 {
			return api.Answer{}, 0, e
		}
		items = append(items, x)
		read += many
	}
}

// cutLine is the first line, and how many bytes it has with its end; 0, if it is not there whole, or if none may be. An end is looked for no further than where one may stand.
func cutLine(b []byte) (string, int, api.Errno) {
	const most = api.MaxLine + len(lineEnd)
	at := bytes.Index(b[:min(len(b), most)], []byte(lineEnd))
	switch {
	case at < 0 && len(b) < most:
		return "", 0, api.OK
	case at < 0:
		return "", 0, api.ErrBad
	}
	return string(b[:at]), at + len(lineEnd), api.OK
}

// cutItem is the item of a line, and how many bytes its value, which stands behind it, has with its end; 0, if that is not there whole, or if it is none.
func cutItem(line string, behind []byte) (api.Item, int, api.Errno) {
	x, many, is := itemOf(strings.Split(line, blank)[1:])
	whole := many + len(lineEnd)
	switch {
	case !is:
		return api.Item{}, 0, api.ErrBad
	case len(behind) < whole:
		return api.Item{}, 0, api.OK
	case string(behind[many:whole]) != lineEnd:
		return api.Item{}, 0, api.ErrBad
	}
	x.Value = string(behind[:many])
	return x, whole, api.OK
}

// itemOf is an item as far as its line tells, and how many bytes its value has; false: its words are none of an item.
func itemOf(words []string) (api.Item, int, bool) {
	if len(words) != 5 {
		return api.Item{}, 0, false
	}
	flags, hasFlags := numberUpTo(math.MaxUint32, words[1])
	until, hasUntil := numberUpTo(api.MaxClock, words[2])
	unique, hasUnique := numberUpTo(math.MaxUint64, words[3])
	many, hasMany := numberUpTo(api.MaxValue, words[4])
	x := api.Item{Key: words[0], Flags: uint32(flags), Until: int(until), Unique: unique}
	return x, int(many), isKey(words[0]) && hasFlags && hasUntil && hasUnique && hasMany
}

func numberUpTo(most uint64, word string) (uint64, bool) {
	n, is := item.Number(word)
	return n, is && n <= most
}

func isKey(word string) bool {
	return len(word) > 0 && len(word) <= api.MaxKey && isSeen(word)
}

// lastOf is the answer that a line ends. Behind items there is but one such line.
func lastOf(line string, of uint8, items []api.Item, read int) (api.Answer, int, api.Errno) {
	a, is := answerOf(line, of)
	if !is || len(items) > 0 && line != end {
		return api.Answer{}, 0, api.ErrBad
	}
	a.Result.Items = items
	return a, read, api.OK
}

// answerOf is what a line tells by itself; false: nothing.
func answerOf(line string, of uint8) (api.Answer, bool) {
	switch line {
	case welcome, unknown:
		return api.Answer{Kind: api.AnsLogin, Yes: line == welcome}, true
	case tracked, untracked:
		return api.Answer{Kind: api.AnsTrack, Yes: line == tracked}, true
	case pong:
		return api.Answer{Kind: api.AnsPing}, true
	case bye:
		return api.Answer{Kind: api.AnsBye}, true
	case wrong:
		return api.Answer{Kind: api.AnsBad}, true
	}
	if key, is := strings.CutPrefix(line, push+blank); is {
		return api.Answer{Kind: api.AnsPush, Key: key}, isKey(key)
	}
	r, is := resultOf(line, of)
	return api.Answer{Kind: api.AnsResult, Of: of, Result: r}, is
}

func resultOf(line string, of uint8) (api.Result, bool) {
	if !isCommand(of) {
		return api.Result{}, false
	}
	for kind, word := range resultWords {
		// The places ahead of the first word are empty, as a line may be.
		if word == line && word != "" {
			return api.Result{Kind: uint8(kind)}, true
		}
	}
	return doneOf(line, of)
}

func doneOf(line string, of uint8) (api.Result, bool) {
	most := mostNumber(of)
	if most == 0 {
		return api.Result{Kind: api.ResDone}, line == doneWord(of)
	}
	word, is := strings.CutPrefix(line, doneWord(of)+blank)
	n, isNumber := numberUpTo(most, word)
	return api.Result{Kind: api.ResDone, Number: n}, is && isNumber
}
