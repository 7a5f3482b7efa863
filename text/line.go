package text

import (
	"bytes"
	"math"
	"slices"
	"strconv"

	"cloakroom/api"
)

// draft is a request as far as its line's words were read.
type draft struct {
	request api.Request
	words   [][]byte // those that are left
	value   ending   // nil: the line has no value
}

// part reads its words off a draft; false: there are no such words.
type part func(d *draft) bool

// ending reads what belongs to a request behind its line's end, and tells how many bytes that has; 0, as long as they are not all there.
type ending func(r api.Request, behind []byte) (api.Request, int)

// lines are all that there are, by their first words. They are made once a call, as no map of functions stands at package level.
func lines() map[string]part {
	key, keys := keysUpTo(1), keysUpTo(api.MaxKeys)
	flags := number(math.MaxUint32, func(d *draft, n uint64) { d.request.Command.Flags = uint32(n) })
	moments := number(api.MaxClock, func(d *draft, n uint64) { d.request.Command.For = int(n) })
	value := number(api.MaxValue, func(d *draft, n uint64) { d.value = valueOf(int(n)) })
	unique := number(math.MaxUint64, func(d *draft, n uint64) { d.request.Command.Unique = n })
	by := number(math.MaxUint64, func(d *draft, n uint64) { d.request.Command.By = n })
	tenant := number(api.MaxTenants-1, func(d *draft, n uint64) { d.request.Tenant = int(n) })
	return map[string]part{
		"get":     command(api.CmdGet, keys),
		"delete":  command(api.CmdDelete, keys),
		"set":     command(api.CmdSet, key, flags, moments, value),
		"add":     command(api.CmdAdd, key, flags, moments, value),
		"replace": command(api.CmdReplace, key, flags, moments, value),
		"cas":     command(api.CmdCas, key, flags, moments, value, unique),
		"append":  command(api.CmdAppend, key, value),
		"incr":    command(api.CmdIncr, key, by),
		"decr":    command(api.CmdDecr, key, by),
		"touch":   command(api.CmdTouch, key, moments),
		"flush":   command(api.CmdFlush),
		"user":    request(api.ReqLogin, tenant, secret),
		"track":   request(api.ReqTrack, onOrOff),
		"ping":    request(api.ReqPing),
		"quit":    request(api.ReqQuit),
	}
}

// tell reads a line; false: it is none of those that are known.
func tell(line []byte, known map[string]part) (draft, bool) {
	d := draft{words: bytes.Split(line, []byte(" "))}
	read := known[d.next()]
	is := read != nil && read(&d)
	return d, is
}

// next takes the first word that is left. Where none is, that is the empty one, which is nothing in any place.
func (d *draft) next() string {
	if len(d.words) == 0 {
		return ""
	}
	word := string(d.words[0])
	d.words = d.words[1:]
	return word
}

// request is a line with just these parts.
func request(kind uint8, parts ...part) part {
	return func(d *draft) bool {
		d.request.Kind = kind
		for _, read := range parts {
			if !read(d) {
				return false
			}
		}
		return len(d.words) == 0
	}
}

func command(kind uint8, parts ...part) part {
	read := request(api.ReqCommand, parts...)
	return func(d *draft) bool {
		d.request.Command.Kind = kind
		return read(d)
	}
}

// keysUpTo leaves what stands behind so many keys to the parts behind it: where there are none, the line has too many words.
func keysUpTo(most int) part {
	return func(d *draft) bool {
		var keys []string
		for len(d.words) > 0 && len(keys) < most {
			key := d.next()
			if !isWord(key, api.MaxKey) || slices.Contains(keys, key) {
				return false
			}
			keys = append(keys, key)
		}
		d.request.Command.Keys = keys
		return len(keys) > 0
	}
}

// number reads one up to most, and puts it where it belongs. It must be written as it would be written here: no nought ahead, no sign.
func number(most uint64, put func(d *draft, n uint64)) part {
	return func(d *draft) bool {
		word := d.next()
		n, err := strconv.ParseUint(word, 10, 64)
		if err != nil || n > most || decimal(n) != word {
			return false
		}
		put(d, n)
		return true
	}
}

// valueOf is a value of so many bytes, whatever they are: where its end does not stand, nobody knows where the next line begins.
func valueOf(many int) ending {
	whole := many + len(lineEnd)
	return func(r api.Request, behind []byte) (api.Request, int) {
		switch {
		case len(behind) < whole:
			return api.Request{}, 0
		case string(behind[many:whole]) != lineEnd:
			return api.Request{Kind: api.ReqBad, Close: true}, whole
		}
		r.Command.Value = string(behind[:many])
		return r, whole
	}
}

func secret(d *draft) bool {
	d.request.Secret = d.next()
	return isWord(d.request.Secret, api.MaxSecret)
}

func onOrOff(d *draft) bool {
	word := d.next()
	d.request.On = word == on
	return d.request.On || word == off
}

// isWord tells whether a text may stand in a line as a key or a secret of at most so many bytes.
func isWord(s string, most int) bool {
	return len(s) > 0 && len(s) <= most && isSeen(s)
}

func isSeen(s string) bool {
	for _, c := range []byte(s) {
		if c < 33 || c > 126 {
			return false
		}
	}
	return true
}
