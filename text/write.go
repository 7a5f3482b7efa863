package text

import (
	"slices"
	"strconv"
	"strings"

	"cloakroom/api"
	"cloakroom/order"
)

// commandWords are the first words of commands' lines, by their kinds.
var commandWords = [...]string{
	api.CmdGet:     "get",
	api.CmdSet:     "set",
	api.CmdAdd:     "add",
	api.CmdReplace: "replace",
	api.CmdCas:     "cas",
	api.CmdIncr:    "incr",
	api.CmdDecr:    "decr",
	api.CmdAppend:  "append",
	api.CmdTouch:   "touch",
	api.CmdDelete:  "delete",
	api.CmdFlush:   "flush",
}

// Write is a request's line, and its value, if it has one, with their ends.
func Write(r api.Request) ([]byte, api.Errno) {
	if e := check(r); e != api.OK {
		return nil, e
	}
	line := strings.Join(wordsOf(r), " ") + lineEnd
	if hasValue(r.Command.Kind) {
		line += r.Command.Value + lineEnd
	}
	return []byte(line), api.OK
}

// check looks at a command only where the request is well without it.
func check(r api.Request) api.Errno {
	switch {
	case !hasLine(r):
		return api.ErrBad
	case r.Kind == api.ReqCommand:
		return checkCommand(r.Command)
	}
	return api.OK
}

// hasLine takes out of a request what its kind's line names: nothing may be left of it then.
func hasLine(r api.Request) bool {
	switch r.Kind {
	case api.ReqCommand:
		r.Command = api.Command{}
	case api.ReqLogin:
		if r.Tenant < 0 || r.Tenant >= api.MaxTenants || !isWord(r.Secret, api.MaxSecret) {
			return false
		}
		r.Tenant, r.Secret = 0, ""
	case api.ReqTrack:
		r.On = false
	case api.ReqPing, api.ReqQuit:
	default:
		return false
	}
	return isNothing(r.Command) && r.Tenant == 0 && r.Secret == "" && !r.On && !r.Close
}

// isNothing asks field by field, as a list without elements may be nil or not.
func isNothing(c api.Command) bool {
	return c.Kind == 0 && c.Tenant == 0 && len(c.Keys) == 0 && c.Value == "" &&
		c.Flags == 0 && c.For == 0 && c.Unique == 0 && c.By == 0
}

// checkCommand asks for more than a command needs in order to be: a line has no place for a tenant, and its keys are words.
func checkCommand(c api.Command) api.Errno {
	if e := order.Check(c); e != api.OK {
		return e
	}
	if c.Tenant != 0 || slices.ContainsFunc(c.Keys, isNotSeen) {
		return api.ErrBad
	}
	return api.OK
}

func isNotSeen(key string) bool {
	return !isSeen(key)
}

func wordsOf(r api.Request) []string {
	switch r.Kind {
	case api.ReqLogin:
		return []string{"user", decimal(r.Tenant), r.Secret}
	case api.ReqTrack:
		if r.On {
			return []string{"track", on}
		}
		return []string{"track", off}
	case api.ReqPing:
		return []string{"ping"}
	case api.ReqQuit:
		return []string{"quit"}
	}
	return wordsOfCommand(r.Command)
}

func wordsOfCommand(c api.Command) []string {
	words := append([]string{commandWords[c.Kind]}, c.Keys...)
	switch c.Kind {
	case api.CmdSet, api.CmdAdd, api.CmdReplace:
		return append(words, decimal(c.Flags), decimal(c.For), decimal(len(c.Value)))
	case api.CmdCas:
		return append(words, decimal(c.Flags), decimal(c.For), decimal(len(c.Value)), decimal(c.Unique))
	case api.CmdAppend:
		return append(words, decimal(len(c.Value)))
	case api.CmdIncr, api.CmdDecr:
		return append(words, decimal(c.By))
	case api.CmdTouch:
		return append(words, decimal(c.For))
	}
	return words
}

func hasValue(kind uint8) bool {
	switch kind {
	case api.CmdSet, api.CmdAdd, api.CmdReplace, api.CmdCas, api.CmdAppend:
		return true
	}
	return false
}

// decimal is a number of any kind that lines have, none of which is below 0.
func decimal[N int | uint32 | uint64](n N) string {
	return strconv.FormatUint(uint64(n), 10)
}
