package words

import (
	"slices"
	"strings"

	"cloakroom/api"
	"cloakroom/item"
)

// Write is an answer as lines, with the values of its items between them, each with its end.
func Write(a api.Answer) ([]byte, api.Errno) {
	if e := Check(a); e != api.OK {
		return nil, e
	}
	if !hasLines(a) {
		return nil, api.ErrBad
	}
	var b strings.Builder
	for _, x := range a.Result.Items {
		putItem(&b, x)
	}
	putLine(&b, lastLine(a)...)
	return []byte(b.String()), api.OK
}

// hasLines asks for more than an answer needs in order to be: keys are words in its lines.
func hasLines(a api.Answer) bool {
	return isSeen(a.Key) && !slices.ContainsFunc(a.Result.Items, hasNoLine)
}

func hasNoLine(x api.Item) bool {
	return !isSeen(x.Key)
}

func putItem(b *strings.Builder, x api.Item) {
	flags, until, many := uint64(x.Flags), uint64(x.Until), uint64(len(x.Value))
	putLine(b, value, x.Key, item.Text(flags), item.Text(until), item.Text(x.Unique), item.Text(many))
	putLine(b, x.Value)
}

func putLine(b *strings.Builder, words ...string) {
	for i, word := range words {
		if i > 0 {
			b.WriteString(blank)
		}
		b.WriteString(word)
	}
	b.WriteString(lineEnd)
}

// lastLine is the line that ends an answer: of all but those with items it is the only one.
func lastLine(a api.Answer) []string {
	switch a.Kind {
	case api.AnsLogin:
		return oneOf(a.Yes, welcome, unknown)
	case api.AnsTrack:
		return oneOf(a.Yes, tracked, untracked)
	case api.AnsPing:
		return []string{pong}
	case api.AnsBye:
		return []string{bye}
	case api.AnsBad:
		return []string{wrong}
	case api.AnsPush:
		return []string{push, a.Key}
	}
	return resultLine(a.Of, a.Result)
}

func oneOf(is bool, yes, no string) []string {
	if is {
		return []string{yes}
	}
	return []string{no}
}

func resultLine(of uint8, r api.Result) []string {
	switch {
	case r.Kind != api.ResDone:
		return []string{resultWords[r.Kind]}
	case mostNumber(of) > 0:
		return []string{doneWord(of), item.Text(r.Number)}
	}
	return []string{doneWord(of)}
}
