package lru

import (
	"slices"

	"cloakroom/api"
)

// Add puts a key that is not there yet first of the try row.
func Add(o api.Order, key string) (api.Order, api.Errno) {
	if e := checkWith(o, key); e != api.OK {
		return api.Order{}, e
	}
	if indexOf(o.Try, key) >= 0 || indexOf(o.Keep, key) >= 0 {
		return api.Order{}, api.ErrArg
	}
	if many(o) == mostKeys {
		return api.Order{}, api.ErrFull
	}
	left := copied(o)
	left.Try = slices.Insert(left.Try, 0, key)
	return left, api.OK
}

// Hit puts a key that was read first of the kept row.
func Hit(o api.Order, key string) (api.Order, api.Errno) {
	left, e := without(o, key)
	if e != api.OK {
		return api.Order{}, e
	}
	left.Keep = slices.Insert(left.Keep, 0, key)
	return levelled(left), api.OK
}

// Del takes a key out.
func Del(o api.Order, key string) (api.Order, api.Errno) {
	left, e := without(o, key)
	if e != api.OK {
		return api.Order{}, e
	}
	return levelled(left), api.OK
}

// without is a copy out of which a key is taken. It may be no order that may be, as it is not levelled.
func without(o api.Order, key string) (api.Order, api.Errno) {
	if e := checkWith(o, key); e != api.OK {
		return api.Order{}, e
	}
	left := copied(o)
	if i := indexOf(left.Try, key); i >= 0 {
		left.Try = slices.Delete(left.Try, i, i+1)
		return left, api.OK
	}
	if i := indexOf(left.Keep, key); i >= 0 {
		left.Keep = slices.Delete(left.Keep, i, i+1)
		return left, api.OK
	}
	return api.Order{}, api.ErrNone
}

// levelled turns the rows that it is handed, which must be copies.
func levelled(o api.Order) api.Order {
	for len(o.Keep) > half(many(o)) {
		last := len(o.Keep) - 1
		o.Try = slices.Insert(o.Try, 0, o.Keep[last])
		o.Keep = slices.Delete(o.Keep, last, last+1)
	}
	return o
}

// indexOf is where a key stands in a row; -1, if it doesn't.
func indexOf(row []string, key string) int {
	for i, k := range row {
		if k == key {
			return i
		}
	}
	return -1
}

// copied shares neither row with the order, nor one with the other.
func copied(o api.Order) api.Order {
	return api.Order{Try: slices.Clone(o.Try), Keep: slices.Clone(o.Keep)}
}
