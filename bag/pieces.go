package bag

import "cloakroom/api"

// Pieces are what stands between the places at which b is cut: one more than there are places.
func Pieces(b []byte, at []int) ([][]byte, api.Errno) {
	if len(b) > api.MaxText {
		return nil, api.ErrText
	}
	if len(at) > api.MaxOps {
		return nil, api.ErrMany
	}
	if !arePlaces(at, len(b)) {
		return nil, api.ErrArg
	}
	l := make([][]byte, 0, len(at)+1)
	from := 0
	for _, to := range at {
		l = append(l, piece(b, from, to))
		from = to
	}
	return append(l, piece(b, from, len(b))), api.OK
}

// Join is all pieces, one behind the other.
func Join(l [][]byte) ([]byte, api.Errno) {
	if len(l) > api.MaxOps+1 {
		return nil, api.ErrMany
	}
	many := 0
	for _, p := range l {
		many += len(p)
		// Asked behind each piece, so that no sum goes far beyond the limit.
		if many > api.MaxText {
			return nil, api.ErrText
		}
	}
	b := make([]byte, 0, many)
	for _, p := range l {
		b = append(b, p...)
	}
	return b, api.OK
}

// arePlaces tells whether so many bytes may be cut at these places, in their order.
func arePlaces(at []int, many int) bool {
	least := 0
	for _, place := range at {
		if place < least || place > many {
			return false
		}
		least = place
	}
	return true
}

// piece ends where its bytes do, so that it reaches into no other one.
func piece(b []byte, from, to int) []byte {
	return copied(b[from:to:to])
}
