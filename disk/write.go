package disk

import "cloakroom/api"

// Write is the disk with b as its block n.
func Write(d api.Device, n int, b []byte) (api.Device, api.Errno) {
	return Do(d, []api.Put{{N: n, Data: b}}, 1)
}

// Do is the disk on which the first many of some writes are done: what power leaves that fails behind them.
func Do(d api.Device, l []api.Put, many int) (api.Device, api.Errno) {
	if e := Check(d); e != api.OK {
		return api.Device{}, e
	}
	for _, w := range l {
		if e := checkPut(d, w); e != api.OK {
			return api.Device{}, e
		}
	}
	if !mayCut(l, many) {
		return api.Device{}, api.ErrArg
	}
	done := api.Device{Data: copied(d.Data)}
	for _, w := range l[:many] {
		copy(block(done, w.N), w.Data)
	}
	return done, api.OK
}

// Left are the writes behind the first many. Of what disk they are is not known here, so they may be any ones.
func Left(l []api.Put, many int) ([]api.Put, api.Errno) {
	if !mayCut(l, many) {
		return nil, api.ErrArg
	}
	left := make([]api.Put, 0, len(l)-many)
	for _, w := range l[many:] {
		left = append(left, api.Put{N: w.N, Data: copied(w.Data)})
	}
	return left, api.OK
}

func checkPut(d api.Device, w api.Put) api.Errno {
	if !hasBlock(d, w.N) {
		return api.ErrArg
	}
	if len(w.Data) != api.Block {
		return api.ErrText
	}
	return api.OK
}

func mayCut(l []api.Put, many int) bool {
	return many >= 0 && many <= len(l)
}
