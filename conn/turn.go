package conn

import "cloakroom/api"

// Next is a connection's next request, and whether there is one. The protocol is told by its first byte, also where no request is there whole yet.
func Next(c api.Conn) (api.Conn, api.Request, bool, api.Errno) {
	c, e := begin(c)
	if e != api.OK || c.Closed || c.Busy || len(c.Rest) == 0 {
		return c, api.Request{}, false, e
	}
	if c.Proto == noneYet {
		c.Proto = told(c.Rest)
	}
	r, many := protocolOf(c.Proto).first(c.Rest)
	if many == 0 {
		return c, api.Request{}, false, api.OK
	}
	return taken(c, r, many), own(c, r), true, api.OK
}

// taken is a connection whose first request, of so many bytes, is under way. Behind one that ends it nothing is read any more.
func taken(c api.Conn, r api.Request, many int) api.Conn {
	c.Busy, c.Rest = true, c.Rest[many:]
	if r.Kind == api.ReqQuit || r.Close {
		c.Ends, c.Rest = true, nil
	}
	return c
}

// own is a request as its connection's tenant asks it: no bytes tell whose a command is.
func own(c api.Conn, r api.Request) api.Request {
	if r.Kind == api.ReqCommand {
		r.Command.Tenant = c.Tenant
	}
	return r
}

// Answer answers the request that is under way, or pushes, which may be done at any moment.
func Answer(c api.Conn, a api.Answer) (api.Conn, api.Errno) {
	c, e := begin(c)
	if e != api.OK || c.Closed {
		return c, e
	}
	b, e := protocolOf(c.Proto).write(a)
	push := a.Kind == api.AnsPush
	switch {
	case e != api.OK:
		return api.Conn{}, e
	case !push && !c.Busy:
		return api.Conn{}, api.ErrArg
	}
	return given(c, b, push), api.OK
}

// given is a connection for which an answer's bytes wait, too. A push answers no request.
func given(c api.Conn, b []byte, push bool) api.Conn {
	c.Out = append(c.Out, b...)
	switch {
	case len(c.Out) > api.MaxOut:
		return cutOff(c)
	case push:
		return c
	case c.Ends:
		return closed(c)
	}
	c.Busy = false
	return c
}
