package binary

import (
	"cloakroom/api"
	"cloakroom/code"
)

// Write is a request's packet.
func Write(r api.Request) ([]byte, api.Errno) {
	if !hasRow(r) {
		return nil, api.ErrBad
	}
	body, e := bodyOf(r)
	if e != api.OK {
		return nil, e
	}
	return Packet(mark, r.Kind, body)
}

// hasRow tells whether a request has nothing but what its kind's row names; a command is looked at only where that is so.
func hasRow(r api.Request) bool {
	isLogin := r.Kind == api.ReqLogin
	switch {
	case !isRequest(r.Kind), r.Close,
		r.Kind != api.ReqCommand && !isNothing(r.Command),
		r.Kind != api.ReqTrack && r.On,
		!isLogin && (r.Tenant != 0 || r.Secret != ""):
		return false
	}
	return !isLogin || loginMayBe(r.Tenant, len(r.Secret))
}

// isNothing asks field by field, as a list without elements may be nil or not.
func isNothing(c api.Command) bool {
	noNumbers := c.Kind == 0 && c.Tenant == 0 && c.Flags == 0 && c.For == 0 && c.Unique == 0 && c.By == 0
	return noNumbers && len(c.Keys) == 0 && c.Value == ""
}

func bodyOf(r api.Request) ([]byte, api.Errno) {
	switch r.Kind {
	case api.ReqCommand:
		if e := checkCommand(r.Command); e != api.OK {
			return nil, e
		}
		return code.Command(r.Command)
	case api.ReqLogin:
		return append([]byte{byte(r.Tenant)}, r.Secret...), api.OK
	case api.ReqTrack:
		if r.On {
			return []byte{on}, api.OK
		}
		return []byte{off}, api.OK
	}
	return nil, api.OK
}
