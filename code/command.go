package code

import (
	"math"

	"cloakroom/api"
)

// Command is the bytes of a command.
func Command(c api.Command) ([]byte, api.Errno) {
	if !hasShape(c) {
		return nil, api.ErrBad
	}
	b := addSmall([]byte{c.Kind}, uint64(c.Tenant))
	b = addSmall(b, uint64(len(c.Keys)))
	for _, key := range c.Keys {
		b = addText(b, key)
	}
	b = addText(b, c.Value)
	b = addSmall(b, uint64(c.Flags))
	b = addSmall(b, uint64(c.For))
	b = addSmall(b, c.Unique)
	return addSmall(b, c.By), api.OK
}

// OfCommand is the command whose bytes b is.
func OfCommand(b []byte) (api.Command, api.Errno) {
	r := reader{rest: b}
	c := r.command()
	if !r.ended() || !hasShape(c) {
		return api.Command{}, api.ErrBad
	}
	return c, api.OK
}

// hasShape asks for no more than bytes need: which kind has which fields is told by a later layer.
func hasShape(c api.Command) bool {
	if c.Kind < api.CmdGet || c.Kind > api.CmdFlush || !tenantMayBe(c.Tenant) {
		return false
	}
	if len(c.Keys) > api.MaxKeys {
		return false
	}
	for _, key := range c.Keys {
		if !keyMayBe(key) {
			return false
		}
	}
	return len(c.Value) <= api.MaxValue && momentMayBe(c.For)
}

// command takes the fields one by one: each must be read ahead of the next.
func (r *reader) command() api.Command {
	c := api.Command{Kind: r.single()}
	c.Tenant = r.number()
	for range r.small(api.MaxKeys) {
		c.Keys = append(c.Keys, r.text())
	}
	c.Value = r.text()
	c.Flags = r.flags()
	c.For = r.number()
	c.Unique = r.small(math.MaxUint64)
	c.By = r.small(math.MaxUint64)
	return c
}
