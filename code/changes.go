package code

import (
	"math"

	"cloakroom/api"
)

// Changes are the bytes of changes.
func Changes(l []api.Change) ([]byte, api.Errno) {
	if len(l) > api.MaxChanges {
		return nil, api.ErrMany
	}
	// All are asked ahead of the first byte: one that may not be counts for more than too many bytes.
	for _, c := range l {
		if !changeMayBe(c) {
			return nil, api.ErrBad
		}
	}
	b := Small(uint64(len(l)))
	for _, c := range l {
		b = addChange(b, c)
	}
	if len(b) > api.MaxRecord {
		return nil, api.ErrText
	}
	return b, api.OK
}

// OfChanges are the changes whose bytes b is.
func OfChanges(b []byte) ([]api.Change, api.Errno) {
	if len(b) > api.MaxRecord {
		return nil, api.ErrText
	}
	r := reader{rest: b}
	var l []api.Change
	for range r.small(api.MaxChanges) {
		c := r.change()
		if r.bad || !changeMayBe(c) {
			return nil, api.ErrBad
		}
		l = append(l, c)
	}
	if !r.ended() {
		return nil, api.ErrBad
	}
	return l, api.OK
}

func hasTenant(kind uint8) bool {
	switch kind {
	case api.ChPut, api.ChDrop, api.ChClear, api.ChQuota:
		return true
	}
	return false
}

// mostTo is the greatest To of a kind. Of those without it is 0: what is not named must be zero.
func mostTo(kind uint8) int {
	switch kind {
	case api.ChClock:
		return api.MaxClock
	case api.ChQuota:
		return api.MaxPages
	case api.ChTerm, api.ChNumber:
		return math.MaxInt32
	}
	return 0
}

func changeMayBe(c api.Change) bool {
	if c.Tenant != 0 && !(hasTenant(c.Kind) && tenantMayBe(c.Tenant)) {
		return false
	}
	if c.To < 0 || c.To > mostTo(c.Kind) {
		return false
	}
	return ownMayBe(c)
}

// ownMayBe asks for the fields that one kind alone has.
func ownMayBe(c api.Change) bool {
	noItem := c.Item == api.Item{}
	noDrop := c.Key == "" && c.Why == 0
	switch c.Kind {
	case api.ChPut:
		return itemMayBe(c.Item) && noDrop && !c.Primary
	case api.ChDrop:
		return noItem && keyMayBe(c.Key) && whyMayBe(c.Why) && !c.Primary
	case api.ChTerm:
		return noItem && noDrop
	case api.ChClear, api.ChClock, api.ChQuota, api.ChNumber:
		return noItem && noDrop && !c.Primary
	}
	return false
}

func itemMayBe(x api.Item) bool {
	return keyMayBe(x.Key) && len(x.Value) <= api.MaxValue && momentMayBe(x.Until)
}

func whyMayBe(why uint8) bool {
	switch why {
	case api.WhyDeleted, api.WhyEvicted:
		return true
	}
	return false
}

func addChange(b []byte, c api.Change) []byte {
	b = append(b, c.Kind)
	if hasTenant(c.Kind) {
		b = addSmall(b, uint64(c.Tenant))
	}
	switch c.Kind {
	case api.ChPut:
		b = addItem(b, c.Item)
	case api.ChDrop:
		b = append(addText(b, c.Key), c.Why)
	case api.ChClock, api.ChQuota, api.ChNumber:
		b = addSmall(b, uint64(c.To))
	case api.ChTerm:
		b = addTruth(addSmall(b, uint64(c.To)), c.Primary)
	}
	return b
}

func addItem(b []byte, x api.Item) []byte {
	b = addText(addText(b, x.Key), x.Value)
	b = addSmall(b, uint64(x.Flags))
	b = addSmall(b, uint64(x.Until))
	return addSmall(b, x.Unique)
}

func addTruth(b []byte, yes bool) []byte {
	if yes {
		return append(b, 1)
	}
	return append(b, 0)
}

// change reads what a row names; whether it may be is for the caller to ask.
func (r *reader) change() api.Change {
	c := api.Change{Kind: r.single()}
	if hasTenant(c.Kind) {
		c.Tenant = r.number()
	}
	switch c.Kind {
	case api.ChPut:
		c.Item = r.item()
	case api.ChDrop:
		c.Key = r.text()
		c.Why = r.single()
	case api.ChClock, api.ChQuota, api.ChNumber:
		c.To = r.number()
	case api.ChTerm:
		c.To = r.number()
		c.Primary = r.truth()
	}
	return c
}

// item takes the fields one by one: each must be read ahead of the next.
func (r *reader) item() api.Item {
	var x api.Item
	x.Key = r.text()
	x.Value = r.text()
	x.Flags = r.flags()
	x.Until = r.number()
	x.Unique = r.small(math.MaxUint64)
	return x
}
