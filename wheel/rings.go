package wheel

import "cloakroom/api"

// A moment is taken as digits of some bits each. Each ring is of one digit, the first one of the lowest, and has a slot for each value of it.
const (
	digit     = 6
	manySlots = 1 << digit
	manyRings = 7 // 42 bits; MaxClock has 41
)

// place is where a moment stands: in the ring of the highest digit in which it differs from now, at its own digit there. So a name stands where it is until the clock comes to that digit, and all that stands in a ring is due ahead of all that stands in a higher one.
func place(now, until int) (ring, slot int) {
	for differs := (now ^ until) >> digit; differs != 0; differs >>= digit {
		ring++
	}
	return ring, until >> (ring * digit) & (manySlots - 1)
}

// stand gives a name that is not there its moment.
func (w *Wheel) stand(n api.Name, until int) {
	ring, slot := place(w.now, until)
	if w.rings[ring][slot] == nil {
		w.rings[ring][slot] = map[api.Name]int{}
	}
	w.rings[ring][slot][n] = until
	w.until[n] = until
}

// leave takes a name out, if it is there.
func (w *Wheel) leave(n api.Name) {
	until, ok := w.until[n]
	if !ok {
		return
	}
	ring, slot := place(w.now, until)
	delete(w.rings[ring][slot], n)
	// A map that was great stays so, though it is empty.
	if len(w.rings[ring][slot]) == 0 {
		w.rings[ring][slot] = nil
	}
	delete(w.until, n)
}

// turn lets the clock go on. What stands in a higher ring than the new moment does, or in the same one at a later slot, stays where it is: from the new moment, too, it differs in that digit.
func (w *Wheel) turn(now int) []timed {
	ring, slot := place(w.now, now)
	passed := w.take(ring, slot, nil)
	for lower := range ring {
		passed = w.take(lower, manySlots-1, passed)
	}
	w.now = now
	return w.settle(passed)
}

// take empties a ring's first slots, up to the last one, and puts their names behind those that were taken already. They are still known by their moments.
func (w *Wheel) take(ring, last int, taken []timed) []timed {
	for slot := range last + 1 {
		for n, until := range w.rings[ring][slot] {
			taken = append(taken, timed{n, until})
		}
		w.rings[ring][slot] = nil
	}
	return taken
}

// settle tells those of the names that are due; each other one has come nearer, and stands in a lower ring than it did.
func (w *Wheel) settle(passed []timed) []timed {
	var due []timed
	for _, p := range passed {
		if p.until > w.now {
			w.stand(p.name, p.until)
			continue
		}
		delete(w.until, p.name)
		due = append(due, p)
	}
	return due
}
