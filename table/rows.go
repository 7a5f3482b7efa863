package table

import (
	"slices"

	"cloakroom/api"
	"cloakroom/code"
)

const (
	leastRows = 8 // a power of two, as any number of rows is: so a mask tells the row
	mostMoved = 4 // names, in one call

	// mostPassed is how many rows are gone through in one call, so that it is short also where many are empty. With it rows that grow are all gone through before the names are twice as many, and those that shrink before they grow again.
	mostPassed = 8

	// sparse is how many rows a name has, at most, before they shrink: far more than behind growing, so that a few names to and fro don't move all others to and fro.
	sparse = 8
)

// entry is a name with its number.
type entry struct {
	name   api.Name
	number int
}

// rowOf folds the hash: the names of one shard may have its lowest bits in common (code.Shard), and would stand in few of the rows.
func rowOf(n api.Name, rows int) int {
	h := code.Hash(string([]byte{byte(n.Tenant)}) + n.Key)
	mask := uint64(rows - 1)
	return int((h ^ h>>32) & mask)
}

// find is the row in which a name stands, and its index there; -1, if it is not there.
func (t *Table) find(n api.Name) (*[]entry, int) {
	if len(t.old) > 0 {
		row := &t.old[rowOf(n, len(t.old))]
		if i := indexOf(*row, n); i >= 0 {
			return row, i
		}
	}
	row := &t.rows[rowOf(n, len(t.rows))]
	return row, indexOf(*row, n)
}

// indexOf holds whole names against each other: others may have the same hash.
func indexOf(row []entry, n api.Name) int {
	return slices.IndexFunc(row, func(x entry) bool { return x.name == n })
}

// stand puts a name, which is not there, where it is not moved out again.
func (t *Table) stand(x entry) {
	row := &t.rows[rowOf(x.name, len(t.rows))]
	*row = append(*row, x)
}

// moveOn goes on with the moving, which it begins where there are too few rows for the names, or too many.
func (t *Table) moveOn() {
	t.moved = 0
	if len(t.old) == 0 {
		t.resize()
	}
	for range mostPassed {
		if t.next == len(t.old) {
			t.old, t.next = nil, 0
			return
		}
		t.emptyRow()
		if len(t.old[t.next]) > 0 {
			return
		}
		t.next++
	}
}

// resize asks for other rows; nothing is moved yet.
func (t *Table) resize() {
	many := len(t.rows)
	switch {
	case t.many > many:
		many *= 2
	case many > leastRows && t.many*sparse < many:
		many /= 2
	default:
		return
	}
	t.old, t.rows = t.rows, make([][]entry, many)
}

// emptyRow moves names out of the next row: all of them, or as many as the call may still move.
func (t *Table) emptyRow() {
	row := t.old[t.next]
	left := max(0, len(row)-(mostMoved-t.moved))
	for _, x := range row[left:] {
		t.stand(x)
	}
	t.moved += len(row) - left
	t.old[t.next] = slices.Delete(row, left, len(row))
}

func addNames(l []api.Name, rows [][]entry) []api.Name {
	for _, row := range rows {
		for _, x := range row {
			l = append(l, x.name)
		}
	}
	return l
}
