package txn

import (
	"slices"

	"ledgerline/api"
	"ledgerline/lock"
	"ledgerline/table"
)

// table answers the table of that name, where it stands; nil: there is none.
func (d *DB) table(name string) *table.Table {
	for i := range d.Tables {
		if d.Tables[i].S.Name == name {
			return &d.Tables[i]
		}
	}
	return nil
}

// work answers what s has done, where it stands; nil: it is not at work.
func (d *DB) work(s int) *Work {
	for i := range d.Works {
		if d.Works[i].S == s {
			return &d.Works[i]
		}
	}
	return nil
}

// takeBack ends s, and leaves nothing of what it did. In a state that may not be, one that is not at work can have locks: they are freed all the same, as who waits for them would ask for ever.
func (d *DB) takeBack(s int) {
	if w := d.work(s); w != nil {
		d.undo(w.Log)
	}
	d.end(s)
}

// end lets s, whose changes stay as they are, be at work no more.
func (d *DB) end(s int) {
	d.L = lock.Free(d.L, s)
	d.Works = slices.DeleteFunc(d.Works, func(w Work) bool { return w.S == s })
}

// backTo undoes what w's session did behind its mark number i. A mark that may not be can say more or fewer changes than there are.
func (d *DB) backTo(w *Work, i int) {
	at := min(max(w.Marks[i].At, 0), len(w.Log))
	d.undo(w.Log[at:])
	w.Log = slices.Delete(w.Log, at, len(w.Log))
	w.Marks = slices.Delete(w.Marks, i+1, len(w.Marks))
}

// undo lets each change wait till it returns: what is deferred is done the last one first.
func (d *DB) undo(changes []api.Change) {
	for _, c := range changes {
		defer d.reverse(c)
	}
}

// reverse leaves the table as it was ahead of c, if c is the last change of it. It cannot be refused then: as long as c's session is at work, nobody else changes that table.
func (d *DB) reverse(c api.Change) {
	t := d.table(c.Table)
	if t == nil {
		return
	}
	if c.Op == api.Take {
		*t, _ = table.Put(*t, c.Row)
		return
	}
	*t, _, _ = table.Take(*t, key(t.S, c.Row))
}

// key answers the value by which r is told from other rows. In a state that may not be, a row can lack it.
func key(s api.Schema, r []api.Value) api.Value {
	if s.Key < 0 || s.Key >= len(r) {
		return api.Value{}
	}
	return r[s.Key]
}
