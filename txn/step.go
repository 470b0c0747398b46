package txn

import (
	"cmp"
	"slices"

	"ledgerline/api"
	"ledgerline/lock"
	"ledgerline/schema"
	"ledgerline/table"
)

const mostMarks = 10 // of a session

func (x *draft) create(s api.Schema) api.Errno {
	if e := schema.Check(s); e != api.OK {
		return e
	}
	at, is := slices.BinarySearchFunc(x.db.Tables, s.Name, func(t table.Table, name string) int {
		return cmp.Compare(t.S.Name, name)
	})
	switch {
	case is:
		return api.ErrIs
	case len(x.db.Tables) >= api.MaxTables:
		return api.ErrMany
	case len(x.db.Works) > 0:
		return api.ErrBusy
	}
	d := x.own()
	d.Tables = slices.Insert(d.Tables, at, table.Table{S: copyShape(s)})
	return api.OK
}

func (x *draft) drop(name string) api.Errno {
	switch {
	case x.db.table(name) == nil:
		return api.ErrNone
	case len(x.db.Works) > 0:
		return api.ErrBusy
	}
	d := x.own()
	d.Tables = slices.DeleteFunc(d.Tables, func(t table.Table) bool { return t.S.Name == name })
	return api.OK
}

func (x *draft) begin(s int) api.Errno {
	if s < 0 || s >= api.MaxWork {
		return api.ErrArg
	}
	at, is := slices.BinarySearchFunc(x.db.Works, s, func(w Work, s int) int {
		return cmp.Compare(w.S, s)
	})
	if is {
		return api.ErrIs
	}
	d := x.own()
	d.Works = slices.Insert(d.Works, at, Work{S: s})
	return api.OK
}

// hold asks for a table until s has it, or nobody can be taken back any more so that s might have it.
func (x *draft) hold(s int, name string, alone bool) api.Errno {
	if x.db.work(s) == nil || x.db.table(name) == nil {
		return api.ErrNone
	}
	for !x.ask(lock.Hold{S: s, Table: name, X: alone}) {
		victim, ring := lock.Victim(x.db.L, s)
		if !ring {
			return api.ErrWait
		}
		x.own().takeBack(victim)
		if victim == s {
			return api.ErrLost
		}
	}
	return api.OK
}

func (x *draft) ask(h lock.Hold) bool {
	d := x.own()
	l, is := lock.Ask(d.L, h)
	d.L = l
	return is
}

func (x *draft) put(s int, name string, r []api.Value) api.Errno {
	if e := x.hold(s, name, true); e != api.OK {
		return e
	}
	return x.change(s, name, api.Put, func(t table.Table) (table.Table, []api.Value, api.Errno) {
		next, e := table.Put(t, r)
		return next, slices.Clone(r), e
	})
}

func (x *draft) take(s int, name string, k api.Value) api.Errno {
	if e := x.hold(s, name, true); e != api.OK {
		return e
	}
	if x.db.table(name).S.Only {
		return api.ErrOnly
	}
	return x.change(s, name, api.Take, func(t table.Table) (table.Table, []api.Value, api.Errno) {
		return table.Take(t, k)
	})
}

// doing answers a table as it is when a row came or went, and that row.
type doing func(table.Table) (table.Table, []api.Value, api.Errno)

// change does something to a table that s holds with X.
func (x *draft) change(s int, name string, op int, do doing) api.Errno {
	d := x.own()
	w, t := d.work(s), d.table(name)
	if len(w.Log) >= api.MaxChange {
		return api.ErrMany
	}
	next, r, e := do(*t)
	if e != api.OK {
		return e
	}
	*t = next
	w.Log = append(w.Log, api.Change{Table: name, Op: op, Row: r})
	return api.OK
}

func (x *draft) rows(s int, name string) ([][]api.Value, api.Errno) {
	if e := x.hold(s, name, false); e != api.OK {
		return nil, e
	}
	anyKey := api.Value{}
	return table.Range(*x.db.table(name), anyKey, anyKey), api.OK
}

func (x *draft) save(s int, name string) api.Errno {
	w := x.own().work(s)
	switch {
	case w == nil:
		return api.ErrNone
	case !isName(name):
		return api.ErrName
	case len(w.Marks) >= mostMarks:
		return api.ErrMany
	}
	w.Marks = append(w.Marks, Mark{Name: name, At: len(w.Log)})
	return api.OK
}

// isName asks for the shape of a table of that name that has no columns: it is always refused, but of ErrName the name alone can be the cause.
func isName(name string) bool {
	return schema.Check(api.Schema{Name: name}) != api.ErrName
}

func (x *draft) back(s int, name string) api.Errno {
	d := x.own()
	w := d.work(s)
	if w == nil {
		return api.ErrNone
	}
	for i, m := range slices.Backward(w.Marks) {
		if m.Name == name {
			d.backTo(w, i)
			return api.OK
		}
	}
	return api.ErrNone
}

func (x *draft) commit(s int) ([]api.Change, api.Errno) {
	d := x.own()
	w := d.work(s)
	if w == nil {
		return nil, api.ErrNone
	}
	changes := w.Log
	d.end(s)
	return changes, api.OK
}

func (x *draft) rollback(s int) api.Errno {
	if x.db.work(s) == nil {
		return api.ErrNone
	}
	x.own().takeBack(s)
	return api.OK
}
