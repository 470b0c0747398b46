package txn

import (
	"fmt"
	"math/rand"
	"slices"
	"sort"
	"testing"

	"ledgerline/api"
	"ledgerline/lock"
	"ledgerline/schema"
	"ledgerline/table"
)

// call is a call of a face, told by what it is handed.
type call struct {
	face  string
	s     int
	name  string
	x     bool
	shape api.Schema
	row   []api.Value
	key   api.Value
}

// told is what a call answers beside the state.
type told struct {
	rows    [][]api.Value
	changes []api.Change
	e       api.Errno
}

func (c call) do(d DB) (DB, told) {
	var x told
	switch c.face {
	case "create":
		d, x.e = Create(d, c.shape)
	case "drop":
		d, x.e = Drop(d, c.name)
	case "begin":
		d, x.e = Begin(d, c.s)
	case "hold":
		d, x.e = Hold(d, c.s, c.name, c.x)
	case "put":
		d, x.e = Put(d, c.s, c.name, c.row)
	case "take":
		d, x.e = Take(d, c.s, c.name, c.key)
	case "rows":
		d, x.rows, x.e = Rows(d, c.s, c.name)
	case "save":
		d, x.e = Save(d, c.s, c.name)
	case "back":
		d, x.e = Back(d, c.s, c.name)
	case "commit":
		d, x.changes, x.e = Commit(d, c.s)
	case "rollback":
		d, x.e = Rollback(d, c.s)
	}
	return d, x
}

// faces are all that answer a state.
func faces() []string {
	return []string{"create", "drop", "begin", "hold", "put", "take", "rows", "save", "back", "commit", "rollback"}
}

// ofSession are those that a session calls that is at work.
func ofSession() []string { return faces()[3:] }

// show writes anything out: two things that are the same are written the same, a list that is nil as one that is empty.
func show(x any) string { return fmt.Sprintf("%+v", x) }

// model is the document's words as they stand. What is undone, it does not undo by the changes: it keeps, of each change of a session at work, the table as it was ahead of it.
type model struct {
	db    DB
	ahead map[int][]table.Table
}

func (m *model) tableAt(name string) int {
	return slices.IndexFunc(m.db.Tables, func(x table.Table) bool { return x.S.Name == name })
}

func (m *model) workAt(s int) int {
	return slices.IndexFunc(m.db.Works, func(w Work) bool { return w.S == s })
}

// do answers what the call is to tell; the state is then what it is to answer.
func (m *model) do(c call) told {
	switch c.face {
	case "create":
		return told{e: m.create(c.shape)}
	case "drop":
		return told{e: m.drop(c.name)}
	case "begin":
		return told{e: m.begin(c.s)}
	}
	at := m.workAt(c.s)
	if at < 0 {
		return told{e: api.ErrNone}
	}
	switch c.face {
	case "hold":
		return told{e: m.hold(c.s, c.name, c.x)}
	case "put":
		return told{e: m.put(c.s, c.name, c.row)}
	case "take":
		return told{e: m.take(c.s, c.name, c.key)}
	case "rows":
		if e := m.hold(c.s, c.name, false); e != api.OK {
			return told{e: e}
		}
		return told{rows: m.db.Tables[m.tableAt(c.name)].Rows}
	case "save":
		return told{e: m.save(&m.db.Works[at], c.name)}
	case "back":
		return told{e: m.back(&m.db.Works[at], c.name)}
	case "commit":
		log := m.db.Works[at].Log
		m.end(c.s)
		return told{changes: log}
	}
	m.undo(c.s, 0)
	m.end(c.s)
	return told{}
}

func (m *model) create(s api.Schema) api.Errno {
	if e := schema.Check(s); e != api.OK {
		return e
	}
	switch {
	case m.tableAt(s.Name) >= 0:
		return api.ErrIs
	case len(m.db.Tables) == 8:
		return api.ErrMany
	case len(m.db.Works) > 0:
		return api.ErrBusy
	}
	l := append(slices.Clone(m.db.Tables), table.Table{S: s})
	sort.Slice(l, func(i, j int) bool { return l[i].S.Name < l[j].S.Name })
	m.db.Tables = l
	return api.OK
}

func (m *model) drop(name string) api.Errno {
	at := m.tableAt(name)
	switch {
	case at < 0:
		return api.ErrNone
	case len(m.db.Works) > 0:
		return api.ErrBusy
	}
	m.db.Tables = append(slices.Clone(m.db.Tables[:at]), m.db.Tables[at+1:]...)
	return api.OK
}

func (m *model) begin(s int) api.Errno {
	switch {
	case s < 0 || s > 7:
		return api.ErrArg
	case m.workAt(s) >= 0:
		return api.ErrIs
	}
	l := append(slices.Clone(m.db.Works), Work{S: s})
	sort.Slice(l, func(i, j int) bool { return l[i].S < l[j].S })
	m.db.Works = l
	m.ahead[s] = nil
	return api.OK
}

func (m *model) hold(s int, name string, x bool) api.Errno {
	if m.tableAt(name) < 0 {
		return api.ErrNone
	}
	for {
		l, is := lock.Ask(m.db.L, lock.Hold{S: s, Table: name, X: x})
		m.db.L = l
		if is {
			return api.OK
		}
		v, ring := lock.Victim(l, s)
		if !ring {
			return api.ErrWait
		}
		m.undo(v, 0)
		m.end(v)
		if v == s {
			return api.ErrLost
		}
	}
}

func (m *model) end(s int) {
	m.db.L = lock.Free(m.db.L, s)
	at := m.workAt(s)
	m.db.Works = append(slices.Clone(m.db.Works[:at]), m.db.Works[at+1:]...)
	delete(m.ahead, s)
}

// undo lets each table that was changed from change number at on be what it was ahead of that.
func (m *model) undo(s, at int) {
	m.db.Tables = slices.Clone(m.db.Tables)
	for i := len(m.ahead[s]) - 1; i >= at; i-- {
		was := m.ahead[s][i]
		m.db.Tables[m.tableAt(was.S.Name)] = was
	}
	m.ahead[s] = m.ahead[s][:at]
	w := &m.db.Works[m.workAt(s)]
	w.Log = slices.Clone(w.Log[:at])
}

func (m *model) put(s int, name string, r []api.Value) api.Errno {
	if e := m.hold(s, name, true); e != api.OK {
		return e
	}
	was := m.db.Tables[m.tableAt(name)]
	if len(m.ahead[s]) == 60 {
		return api.ErrMany
	}
	next, e := table.Put(was, r)
	if e != api.OK {
		return e
	}
	m.changed(s, was, next, api.Change{Table: name, Op: api.Put, Row: r})
	return api.OK
}

func (m *model) take(s int, name string, k api.Value) api.Errno {
	if e := m.hold(s, name, true); e != api.OK {
		return e
	}
	was := m.db.Tables[m.tableAt(name)]
	if was.S.Only {
		return api.ErrOnly
	}
	if len(m.ahead[s]) == 60 {
		return api.ErrMany
	}
	next, r, e := table.Take(was, k)
	if e != api.OK {
		return e
	}
	m.changed(s, was, next, api.Change{Table: name, Op: api.Take, Row: r})
	return api.OK
}

func (m *model) changed(s int, was, next table.Table, c api.Change) {
	m.db.Tables = slices.Clone(m.db.Tables)
	m.db.Tables[m.tableAt(c.Table)] = next
	m.ahead[s] = append(m.ahead[s], was)
	w := &m.db.Works[m.workAt(s)]
	w.Log = append(slices.Clone(w.Log), c)
}

func (m *model) save(w *Work, name string) api.Errno {
	switch {
	case !slices.Contains([]string{"m", "n", "p"}, name): // all names that chance picks
		return api.ErrName
	case len(w.Marks) == 10:
		return api.ErrMany
	}
	w.Marks = append(slices.Clone(w.Marks), Mark{Name: name, At: len(w.Log)})
	return api.OK
}

func (m *model) back(w *Work, name string) api.Errno {
	for i := len(w.Marks) - 1; i >= 0; i-- {
		if w.Marks[i].Name == name {
			m.undo(w.S, w.Marks[i].At)
			w.Marks = slices.Clone(w.Marks[:i+1])
			return api.OK
		}
	}
	return api.ErrNone
}

// shapes are of unlike kinds: keys of numbers and of texts, at the first column and at another one, one table that says Only, and one more than there may be.
func shapes() []api.Schema {
	var l []api.Schema
	for i, name := range []string{"d", "a", "c", "only_b", "b", "z0", "z_", "za", "e"} {
		s := shape(name)
		s.Only = name == "only_b"
		if i%2 == 1 {
			s.Cols = []api.Col{{Name: "v", Kind: api.Text, Null: true}, {Name: "k", Kind: api.Int}}
			s.Key = 1
		}
		l = append(l, s)
	}
	return l
}

// someCall is one that chance picks: of so many sessions, tables and keys.
func someCall(source *rand.Rand, sessions, tables, keys int) call {
	often := []string{"begin", "begin", "put", "put", "put", "put", "put", "take", "take", "rows", "hold", "save", "back"}
	seldom := []string{"create", "drop", "commit", "commit", "rollback"}
	c := call{face: often[source.Intn(len(often))], s: source.Intn(sessions), x: source.Intn(2) == 0}
	if source.Intn(12) == 0 {
		c.face = seldom[source.Intn(len(seldom))]
	}
	c.shape = shapes()[source.Intn(tables)]
	c.name = c.shape.Name
	if c.face == "save" || c.face == "back" {
		c.name = []string{"m", "n", "p", "m", "key", "N", ""}[source.Intn(7)]
	}
	c.key = number(source.Intn(keys))
	c.row = []api.Value{c.key, text(string(rune('a' + source.Intn(3))))}
	if c.shape.Key == 1 {
		c.row[0], c.row[1] = c.row[1], c.row[0]
	}
	if source.Intn(40) == 0 {
		c.row = [][]api.Value{nil, {c.key}, {number(1), number(2)}, {{}, {}}, {{Kind: api.Bool, N: 3}, {}}}[source.Intn(5)]
	}
	return c
}

// byChance tells each call of some, one behind the other, the states ahead of it and behind it, and what it told; all are held against the model.
func byChance(t *testing.T, seed int64, rounds, calls int, tell func(c call, was, is DB, x told)) {
	t.Helper()
	source := rand.New(rand.NewSource(seed))
	for range rounds {
		m := model{ahead: make(map[int][]table.Table)}
		var d DB
		sessions, tables, keys := 1+source.Intn(8), 1+source.Intn(9), 1+source.Intn(20)
		saver := source.Intn(8) == 0 // sets many marks
		for _, s := range shapes()[:tables] {
			m.create(s)
			d, _ = Create(d, s)
		}
		for range calls {
			c := someCall(source, sessions, tables, keys)
			switch {
			case len(d.Works) == 0 && source.Intn(3) == 0:
				c.face = []string{"create", "drop"}[source.Intn(2)]
			case saver && source.Intn(3) == 0:
				c.face, c.name = "save", "m"
			}
			wantTold := m.do(c)
			next, x := c.do(d)
			if show(x) != show(wantTold) || show(next) != show(m.db) {
				t.Fatalf("%+v of\n%+v:\n%+v\n%+v\nnot\n%+v\n%+v", c, d, x, next, wantTold, m.db)
			}
			if tell != nil {
				tell(c, d, next, x)
			}
			d = next
		}
	}
}

// TestP1301AsTheWordsSay: calls by chance, held against the document's words; each face answers each of its errors sometimes.
func TestP1301AsTheWordsSay(t *testing.T) {
	seen := make(map[string]int)
	byChance(t, 1, 150, 150, func(c call, was, is DB, x told) {
		seen[c.face+" "+x.e.Error()]++
	})
	for face, errors := range map[string][]api.Errno{
		"create":   {api.OK, api.ErrIs, api.ErrMany, api.ErrBusy},
		"drop":     {api.OK, api.ErrNone, api.ErrBusy},
		"begin":    {api.OK, api.ErrIs},
		"hold":     {api.OK, api.ErrNone, api.ErrWait, api.ErrLost},
		"put":      {api.OK, api.ErrNone, api.ErrWait, api.ErrLost, api.ErrIs, api.ErrArg, api.ErrKind},
		"take":     {api.OK, api.ErrNone, api.ErrWait, api.ErrLost, api.ErrOnly},
		"rows":     {api.OK, api.ErrNone, api.ErrWait, api.ErrLost},
		"save":     {api.OK, api.ErrNone, api.ErrName, api.ErrMany},
		"back":     {api.OK, api.ErrNone},
		"commit":   {api.OK, api.ErrNone},
		"rollback": {api.OK, api.ErrNone},
	} {
		for _, e := range errors {
			if seen[face+" "+e.Error()] == 0 {
				t.Errorf("%s never answered %v", face, e)
			}
		}
	}
}

// TestP1303ManyByChance: few sessions do many things, so that one has all changes that it may have.
func TestP1303ManyByChance(t *testing.T) {
	source := rand.New(rand.NewSource(2))
	many := 0
	for range 4 {
		m := model{ahead: make(map[int][]table.Table)}
		var d DB
		for _, s := range shapes()[:3] {
			m.create(s)
			d, _ = Create(d, s)
		}
		for range 300 {
			c := someCall(source, 2, 3, 100)
			if c.face == "rollback" || c.face == "commit" || c.face == "back" && source.Intn(4) > 0 {
				c.face = "put"
			}
			want := m.do(c)
			next, x := c.do(d)
			if show(x) != show(want) || show(next) != show(m.db) {
				t.Fatalf("%+v of\n%+v:\n%+v\n%+v\nnot\n%+v\n%+v", c, d, x, next, want, m.db)
			}
			if x.e == api.ErrMany && c.face != "save" {
				many++
			}
			d = next
		}
	}
	if many == 0 {
		t.Error("no session ever had all changes")
	}
}

// TestP1305AsIfAlone: what those that committed were told, and what they left, is as if they had been done one by one, in the order in which they committed. What was refused because of others (a wait) had no part in it.
func TestP1305AsIfAlone(t *testing.T) {
	source := rand.New(rand.NewSource(3))
	beside := 0
	for range 80 {
		var start DB
		for _, s := range shapes()[:3] {
			start, _ = Create(start, s)
		}
		d, alone := start, start
		did := make(map[int][]call)
		heard := make(map[int][]told)
		for range 150 {
			c := someCall(source, 4, 3, 6)
			if c.face == "create" || c.face == "drop" {
				c.face = "commit"
			}
			next, x := c.do(d)
			d = next
			if x.e == api.ErrWait {
				continue
			}
			if c.face == "begin" && x.e == api.OK {
				did[c.s], heard[c.s] = nil, nil
			}
			did[c.s], heard[c.s] = append(did[c.s], c), append(heard[c.s], x)
			if c.face != "commit" || x.e != api.OK {
				continue
			}
			beside += len(d.Works)
			for i, c := range did[c.s] {
				var again told
				alone, again = c.do(alone)
				if show(again) != show(heard[c.s][i]) {
					t.Fatalf("%+v was told %+v, alone %+v", c, heard[c.s][i], again)
				}
			}
			did[c.s], heard[c.s] = nil, nil
		}
		for s := range api.MaxWork {
			d, _ = Rollback(d, s)
		}
		if show(d) != show(alone) {
			t.Fatalf("left is\n%+v\nalone\n%+v", d, alone)
		}
	}
	if beside == 0 {
		t.Error("nobody was beside another one")
	}
}

// TestP1305NobodyElse: as long as a session that read a table is at work, none but itself changes it.
func TestP1305NobodyElse(t *testing.T) {
	type reading struct {
		s    int
		name string
	}
	read := make(map[reading]string)
	rowsOf := func(d DB, name string) string {
		at := slices.IndexFunc(d.Tables, func(x table.Table) bool { return x.S.Name == name })
		return show(d.Tables[at].Rows)
	}
	held := 0
	byChance(t, 4, 60, 120, func(c call, was, is DB, x told) {
		if len(was.Works) == 0 {
			clear(read)
		}
		atWork := func(s int) bool {
			return slices.ContainsFunc(is.Works, func(w Work) bool { return w.S == s })
		}
		for r, rows := range read {
			switch {
			case !atWork(r.s):
				delete(read, r)
			case r.s == c.s:
				read[r] = rowsOf(is, r.name)
			case rowsOf(is, r.name) != rows:
				t.Fatalf("%+v changed what %d read", c, r.s)
			default:
				held++
			}
		}
		if c.face == "rows" && x.e == api.OK {
			read[reading{c.s, c.name}] = show(x.rows)
		}
	})
	if held == 0 {
		t.Error("nobody read beside another one")
	}
}
