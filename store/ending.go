package store

import (
	"sync"

	"ledgerline/api"
	"ledgerline/txn"
)

// noTx is told as the Id where a session without changes is committed: there is no transaction of it.
const noTx = -1

// ending is the last call of a session. However it goes, the session is at work no more behind it: it is taken back, if it was not committed ahead of that.
type ending struct {
	*Store
	session int
	next    state     // what is laid when the session is committed
	once    sync.Once // done when the session is at work no more
}

// write appends the session's transaction, if it has any changes, and answers its Id.
func (x *ending) write(changes []api.Change) (tx int, e api.Errno) {
	if len(changes) == 0 {
		return noTx, api.OK
	}
	next, tx, record := x.next.add(changes)
	if e := x.append(record); e != api.OK {
		return 0, e
	}
	x.next = next
	return tx, api.OK
}

func (x *ending) commit() {
	x.lay(x.next)
}

func (x *ending) takeBack() {
	was := x.state()
	was.db, _ = txn.Rollback(was.db, x.session)
	x.lay(was)
}
