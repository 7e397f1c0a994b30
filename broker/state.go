package broker

import (
	"gazette/api"
	"gazette/group"
	"gazette/ledger"
	"gazette/txn"
	"gazette/vlog"
)

// state is what the entries of a log make, one behind the other. X is what such an entry is.
type state[X any] interface {
	// decide tells what becomes of x. Where it is done there is nothing to write; the offset is told by partitions alone.
	decide(x X) (offset int, done bool, e api.Errno)
	apply(x X) api.Errno
	encode(x X) ([]byte, api.Errno)
	decode(b []byte) (X, api.Errno)
}

// replay applies all that a log has.
func replay[X any](log *vlog.Log, to state[X]) api.Errno {
	for addr := log.Trimmed(); addr < log.Next(); addr++ {
		b, e := log.Read(addr)
		if e != api.OK {
			return e
		}
		x, e := to.decode(b)
		if e != api.OK || to.apply(x) != api.OK {
			return api.ErrForm
		}
	}
	return api.OK
}

// write has x laid behind all that there is, and answers what the state decides of it. What it answers without a new entry is only right, if sure says so: somebody else may have written what the state does not know.
func write[X any](to state[X], x X, sure func() api.Errno, lay func([]byte) api.Errno) (int, api.Errno) {
	offset, done, e := to.decide(x)
	if e != api.OK || done {
		if unsure := sure(); unsure != api.OK {
			return 0, unsure
		}
		return offset, e
	}
	// What the state takes may be, so there are bytes of it.
	b, _ := to.encode(x)
	if e := lay(b); e != api.OK {
		return 0, e
	}
	to.apply(x)
	return offset, api.OK
}

// partition is a ledger as a state.
type partition struct{ *ledger.Ledger }

func newPartition() partition { return partition{ledger.New()} }

func (p partition) decide(x ledger.Entry) (offset int, done bool, e api.Errno) { return p.Decide(x) }

func (p partition) apply(x ledger.Entry) api.Errno {
	_, e := p.Apply(x)
	return e
}

func (p partition) encode(x ledger.Entry) ([]byte, api.Errno) { return ledger.PutEntry(x) }

func (p partition) decode(b []byte) (ledger.Entry, api.Errno) { return ledger.GetEntry(b) }

// book is a txn.Book as a state.
type book struct{ *txn.Book }

func newBook() book { return book{txn.New()} }

func (k book) decide(x txn.Event) (offset int, done bool, e api.Errno) {
	done, e = k.Decide(x)
	return 0, done, e
}

func (k book) apply(x txn.Event) api.Errno { return k.Apply(x) }

func (k book) encode(x txn.Event) ([]byte, api.Errno) { return txn.PutEvent(x) }

func (k book) decode(b []byte) (txn.Event, api.Errno) { return txn.GetEvent(b) }

// circle is a group as a state.
type circle struct{ *group.Group }

// newCircle takes only parts and a session that may be.
func newCircle(parts, session int) circle {
	g, _ := group.New(parts, session)
	return circle{g}
}

func (c circle) decide(x group.Event) (offset int, done bool, e api.Errno) {
	done, e = c.Decide(x)
	return 0, done, e
}

func (c circle) apply(x group.Event) api.Errno { return c.Apply(x) }

func (c circle) encode(x group.Event) ([]byte, api.Errno) { return group.PutEvent(x) }

func (c circle) decode(b []byte) (group.Event, api.Errno) { return group.GetEvent(b) }
