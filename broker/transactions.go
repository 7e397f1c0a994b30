package broker

import (
	"gazette/api"
	"gazette/group"
	"gazette/ledger"
	"gazette/txn"
)

// Txn writes an event of transactions. Of an Init it answers the producer and its epoch.
func (b *Broker) Txn(x txn.Event) (producer, epoch int, e api.Errno) {
	if !b.made() || x.Kind == txn.Marked {
		return 0, 0, api.ErrArg
	}
	k, e := b.books.hold(bookKey)
	if e != api.OK {
		return 0, 0, e
	}
	if _, e := b.books.write(bookKey, x); e != api.OK {
		return 0, 0, e
	}
	switch x.Kind {
	case txn.Init:
		producer, epoch, _ = k.Find(x.Name)
	case txn.End, txn.Expire:
		// It is decided already: what can't be marked now is marked by whoever comes next.
		b.Finish()
	}
	return producer, epoch, api.OK
}

// Finish writes the markers of all transactions that are decided, and answers how many are left.
func (b *Broker) Finish() (int, api.Errno) {
	if !b.made() {
		return 0, api.ErrArg
	}
	k, e := b.books.look(bookKey)
	if e != api.OK {
		return 0, e
	}
	todo := k.Todo()
	for i, x := range todo {
		if e := b.finish(x, b.marking(x.Place)); e != api.OK {
			return len(todo) - i, e
		}
	}
	return 0, api.OK
}

// finish has a place marked, and writes down that it was: the other way round a marker could be left out.
func (b *Broker) finish(x txn.Todo, mark func(txn.Todo) api.Errno) api.Errno {
	// A place that knows a newer epoch needs no marker of an elder one.
	if e := mark(x); e != api.OK && e != api.ErrFence {
		return e
	}
	if !b.books.has(bookKey) {
		return api.ErrOwner
	}
	_, e := b.books.write(bookKey, txn.Event{Kind: txn.Marked, Producer: x.Producer, Epoch: x.Epoch, Place: x.Place})
	return e
}

// marking answers how a place is marked.
func (b *Broker) marking(place int) func(txn.Todo) api.Errno {
	switch {
	case place < b.parts:
		return func(x txn.Todo) api.Errno {
			_, e := b.partitions.write(place, ledger.Entry{Kind: ledger.Batches, Batch: marker(x)})
			return e
		}
	case place >= firstGroup && place < firstGroup+maxGroups:
		return func(x txn.Todo) api.Errno {
			_, e := b.groups.write(place, group.Event{Kind: group.Mark, Producer: x.Producer, Epoch: x.Epoch, Yes: x.Yes})
			return e
		}
	}
	return func(txn.Todo) api.Errno { return api.OK }
}

func marker(x txn.Todo) api.Batch {
	kind := api.Abort
	if x.Yes {
		kind = api.Commit
	}
	return api.Batch{Kind: kind, Producer: x.Producer, Epoch: x.Epoch}
}
