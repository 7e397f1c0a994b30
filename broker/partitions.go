package broker

import (
	"slices"

	"gazette/api"
	"gazette/batch"
	"gazette/ledger"
	"gazette/txn"
)

// Produce appends a batch, and answers its offset.
func (b *Broker) Produce(part int, x api.Batch) (int, api.Errno) {
	if !b.serves(part) || x.Kind != api.Plain {
		return 0, api.ErrArg
	}
	if e := batch.Check(x); e != api.OK {
		return 0, e
	}
	if x.InTxn {
		if e := b.admit(part, x); e != api.OK {
			return 0, e
		}
	}
	return b.partitions.write(part, ledger.Entry{Kind: ledger.Batches, Batch: x})
}

// Fetch tells rows of a partition from an offset on, and the offset from which to go on.
func (b *Broker) Fetch(part, from, most int, committed bool) ([]ledger.Row, int, api.Errno) {
	if !b.serves(part) {
		return nil, 0, api.ErrArg
	}
	p, e := b.partitions.look(part)
	if e != api.OK {
		return nil, 0, e
	}
	return p.Fetch(from, most, committed)
}

// Ends tells a partition's offsets: what is given up, stable, and there lies ahead of them.
func (b *Broker) Ends(part int) (start, stable, end int, e api.Errno) {
	if !b.serves(part) {
		return 0, 0, 0, api.ErrArg
	}
	p, e := b.partitions.look(part)
	if e != api.OK {
		return 0, 0, 0, e
	}
	return p.Start(), p.Stable(), p.End(), api.OK
}

// Change gives up, or compacts, what lies ahead of n.
func (b *Broker) Change(part, kind, n int) api.Errno {
	if !b.serves(part) {
		return api.ErrArg
	}
	if _, e := b.partitions.hold(part); e != api.OK {
		return e
	}
	if kind != ledger.Retain && kind != ledger.Compact {
		return api.ErrArg
	}
	_, e := b.partitions.write(part, ledger.Entry{Kind: kind, N: n})
	return e
}

// serves tells whether b was made, and there is such a partition.
func (b *Broker) serves(part int) bool { return b.made() && part >= 0 && part < b.parts }

// admit tells whether a batch that is InTxn may come to a partition: else rows could come behind the marker that decides them.
func (b *Broker) admit(part int, x api.Batch) api.Errno {
	k, e := b.books.look(bookKey)
	if e != api.OK {
		return e
	}
	status, epoch, is := k.Status(x.Producer)
	switch {
	case !is:
		return api.ErrNone
	case epoch != x.Epoch:
		return api.ErrFence
	case status != txn.Open || !slices.Contains(k.Places(x.Producer), part):
		return api.ErrState
	}
	return api.OK
}
