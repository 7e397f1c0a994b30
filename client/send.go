package client

import (
	"slices"

	"gazette/api"
	"gazette/batch"
	"gazette/broker"
)

// Send sends records to a partition, and answers the first one's offset. Where nobody says what became of them they are pending: Retry sends them again.
func (x *Client) Send(part int, records []api.Record) (int, api.Errno) {
	if !x.made() {
		return 0, api.ErrArg
	}
	if !x.started || x.waits(part) {
		return 0, api.ErrState
	}
	b := api.Batch{
		Kind: api.Plain, Producer: x.who.producer, Epoch: x.who.epoch, Seq: x.next[part], InTxn: x.inTxn, Records: records,
	}
	if e := batch.Check(b); e != api.OK {
		return 0, e
	}
	b.Records = slices.Clone(records)
	x.pending[part] = b
	return x.Retry(part)
}

// Retry sends what is pending for a partition, with the number that it had the first time: so it is there once, however often it is sent.
func (x *Client) Retry(part int) (int, api.Errno) {
	if !x.made() {
		return 0, api.ErrArg
	}
	if !x.waits(part) {
		return 0, api.ErrNone
	}
	b := x.pending[part]
	if b.InTxn {
		if e := x.add(part); e != api.OK {
			return 0, e
		}
	}
	offset, e, passes := try(x, func(to *broker.Broker) (int, api.Errno) { return to.Produce(part, b) })
	if e == api.OK {
		x.next[part] += len(b.Records)
	}
	if !passes {
		delete(x.pending, part)
	}
	return offset, e
}
