package client

import (
	"gazette/api"
	"gazette/broker"
	"gazette/group"
	"gazette/txn"
)

const (
	maxGroups  = 100
	firstGroup = 200 // the place of the group 0; a partition's place is its number
)

// Begin begins a transaction. No broker knows of it till it has a place.
func (x *Client) Begin() api.Errno {
	if !x.made() {
		return api.ErrArg
	}
	if !x.started || x.inTxn || len(x.pending) > 0 {
		return api.ErrState
	}
	x.inTxn = true
	return api.OK
}

// End has all that was written in the transaction count, or nothing of it.
func (x *Client) End(yes bool) api.Errno {
	if !x.made() {
		return api.ErrArg
	}
	if !x.inTxn || len(x.pending) > 0 {
		return api.ErrState
	}
	var e api.Errno
	var passes bool
	if len(x.places) > 0 {
		_, e, passes = x.tell(txn.Event{Kind: txn.End, Producer: x.who.producer, Epoch: x.who.epoch, Yes: yes})
	}
	if !passes {
		x.leave()
	}
	return e
}

// Promise has a member's offset count with the transaction, and only with it.
func (x *Client) Promise(g int, member string, gen, part, offset int) api.Errno {
	if !x.made() {
		return api.ErrArg
	}
	if !x.inTxn {
		return api.ErrState
	}
	if g < 0 || g >= maxGroups {
		return api.ErrArg
	}
	if e := x.add(firstGroup + g); e != api.OK {
		return e
	}
	event := group.Event{
		Kind: group.Promise, Member: member, Gen: gen, Part: part, Offset: offset,
		Producer: x.who.producer, Epoch: x.who.epoch,
	}
	_, e, _ := try(x, func(b *broker.Broker) (struct{}, api.Errno) {
		_, _, e := b.Group(g, event)
		return struct{}{}, e
	})
	return e
}

// add has a place be one of the transaction's: only there a broker takes what belongs to it.
func (x *Client) add(place int) api.Errno {
	if _, is := x.places[place]; is {
		return api.OK
	}
	_, e, _ := x.tell(txn.Event{Kind: txn.Add, Producer: x.who.producer, Epoch: x.who.epoch, Place: place, Now: x.cluster.Now()})
	if e == api.OK {
		x.places[place] = struct{}{}
	}
	return e
}

// leave has the client be in no transaction.
func (x *Client) leave() { x.inTxn, x.places = false, map[int]struct{}{} }
