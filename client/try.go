package client

import (
	"gazette/api"
	"gazette/broker"
	"gazette/txn"
)

// try makes a call of the broker whose turn it is, and of those behind it, till one tells what does not pass, or the tries are over. passes tells that they are: what became of the call is open then.
func try[T any](x *Client, call func(*broker.Broker) (T, api.Errno)) (told T, e api.Errno, passes bool) {
	passes = true
tries:
	for range x.tries {
		b, absent := x.cluster.Broker(x.turn)
		if e = absent; absent == api.OK {
			told, e = call(b)
		}
		switch {
		case absent == api.ErrNone:
			x.turn = 0
		case absent != api.OK || isPassing(e):
			x.turn++
		default:
			passes = false
			break tries
		}
	}
	return told, e, passes
}

// isPassing tells whether another broker, or the same one later, may say something else than the error of a broker's call.
func isPassing(e api.Errno) bool {
	_, is := passing()[e]
	return is
}

func passing() map[api.Errno]struct{} {
	return map[api.Errno]struct{}{
		api.ErrPower: {}, api.ErrSeal: {}, api.ErrTwice: {}, api.ErrLost: {}, api.ErrStale: {}, api.ErrOwner: {},
	}
}

// tell tries to have an event of transactions written.
func (x *Client) tell(event txn.Event) (who identity, e api.Errno, passes bool) {
	return try(x, func(b *broker.Broker) (identity, api.Errno) {
		producer, epoch, e := b.Txn(event)
		return identity{producer, epoch}, e
	})
}
