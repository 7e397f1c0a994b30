package broker

import (
	"gazette/api"
	"gazette/vlog"
)

// held is a log that the broker has, and what its entries made.
type held[S any] struct {
	log   *vlog.Log
	state S
}

// shelf has what the broker holds of one kind of logs, by their keys.
type shelf[X any, S state[X]] struct {
	open  func(key int) (*vlog.Log, api.Errno)
	fresh func() S
	held  map[int]held[S]
}

func newShelf[X any, S state[X]](open func(key int) (*vlog.Log, api.Errno), fresh func() S) shelf[X, S] {
	return shelf[X, S]{open: open, fresh: fresh, held: map[int]held[S]{}}
}

// has tells whether the broker has the log of a key, as far as it knows.
func (s shelf[X, S]) has(key int) bool {
	h, is := s.held[key]
	return is && !h.log.Lost()
}

// hold answers the state of a key: that of a log that the broker has, or opens now.
func (s shelf[X, S]) hold(key int) (S, api.Errno) {
	if s.has(key) {
		return s.held[key].state, api.OK
	}
	delete(s.held, key)
	var none S
	log, e := s.open(key)
	if e != api.OK {
		return none, e
	}
	now := s.fresh()
	if e := replay[X](log, now); e != api.OK {
		return none, e
	}
	s.held[key] = held[S]{log, now}
	return now, api.OK
}

// keep takes a step with the log of a key that is held. Where it fails nobody knows what the log has by now: only another opening finds out.
func (s shelf[X, S]) keep(key int, step func(*vlog.Log) api.Errno) api.Errno {
	e := step(s.held[key].log)
	if e != api.OK {
		delete(s.held, key)
	}
	return e
}

// sure asks whether nobody else has opened the log of a key that is held.
func (s shelf[X, S]) sure(key int) api.Errno { return s.keep(key, (*vlog.Log).Mine) }

// look answers the state of a key, if it is sure. Beside an error the state is worth nothing.
func (s shelf[X, S]) look(key int) (S, api.Errno) {
	now, e := s.hold(key)
	if e == api.OK {
		e = s.sure(key)
	}
	return now, e
}

// write writes x to a key, which it holds first.
func (s shelf[X, S]) write(key int, x X) (int, api.Errno) {
	now, e := s.hold(key)
	if e != api.OK {
		return 0, e
	}
	sure := func() api.Errno { return s.sure(key) }
	lay := func(b []byte) api.Errno {
		return s.keep(key, func(log *vlog.Log) api.Errno {
			_, e := log.Append(b)
			return e
		})
	}
	return write[X](now, x, sure, lay)
}
