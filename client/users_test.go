package client_test

import (
	"fmt"
	"maps"
	"slices"

	"gazette/api"
	"gazette/client"
)

// user is a client, and what whoever calls it knows.
type user struct {
	*story
	x       *client.Client
	name    string
	started bool
	fenced  bool // another client of its name started behind it
	torn    bool // a batch that may be there was given up: the numbers are not to be trusted till another Start
	stuck   bool // what it asked last was answered with an error
	weary   bool // it has given up its transaction, whatever became of that, and wants but to start anew
	session int
	pending map[int]*sending
	in      *transaction
	has     bool // its transaction has a place: something was answered OK
}

func passes(e api.Errno) bool {
	return e == api.ErrNone || slices.Contains(passing, e) // no call of these brokers is answered ErrNone
}

// step goes on with what the user does.
func (u *user) step() {
	part := u.r.IntN(u.spec.Parts)
	n := u.r.IntN(20)
	switch {
	case !u.started || u.weary || n == 0 || n < 4 && u.stuck:
		u.start()
	case n < 6:
		u.read(part, n == 4)
	case len(u.pending) > 0 && n < 16:
		u.retry(slices.Sorted(maps.Keys(u.pending))[u.r.IntN(len(u.pending))])
	case u.pending[part] != nil:
		u.refuse(part)
	case u.in == nil:
		u.outside(part, n)
	case u.in.asked != "" || n < 9 && len(u.pending) == 0:
		u.end()
	case n < 11:
		u.promise(part)
	default:
		u.send(part)
	}
}

// outside is a step of one that is in no transaction.
func (u *user) outside(part, n int) {
	if n < 13 && len(u.pending) == 0 || u.torn {
		e := u.x.Begin()
		u.note("begin", e)
		if e == api.OK {
			u.in, u.has = &transaction{promised: map[int]offer{}}, false
			u.txns = append(u.txns, u.in)
		}
		if (e == api.OK) != (len(u.pending) == 0) {
			u.t.Errorf("Begin with %d pending: %d", len(u.pending), e)
		}
		return
	}
	u.send(part)
}

func (u *user) start() {
	e := u.x.Start(pick(u.r, 5, 30, 100, 3600))
	u.note("start", e)
	if e == api.ErrState { // the transaction ahead of it is not marked yet
		u.cluster.Settle()
		return
	}
	if e != api.OK {
		if !passes(e) && !u.full {
			u.t.Errorf("Start: %d", e)
		}
		return
	}
	for _, other := range u.users {
		other.fenced = other.fenced || other != u && other.name == u.name
	}
	u.story.session++
	u.started, u.fenced, u.torn, u.weary, u.session, u.in = true, false, false, false, u.story.session, nil
	clear(u.pending)
}

// send sends a batch to a partition for which nothing is pending.
func (u *user) send(part int) {
	y := &sending{part: part, session: u.session, in: u.in}
	for range 1 + u.r.IntN(3) {
		u.serial++
		y.values = append(y.values, fmt.Sprint("v", u.serial))
	}
	u.all = append(u.all, y)
	n, e := u.x.Send(part, records(y.values...))
	u.answered("send", y, n, e)
}

func (u *user) retry(part int) {
	y := u.pending[part]
	n, e := u.x.Retry(part)
	u.answered("retry", y, n, e)
}

// answered keeps what became of a batch.
func (u *user) answered(what string, y *sending, n int, e api.Errno) {
	if y.in != nil {
		what += " in a transaction"
	}
	u.note(what, e)
	u.stuck = e != api.OK
	if u.fenced && y.in != nil {
		u.counts["fenced send"]++
		if e == api.OK {
			u.t.Errorf("%s of one that is fenced: OK", what)
		}
	}
	tried := u.pending[y.part] != nil
	delete(u.pending, y.part)
	switch {
	case e == api.OK:
		y.told, y.offset = true, n
		u.has = true
		for i, v := range y.values {
			u.see(y.part, n+i, v)
		}
	case u.x.Pending(y.part):
		u.pending[y.part], y.last = y, e
		// The transaction ahead of it is not marked yet, or the client is fenced.
		if !passes(e) && !(y.in != nil && e == api.ErrState) && !y.refused() && !u.full {
			u.t.Errorf("%s: %d, and it is pending", what, e)
		}
	case passes(e):
		u.t.Errorf("%s: %d, and it is not pending", what, e)
	case e == api.ErrFence || e == api.ErrState:
		u.torn = u.torn || tried
	case !u.full:
		u.t.Errorf("%s: %d", what, e)
	}
}

// refuse asks for what may not be while something is pending.
func (u *user) refuse(part int) {
	_, e := u.x.Send(part, records("never"))
	check(u.t, "Send with something pending", e, api.ErrState)
	check(u.t, "Begin with something pending", u.x.Begin(), api.ErrState)
	check(u.t, "End with something pending", u.x.End(true), api.ErrState)
}

// end asks the same till it ends.
func (u *user) end() {
	if u.in.asked == "" {
		u.in.asked = fmt.Sprint(u.r.IntN(3) > 0)
	}
	e := u.x.End(u.in.asked == "true")
	u.note("end "+u.in.asked, e)
	u.stuck = e != api.OK
	if u.fenced && u.has {
		u.counts["fenced end"]++
		if e == api.OK {
			u.t.Errorf("End of one that is fenced: OK")
		}
	}
	u.in.ended = e == api.OK
	if passes(e) {
		checkInTxn(u.t, u.x, true)
		u.weary = u.r.IntN(3) == 0
		return
	}
	if e != api.OK && e != api.ErrFence && !u.full {
		u.t.Errorf("End: %d", e)
	}
	checkInTxn(u.t, u.x, false)
	u.in = nil
}

func (u *user) promise(part int) {
	u.serial++
	e := u.x.Promise(0, "m", 1, part, u.serial)
	u.note("promise", e)
	u.in.promised[u.serial] = offer{part, e == api.OK}
	u.has = u.has || e == api.OK
}

func (u *user) read(part int, committed bool) {
	rows, next, e := u.x.Read(part, 0, many, committed)
	u.note("read", e)
	u.seeRows(part, rows)
	if e == api.OK && len(rows) > 0 && next <= rows[len(rows)-1].Offset {
		u.t.Errorf("Read: next is %d", next)
	}
	if e != api.OK && !passes(e) && !u.full {
		u.t.Errorf("Read: %d", e)
	}
}

// finish retries what is pending till that ends, and perhaps ends the transaction. All is well.
func (u *user) finish() {
	for n := 0; n < 20 && u.retryAll(); n++ {
		u.cluster.Well()
		u.cluster.Settle()
	}
	for _, y := range u.pending {
		if !u.full && !y.refused() {
			u.t.Errorf("%v does not end: %d", y.values, y.last)
		}
	}
	for u.in != nil && !u.weary && len(u.pending) == 0 && !u.full && u.r.IntN(50) > 0 {
		u.end()
	}
}

// retryAll retries all that is pending, but what is refused, and tells whether there was some.
func (u *user) retryAll() (some bool) {
	for _, part := range slices.Sorted(maps.Keys(u.pending)) {
		if !u.pending[part].refused() {
			u.retry(part)
			some = true
		}
	}
	return some
}
