package broker_test

import (
	"fmt"

	"gazette/api"
	"gazette/broker"
)

// passes tells whether an error leaves open what became of the call.
func passes(e api.Errno) bool {
	switch e {
	case api.ErrSeal, api.ErrTwice, api.ErrLost, api.ErrStale, api.ErrOwner, api.ErrFull:
		return true
	}
	return false
}

// sending is a batch that a sender has sent, and its offset, if that was told.
type sending struct {
	batch  api.Batch
	offset int
	told   bool
}

// sender sends batches to one partition, each till it is answered OK, and elder ones again.
type sender struct {
	*story
	producer, epoch, part int
	all                   []*sending // of its epoch
	elder                 []*sending // of epochs that are over
}

// next is the batch that is not answered yet: the last one, or a new one.
func (x *sender) next() *sending {
	seq := 0
	if n := len(x.all); n > 0 {
		last := x.all[n-1]
		if !last.told {
			return last
		}
		seq = last.batch.Seq + len(last.batch.Records)
	}
	b := of(x.producer, x.epoch, seq, x.values(x.part, x.producer, none)...)
	x.all = append(x.all, &sending{batch: b})
	return x.all[len(x.all)-1]
}

func (x *sender) step(b *broker.Broker) {
	switch n := x.r.IntN(12); {
	case n == 0 && len(x.all) > 0:
		x.renew()
	case n < 4 && len(x.all) > 0:
		x.again(b, x.r.IntN(len(x.all)))
	case n == 4 && len(x.elder) > 0:
		x.tooLate(b)
	default:
		x.send(b)
	}
}

func (x *sender) send(b *broker.Broker) {
	y := x.next()
	n, e := b.Produce(x.part, y.batch)
	x.count("send", e)
	if e == api.OK {
		x.note(y, n)
	} else if !passes(e) {
		x.t.Errorf("Produce(%d, %s): %d", x.part, brief(y.batch), e)
	}
}

// note keeps an offset that was told, and holds it against one that was told ahead of it.
func (x *sender) note(y *sending, offset int) {
	if y.told && y.offset != offset {
		x.t.Errorf("Produce(%d, %s): %d, where it was %d", x.part, brief(y.batch), offset, y.offset)
	}
	y.offset, y.told = offset, true
	x.tell(x.part, offset, y.batch)
}

// again sends a batch of the epoch once more. The last five are told their offsets; of the one that is not answered nobody knows whether it is one of them.
func (x *sender) again(b *broker.Broker, i int) {
	y := x.all[i]
	n, e := b.Produce(x.part, y.batch)
	x.count("again", e)
	behind, sure := len(x.all)-i, x.all[len(x.all)-1].told
	switch {
	case e == api.OK && (behind > api.Window+1 || behind > api.Window && sure):
		x.t.Errorf("Produce(%d, %s): %d, OK, behind %d others", x.part, brief(y.batch), n, behind-1)
	case e == api.OK:
		x.note(y, n)
	case e == api.ErrDup && behind > api.Window:
	case !passes(e):
		x.t.Errorf("Produce(%d, %s): %d, behind %d others", x.part, brief(y.batch), e, behind-1)
	}
}

// renew begins another epoch. What was not answered is never sent again.
func (x *sender) renew() {
	if x.all[0].told {
		x.elder = x.all
	}
	x.epoch++
	x.all = nil
}

// tooLate sends what is of an elder epoch, when the present one was told.
func (x *sender) tooLate(b *broker.Broker) {
	if len(x.all) == 0 || !x.all[0].told {
		return
	}
	y := x.elder[x.r.IntN(len(x.elder))]
	_, e := b.Produce(x.part, y.batch)
	x.count("too late", e)
	if e != api.ErrFence && !passes(e) {
		x.t.Errorf("Produce(%d, %s): %d; the epoch is %d", x.part, brief(y.batch), e, x.epoch)
	}
}

// client writes in transactions, one behind the other. Which one it is stands in its Adds, as their Now.
type client struct {
	*story
	name            string
	place           int // the group's partition that it promises offsets of
	producer, epoch int
	started         bool
	seq             [2]int
	pending         [2]*api.Batch
	tag             int // of its transaction
	places          map[int]int
	ending          bool // an End was sent
	yes             bool
}

// promised is an offset that a client promised.
type promised struct {
	tag, offset int
	told        bool
}

func (c *client) step(b *broker.Broker) {
	if !c.started {
		c.start(b)
		return
	}
	if c.tag == none {
		c.begin()
	}
	part := c.r.IntN(2)
	switch n := c.r.IntN(40); {
	case n == 0:
		c.start(b)
	case n < 2:
		c.fenced(b, part)
	case n < 8 || c.ending:
		c.end(b)
	case n < 14:
		c.promise(b)
	default:
		c.produce(b, part)
	}
}

func (c *client) begin() {
	c.now++
	c.tag, c.places, c.ending = c.now, map[int]int{}, false
}

// giveUp: somebody has started anew with the client's name, or its time was over, or it does not know what it wrote.
func (c *client) giveUp() { c.started, c.tag = false, none }

func (c *client) start(b *broker.Broker) {
	c.giveUp()
	producer, epoch, e := b.Txn(start(c.name, 8+c.r.IntN(30), c.now))
	c.count("start", e)
	if e != api.OK {
		if e != api.ErrState && !passes(e) {
			c.t.Errorf("Init of %s: %d", c.name, e)
		}
		return
	}
	if producer != c.producer && c.epoch >= 0 || epoch <= c.epoch {
		c.t.Errorf("Init of %s: %d, %d behind %d, %d", c.name, producer, epoch, c.producer, c.epoch)
	}
	c.producer, c.epoch, c.started = producer, epoch, true
	c.seq, c.pending = [2]int{}, [2]*api.Batch{}
}

// add has the transaction write to a place.
func (c *client) add(b *broker.Broker, place int) bool {
	if c.places[place] > 0 {
		return true
	}
	_, _, e := b.Txn(add(c.producer, c.epoch, place, c.tag))
	if e == api.ErrState { // the transaction ahead of it is not marked yet
		c.count("add", e)
		b.Finish()
		return false
	}
	c.answered("add", e)
	if e == api.OK {
		c.places[place] = 1
	}
	return e == api.OK
}

// answered counts an answer. Who is fenced gives up.
func (c *client) answered(what string, e api.Errno) {
	c.count(what, e)
	switch {
	case e == api.ErrFence:
		c.giveUp()
	case e != api.OK && !passes(e):
		c.t.Errorf("%s of %s: %d", what, c.name, e)
	}
}

func (c *client) produce(b *broker.Broker, part int) {
	if !c.add(b, part) {
		return
	}
	if c.pending[part] == nil {
		x := in(c.producer, c.epoch, c.seq[part], c.values(part, c.producer, c.tag)...)
		c.pending[part] = &x
	}
	x := *c.pending[part]
	n, e := b.Produce(part, x)
	c.answered("produce", e)
	if e == api.OK {
		c.tell(part, n, x)
		c.seq[part] += len(x.Records)
		c.pending[part] = nil
	}
}

// fenced sends what is of an elder epoch: nobody ever wants to see that.
func (c *client) fenced(b *broker.Broker, part int) {
	if c.epoch == 0 {
		return
	}
	_, e := b.Produce(part, in(c.producer, c.epoch-1, 0, "never"))
	c.count("fenced", e)
	if e != api.ErrFence && !passes(e) {
		c.t.Errorf("Produce of %s with the epoch %d behind %d: %d", c.name, c.epoch-1, c.epoch, e)
	}
}

func (c *client) promise(b *broker.Broker) {
	if !c.add(b, 200) {
		return
	}
	c.serial++
	x := &promised{tag: c.tag, offset: c.serial}
	_, _, e := b.Group(0, promise("m", c.gen, c.place, x.offset, c.producer, c.epoch))
	if e == api.ErrGroup {
		c.count("promise", e)
		return
	}
	c.answered("promise", e)
	x.told = e == api.OK
	c.promises[c.place] = append(c.promises[c.place], x)
}

func (c *client) end(b *broker.Broker) {
	if !c.ending {
		c.ending, c.yes = true, c.r.IntN(3) > 0
	}
	if c.yes {
		c.tried[c.tag]++
	}
	_, _, e := b.Txn(end(c.producer, c.epoch, c.yes))
	if e == api.ErrState && len(c.places) == 0 { // the transaction ahead of it is not marked yet
		c.count("end", e)
		b.Finish()
		return
	}
	c.answered("end", e)
	if e != api.OK {
		return
	}
	c.ended[c.tag] = fmt.Sprint(c.yes)
	c.tag = none
	if c.pending[0] != nil || c.pending[1] != nil {
		c.giveUp()
	}
}
