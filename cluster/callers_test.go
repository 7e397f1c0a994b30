package cluster_test

import (
	"fmt"
	"math/rand/v2"

	"gazette/api"
	"gazette/broker"
	"gazette/group"
	"gazette/ledger"
	"gazette/txn"
)

// callers draw calls of brokers, most of which may be.
type callers struct {
	r      *rand.Rand
	parts  int
	epochs map[int]int    // of producers, as they were told
	next   map[[2]int]int // by producers and partitions: the number that comes next
	gen    int            // of the group
	serial int
}

func newCallers(r *rand.Rand, parts int) *callers {
	return &callers{r: r, parts: parts, epochs: map[int]int{}, next: map[[2]int]int{}}
}

// a calling is a call that is drawn: it can be made of one broker, and of another one of which it is told the same.
type calling func(*broker.Broker) (string, api.Errno)

func (x *callers) draw(now int) calling {
	part := x.r.IntN(x.parts)
	switch n := x.r.IntN(24); {
	case n < 5:
		return x.produce(part)
	case n < 9:
		return x.produceIn(part)
	case n < 11:
		committed := n == 10
		return func(b *broker.Broker) (string, api.Errno) {
			rows, next, e := b.Fetch(part, 0, many, committed)
			return fmt.Sprint("fetch ", rows, next), e
		}
	case n < 13:
		return func(b *broker.Broker) (string, api.Errno) {
			x, y, z, e := b.Ends(part)
			return fmt.Sprint("ends ", x, y, z), e
		}
	case n < 15:
		return x.init(now)
	case n < 19:
		return x.event(add(x.producer(), 0, pick(x.r, part, part, part, 200, 300), now))
	case n < 20:
		return x.event(end(x.producer(), 0, x.r.IntN(3) > 0))
	case n < 21:
		return func(b *broker.Broker) (string, api.Errno) {
			n, e := b.Finish()
			return fmt.Sprint("finish ", n), e
		}
	case n < 22:
		kind, n := pick(x.r, ledger.Retain, ledger.Compact), x.r.IntN(4)
		return func(b *broker.Broker) (string, api.Errno) { return "change ", b.Change(part, kind, n) }
	}
	return x.meet(now)
}

// producer is one that was told, or the first one.
func (x *callers) producer() int { return x.r.IntN(max(1, len(x.epochs))) }

func (x *callers) value() string {
	x.serial++
	return fmt.Sprint("v", x.serial)
}

func (x *callers) produce(part int) calling {
	batch := nobodys(x.value())
	return func(b *broker.Broker) (string, api.Errno) {
		n, e := b.Produce(part, batch)
		return fmt.Sprint("produce ", n), e
	}
}

// produceIn sends what comes next in a producer's transaction.
func (x *callers) produceIn(part int) calling {
	p := x.producer()
	at := [2]int{p, part}
	batch := in(p, x.epochs[p], x.next[at], x.value(), x.value())
	return func(b *broker.Broker) (string, api.Errno) {
		n, e := b.Produce(part, batch)
		if e == api.OK {
			x.next[at] = batch.Seq + 2
		}
		return fmt.Sprint("in ", n), e
	}
}

func (x *callers) init(now int) calling {
	event := start(pick(x.r, "x", "x", "x", "y"), pick(x.r, 1, 10, 100, 3600), now)
	return func(b *broker.Broker) (string, api.Errno) {
		p, epoch, e := b.Txn(event)
		if e == api.OK {
			x.epochs[p] = epoch
			for part := range x.parts {
				x.next[[2]int{p, part}] = 0
			}
		}
		return fmt.Sprint("init ", p, epoch), e
	}
}

// event has the producer's epoch, as it was told.
func (x *callers) event(event txn.Event) calling {
	event.Epoch = x.epochs[event.Producer]
	return func(b *broker.Broker) (string, api.Errno) {
		p, epoch, e := b.Txn(event)
		return fmt.Sprint("txn ", p, epoch), e
	}
}

// meet has members come and go, and promise offsets in transactions.
func (x *callers) meet(now int) calling {
	event := pick(x.r, join("m", now), join("m", now), join("n", now), silent(now))
	if x.gen > 0 && x.r.IntN(2) == 0 {
		p := x.producer()
		event = group.Event{Kind: group.Promise, Member: "m", Gen: x.gen, Offset: x.r.IntN(50), Producer: p, Epoch: x.epochs[p]}
	}
	return func(b *broker.Broker) (string, api.Errno) {
		gen, share, e := b.Group(0, event)
		if e == api.OK {
			x.gen = gen
		}
		n, is, f := b.Offset(0, 0)
		return fmt.Sprint("group ", gen, share, n, is, f), e
	}
}
