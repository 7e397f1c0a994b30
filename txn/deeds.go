package txn

import (
	"iter"

	"gazette/api"
)

// questions has, by Kinds, what is asked ahead of an event that may be: whether it is refused, or done.
func (b *Book) questions() map[int]func(Event) (done bool, e api.Errno) {
	return map[int]func(Event) (done bool, e api.Errno){
		Init:   b.askInit,
		Add:    b.askAdd,
		End:    b.askEnd,
		Marked: b.askMarked,
		Expire: b.askExpire,
	}
}

// deeds has, by Kinds, what an event does that is taken, and not done.
func (b *Book) deeds() map[int]func(Event) {
	return map[int]func(Event){
		Init:   b.grant,
		Add:    b.add,
		End:    b.end,
		Marked: b.marked,
		Expire: b.expire,
	}
}

func (b *Book) askInit(x Event) (done bool, e api.Errno) {
	number, is := b.numbers[x.Name]
	switch {
	case !is && len(b.producers) == maxProducers:
		return false, api.ErrFull
	case !is:
		return false, api.OK
	case b.producers[number].isDecided():
		return false, api.ErrState
	case b.producers[number].epoch == maxEpoch:
		return false, api.ErrOver
	}
	return false, api.OK
}

func (b *Book) askAdd(x Event) (done bool, e api.Errno) {
	p, e := b.writer(x)
	switch {
	case e != api.OK:
		return false, e
	case p.isDecided():
		return false, api.ErrState
	case p.has(x.Place):
		return true, api.OK
	case len(p.places) == maxPlaces:
		return false, api.ErrFull
	}
	return false, api.OK
}

func (b *Book) askEnd(x Event) (done bool, e api.Errno) {
	p, e := b.writer(x)
	switch {
	case e != api.OK:
		return false, e
	case p.status == Open:
		return false, api.OK
	case p.status == Empty || p.status == outcome(x.Yes):
		return true, api.OK
	}
	return false, api.ErrState
}

func (b *Book) askMarked(x Event) (done bool, e api.Errno) {
	p, e := b.writer(x)
	if e != api.OK {
		return false, e
	}
	return !p.isDecided() || !p.has(x.Place), api.OK
}

func (b *Book) askExpire(x Event) (done bool, e api.Errno) {
	for range b.over(x.Now) {
		return false, api.OK
	}
	return true, api.OK
}

// grant: whoever has the name by now is the one who asked last; what the one ahead of it left open does not count.
func (b *Book) grant(x Event) {
	number, is := b.numbers[x.Name]
	if !is {
		b.numbers[x.Name] = len(b.producers)
		b.producers = append(b.producers, producer{timeout: x.Timeout})
		return
	}
	p := &b.producers[number]
	p.epoch++
	p.timeout = x.Timeout
	if p.status == Open {
		p.decide(false)
	}
}

func (b *Book) add(x Event) { b.producers[x.Producer].add(x.Place, x.Now) }

func (b *Book) end(x Event) { b.producers[x.Producer].decide(x.Yes) }

func (b *Book) marked(x Event) { b.producers[x.Producer].mark(x.Place) }

func (b *Book) expire(x Event) {
	for p := range b.over(x.Now) {
		p.epoch = min(p.epoch+1, maxEpoch)
		p.decide(false)
	}
}

// writer is the producer that x is of, if x has its present epoch.
func (b *Book) writer(x Event) (*producer, api.Errno) {
	p := b.at(x.Producer)
	if p == nil {
		return nil, api.ErrNone
	}
	if p.epoch != x.Epoch {
		return nil, api.ErrFence
	}
	return p, api.OK
}

// over goes through those whose time is over.
func (b *Book) over(now int) iter.Seq[*producer] {
	return func(yield func(*producer) bool) {
		for number := range b.producers {
			p := &b.producers[number]
			if p.isOver(now) && !yield(p) {
				return
			}
		}
	}
}
