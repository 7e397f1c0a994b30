package txn

import "slices"

// Statuses of a producer's transaction.
const (
	Empty = iota
	Open
	Committing
	Aborting
)

// producer is one who writes in transactions, one behind the other.
type producer struct {
	timeout int
	epoch   int
	status  int
	since   int   // when it became Open; it counts only while it is
	places  []int // rising
}

// outcome is the status of a transaction that was decided so.
func outcome(yes bool) int {
	if yes {
		return Committing
	}
	return Aborting
}

func (p *producer) isDecided() bool { return p.status == Committing || p.status == Aborting }

func (p *producer) isOver(now int) bool { return p.status == Open && p.since+p.timeout <= now }

func (p *producer) has(place int) bool {
	_, is := slices.BinarySearch(p.places, place)
	return is
}

func (p *producer) add(place, now int) {
	if p.status == Empty {
		p.status, p.since = Open, now
	}
	at, _ := slices.BinarySearch(p.places, place)
	p.places = slices.Insert(p.places, at, place)
}

// decide ends what the transaction writes: from now on it waits for its markers.
func (p *producer) decide(yes bool) {
	p.status = outcome(yes)
	p.settle()
}

func (p *producer) mark(place int) {
	at, _ := slices.BinarySearch(p.places, place)
	p.places = slices.Delete(p.places, at, at+1)
	p.settle()
}

// settle: where no marker is to be written any more the transaction is over.
func (p *producer) settle() {
	if len(p.places) == 0 {
		p.status = Empty
	}
}
