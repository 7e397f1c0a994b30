package group

import (
	"slices"

	"gazette/api"
	"gazette/wire"
)

// Kinds of an Event.
const (
	Join    = 1
	Leave   = 2
	Beat    = 3
	Commit  = 4
	Expire  = 5
	Promise = 6
	Mark    = 7

	kinds = 8 // one more than the greatest
)

const (
	frameKind = 32
	small     = 1 // the bytes of a Kind, and of a Yes
	great     = 6 // the bytes of other numbers
	maxEpoch  = 1<<31 - 1
)

// Event is one of a group's log. What its Kind does not take is zero.
type Event struct {
	Kind                                    int
	Member                                  string
	Gen, Part, Offset, Producer, Epoch, Now int
	Yes                                     bool
}

// PutEvent tells x as bytes.
func PutEvent(x Event) ([]byte, api.Errno) {
	return attempt(func() []byte {
		insistEvent(x, api.ErrArg)
		return x.tell()
	})
}

// GetEvent reads the event that b is.
func GetEvent(b []byte) (Event, api.Errno) {
	return attempt(func() Event {
		kind, body, to, e := wire.Unframe(b, 0)
		insist(e == api.OK && kind == frameKind && to == len(b), api.ErrForm)
		r := reader{bytes: body}
		x := r.event()
		insist(r.at == len(body), api.ErrForm)
		insistEvent(x, api.ErrForm)
		return x
	})
}

// insistEvent gives up, unless x may be.
func insistEvent(x Event, why api.Errno) {
	insist(x.Kind >= Join && x.Kind < kinds, why)
	insist(x == x.taken(), why)
	insist(isName(x.Member) == x.isMembers(), why)
	for _, n := range x.numbers() {
		insist(n >= 0 && n < api.MaxNumber, why)
	}
	insist(x.Part < api.MaxParts && x.Epoch <= maxEpoch, why)
}

func isName(s string) bool { return len(s) >= 1 && len(s) <= api.MaxName }

// isMembers tells whether an event of x's Kind is one of a member's.
func (x Event) isMembers() bool { return x.Kind != Expire && x.Kind != Mark }

// taken is what x's Kind takes of it.
func (x Event) taken() Event {
	y := Event{Kind: x.Kind}
	switch x.Kind {
	case Join, Leave:
		y.Member, y.Now = x.Member, x.Now
	case Beat:
		y.Member, y.Gen, y.Now = x.Member, x.Gen, x.Now
	case Commit:
		y.Member, y.Gen, y.Part, y.Offset = x.Member, x.Gen, x.Part, x.Offset
	case Expire:
		y.Now = x.Now
	case Promise:
		y.Member, y.Gen, y.Part, y.Offset = x.Member, x.Gen, x.Part, x.Offset
		y.Producer, y.Epoch = x.Producer, x.Epoch
	case Mark:
		y.Producer, y.Epoch, y.Yes = x.Producer, x.Epoch, x.Yes
	}
	return y
}

// numbers has those of six bytes, as they stand in the bytes.
func (x Event) numbers() [6]int {
	return [6]int{x.Gen, x.Part, x.Offset, x.Producer, x.Epoch, x.Now}
}

// tell takes only an event that may be: all that stands in it has room then.
func (x Event) tell() []byte {
	yes := 0
	if x.Yes {
		yes = 1
	}
	body := slices.Concat(spell(x.Kind, small), spell(yes, small))
	for _, n := range x.numbers() {
		body = append(body, spell(n, great)...)
	}
	name, _ := wire.Text(x.Member)
	b, _ := wire.Frame(frameKind, append(body, name...))
	return b
}

func spell(n, size int) []byte {
	b, _ := wire.Put(n, size)
	return b
}

// reader goes through bytes, and gives up where they end too early.
type reader struct {
	bytes []byte
	at    int
}

// event reads what may be an event that may not be.
func (r *reader) event() Event {
	return Event{
		Kind:     r.number(small),
		Yes:      r.yes(),
		Gen:      r.number(great),
		Part:     r.number(great),
		Offset:   r.number(great),
		Producer: r.number(great),
		Epoch:    r.number(great),
		Now:      r.number(great),
		Member:   r.text(),
	}
}

func (r *reader) number(size int) int {
	n, to, e := wire.Get(r.bytes, r.at, size)
	insist(e == api.OK, api.ErrForm)
	r.at = to
	return n
}

func (r *reader) yes() bool {
	n := r.number(small)
	insist(n <= 1, api.ErrForm)
	return n == 1
}

func (r *reader) text() string {
	s, to, e := wire.GetText(r.bytes, r.at)
	insist(e == api.OK, api.ErrForm)
	r.at = to
	return s
}
