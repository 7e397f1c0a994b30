package txn

import (
	"gazette/api"
	"gazette/wire"
)

// Kinds of an Event.
const (
	Init = iota + 1
	Add
	End
	Marked
	Expire
)

const (
	frameKind  = 33
	small      = 1 // the bytes of a Kind, and of a Yes
	great      = 6 // the bytes of other numbers
	maxTimeout = 3600
	maxEpoch   = 1<<31 - 1
)

// Event is one of the book's log. What its Kind does not take is zero.
type Event struct {
	Kind                                 int
	Name                                 string
	Producer, Epoch, Place, Timeout, Now int
	Yes                                  bool
}

// PutEvent tells x as bytes.
func PutEvent(x Event) ([]byte, api.Errno) {
	if !x.mayBe() {
		return nil, api.ErrArg
	}
	return x.tell(), api.OK
}

// GetEvent reads the event that b is.
func GetEvent(b []byte) (Event, api.Errno) {
	kind, body, to, e := wire.Unframe(b, 0)
	if e != api.OK || kind != frameKind || to != len(b) {
		return Event{}, api.ErrForm
	}
	r := reader{bytes: body}
	x := r.event()
	if r.failed || r.at != len(body) || !x.mayBe() {
		return Event{}, api.ErrForm
	}
	return x, api.OK
}

func (x Event) mayBe() bool {
	if x.Kind < Init || x.Kind > Expire || x != x.taken() {
		return false
	}
	if x.Kind == Init && !(isName(x.Name) && isTimeout(x.Timeout)) {
		return false
	}
	for _, n := range x.numbers() {
		if n < 0 || n >= api.MaxNumber {
			return false
		}
	}
	return x.Epoch <= maxEpoch
}

func isName(s string) bool { return len(s) >= 1 && len(s) <= api.MaxName }

func isTimeout(n int) bool { return n >= 1 && n <= maxTimeout }

// taken is what x's Kind takes of it.
func (x Event) taken() Event {
	y := Event{Kind: x.Kind}
	switch x.Kind {
	case Init:
		y.Name, y.Timeout, y.Now = x.Name, x.Timeout, x.Now
	case Add:
		y.Producer, y.Epoch, y.Place, y.Now = x.Producer, x.Epoch, x.Place, x.Now
	case End:
		y.Producer, y.Epoch, y.Yes = x.Producer, x.Epoch, x.Yes
	case Marked:
		y.Producer, y.Epoch, y.Place = x.Producer, x.Epoch, x.Place
	case Expire:
		y.Now = x.Now
	}
	return y
}

// numbers has those of six bytes, as they stand in the bytes.
func (x Event) numbers() [5]int {
	return [5]int{x.Producer, x.Epoch, x.Place, x.Timeout, x.Now}
}

// tell takes only an event that may be: all that stands in it has room then.
func (x Event) tell() []byte {
	yes := 0
	if x.Yes {
		yes = 1
	}
	body := append(spell(x.Kind, small), spell(yes, small)...)
	for _, n := range x.numbers() {
		body = append(body, spell(n, great)...)
	}
	name, _ := wire.Text(x.Name)
	b, _ := wire.Frame(frameKind, append(body, name...))
	return b
}

func spell(n, size int) []byte {
	b, _ := wire.Put(n, size)
	return b
}

// reader goes through bytes. Once it has failed it stays so: whoever reads asks at the end.
type reader struct {
	bytes  []byte
	at     int
	failed bool
}

// event reads what may be an event that may not be.
func (r *reader) event() Event {
	return Event{
		Kind:     r.number(small),
		Yes:      r.yes(),
		Producer: r.number(great),
		Epoch:    r.number(great),
		Place:    r.number(great),
		Timeout:  r.number(great),
		Now:      r.number(great),
		Name:     r.text(),
	}
}

func (r *reader) number(size int) int {
	n, to, e := wire.Get(r.bytes, r.at, size)
	r.pass(to, e == api.OK)
	return n
}

func (r *reader) yes() bool {
	n := r.number(small)
	r.pass(r.at, n <= 1)
	return n == 1
}

func (r *reader) text() string {
	s, to, e := wire.GetText(r.bytes, r.at)
	r.pass(to, e == api.OK)
	return s
}

// pass goes on, if ok.
func (r *reader) pass(to int, ok bool) {
	if !ok {
		r.failed = true
		return
	}
	r.at = to
}
