package chain

import (
	"gazette/api"
	"gazette/loglet"
	"gazette/wire"
)

const (
	small = 1 // the bytes of an owner, a node, and of how many there are of something
	great = 6 // the bytes of an address, and of a loglet's ID
)

// tell takes only a chain that may be.
func tell(c Chain) []byte {
	b := put(nil, small, c.Owner)
	b = put(b, great, c.Trim)
	b = put(b, small, len(c.Parts))
	for _, p := range c.Parts {
		b = put(b, great, p.First, p.Config.ID)
		b = put(b, small, len(p.Config.Nodes))
		b = put(b, small, p.Config.Nodes...)
	}
	return b
}

// put lays numbers of size bytes each behind b.
func put(b []byte, size int, numbers ...int) []byte {
	for _, n := range numbers {
		told, e := wire.Put(n, size)
		insist(e == api.OK, e)
		b = append(b, told...)
	}
	return b
}

// reader goes through bytes, and gives up where they end too early.
type reader struct {
	bytes []byte
	at    int
}

func (r *reader) number(size int) int {
	n, to, e := wire.Get(r.bytes, r.at, size)
	insist(e == api.OK, api.ErrForm)
	r.at = to
	return n
}

// chain reads what may be a chain that may not be.
func (r *reader) chain() Chain {
	c := Chain{Owner: r.number(small), Trim: r.number(great)}
	for range r.number(small) {
		c.Parts = append(c.Parts, r.part())
	}
	return c
}

func (r *reader) part() Part {
	p := Part{First: r.number(great), Config: loglet.Config{ID: r.number(great)}}
	for range r.number(small) {
		p.Config.Nodes = append(p.Config.Nodes, r.number(small))
	}
	return p
}
