package cluster

import (
	"cmp"

	"gazette/api"
)

// noFuse is what Cut takes for none.
const noFuse = -1

// deed is what may befall the one with the number i.
type deed func(f fleet, i int) api.Errno

// Stop takes the power away.
func (c *Cluster) Stop(kind, i int) api.Errno { return c.befall(kind, i, fleet.stop) }

// Start gives the power back to one that is not up. choices tell what a disk has kept.
func (c *Cluster) Start(kind, i int, choices []int) api.Errno {
	return c.befall(kind, i, begin(choices))
}

// Cut lays a fuse to the disk of a node or an acceptor.
func (c *Cluster) Cut(kind, i, n int) api.Errno { return c.befall(kind, i, fuse(n)) }

// Up tells whether there is such a one that answers.
func (c *Cluster) Up(kind, i int) bool {
	f, e := c.find(kind, i)
	return e == api.OK && f.up(i)
}

func begin(choices []int) deed {
	return func(f fleet, i int) api.Errno { return f.start(i, choices) }
}

func fuse(n int) deed {
	return func(f fleet, i int) api.Errno { return f.cut(i, n) }
}

// befall lets deeds befall one, each of them whatever became of those ahead of it, and answers the first error.
func (c *Cluster) befall(kind, i int, deeds ...deed) api.Errno {
	f, e := c.find(kind, i)
	if e != api.OK {
		return e
	}
	for _, do := range deeds {
		e = cmp.Or(e, do(f, i))
	}
	return e
}

// befallAll lets deeds befall each of a kind.
func (c *Cluster) befallAll(kind int, deeds ...deed) (e api.Errno) {
	for i := range c.fleets[kind].count() {
		e = cmp.Or(e, c.befall(kind, i, deeds...))
	}
	return e
}

// find answers all of that kind, if there is such a one among them.
func (c *Cluster) find(kind, i int) (fleet, api.Errno) {
	if !c.made() || kind < 0 || kind >= len(c.fleets) {
		return nil, api.ErrArg
	}
	f := c.fleets[kind]
	if i < 0 || i >= f.count() {
		return nil, api.ErrNone
	}
	return f, api.OK
}
