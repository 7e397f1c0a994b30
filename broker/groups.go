package broker

import (
	"gazette/api"
	"gazette/group"
)

// Group writes an event of a group, and answers its generation, and the share of the event's Member.
func (b *Broker) Group(g int, x group.Event) (gen int, share []int, e api.Errno) {
	if !b.leads(g) || x.Kind == group.Mark {
		return 0, nil, api.ErrArg
	}
	c, e := b.groups.hold(firstGroup + g)
	if e != api.OK {
		return 0, nil, e
	}
	if _, e := b.groups.write(firstGroup+g, x); e != api.OK {
		return 0, nil, e
	}
	return c.Generation(), c.Share(x.Member), api.OK
}

// Offset tells what a group committed last of a partition.
func (b *Broker) Offset(g, part int) (int, bool, api.Errno) {
	if !b.leads(g) {
		return 0, false, api.ErrArg
	}
	c, e := b.groups.look(firstGroup + g)
	if e != api.OK {
		return 0, false, e
	}
	offset, is := c.Offset(part)
	return offset, is, api.OK
}

// leads tells whether b was made, and there is such a group.
func (b *Broker) leads(g int) bool { return b.made() && g >= 0 && g < maxGroups }
