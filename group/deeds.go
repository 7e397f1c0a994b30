package group

import (
	"slices"

	"gazette/api"
	"gazette/assign"
)

// deciders has, by Kinds, what is asked ahead of an event: it gives up, if the event is refused, or tells whether nothing is left to do for it.
func deciders() [kinds]func(*Group, Event) bool {
	return [kinds]func(*Group, Event) bool{
		Join:    (*Group).decideJoin,
		Leave:   (*Group).decideLeave,
		Beat:    (*Group).decideBeat,
		Commit:  (*Group).decideCommit,
		Expire:  (*Group).decideExpire,
		Promise: (*Group).decidePromise,
		Mark:    (*Group).decideMark,
	}
}

// doers has, by Kinds, what an event does that is taken, and not done.
func doers() [kinds]func(*Group, Event) {
	return [kinds]func(*Group, Event){
		Join:    (*Group).join,
		Leave:   (*Group).leave,
		Beat:    (*Group).beat,
		Commit:  (*Group).commit,
		Expire:  (*Group).expire,
		Promise: (*Group).promise,
		Mark:    (*Group).mark,
	}
}

func (g *Group) decideJoin(x Event) bool {
	insist(g.has(x.Member) || len(g.members) < maxMembers, api.ErrFull)
	return false
}

func (g *Group) decideLeave(x Event) bool {
	insist(g.has(x.Member), api.ErrGroup)
	return false
}

func (g *Group) decideBeat(x Event) bool {
	insist(g.has(x.Member) && x.Gen == g.generation, api.ErrGroup)
	return false
}

func (g *Group) decideCommit(x Event) bool {
	g.decideBeat(x)
	insist(x.Part < g.parts, api.ErrArg)
	return false
}

func (g *Group) decideExpire(x Event) bool { return len(g.silent(x.Now)) == 0 }

func (g *Group) decidePromise(x Event) bool {
	g.decideCommit(x)
	g.insistEpoch(x)
	return false
}

func (g *Group) decideMark(x Event) bool {
	g.insistEpoch(x)
	known, is := g.epochs[x.Producer]
	return is && known == x.Epoch && !slices.ContainsFunc(g.pending, x.marks)
}

func (g *Group) join(x Event) {
	m, is := g.members[x.Member]
	m.heard = x.Now
	g.members[x.Member] = m
	if !is {
		g.deal()
	}
}

func (g *Group) leave(x Event) {
	delete(g.members, x.Member)
	g.deal()
}

func (g *Group) beat(x Event) {
	m := g.members[x.Member]
	m.heard = max(m.heard, x.Now)
	g.members[x.Member] = m
}

func (g *Group) commit(x Event) { g.offsets[x.Part] = x.Offset }

func (g *Group) expire(x Event) {
	for _, name := range g.silent(x.Now) {
		delete(g.members, name)
	}
	g.deal()
}

func (g *Group) promise(x Event) {
	g.pending = append(g.pending, Pend{x.Producer, x.Part, x.Offset})
	g.epochs[x.Producer] = x.Epoch
}

func (g *Group) mark(x Event) {
	for _, p := range g.pending {
		if x.Yes && x.marks(p) {
			g.offsets[p.Part] = p.Offset
		}
	}
	g.pending = slices.DeleteFunc(g.pending, x.marks)
	g.epochs[x.Producer] = x.Epoch
}

// marks tells whether p is one of those that a Mark x decides.
func (x Event) marks(p Pend) bool { return p.Producer == x.Producer }

func (g *Group) has(name string) bool {
	_, is := g.members[name]
	return is
}

// insistEpoch gives up, if x's Epoch is over. Of a producer that is not known the map answers 0, which is above none.
func (g *Group) insistEpoch(x Event) { insist(g.epochs[x.Producer] <= x.Epoch, api.ErrFence) }

// silent has the names of those who were not heard of for a session.
func (g *Group) silent(now int) []string {
	return slices.DeleteFunc(g.Members(), func(name string) bool { return g.members[name].heard+g.session > now })
}

// deal begins a generation: members came or went.
func (g *Group) deal() {
	g.generation++
	names := g.Members()
	var old []assign.Share
	for _, name := range names {
		old = append(old, assign.Share{Member: name, Parts: g.members[name].parts})
	}
	shares, _ := assign.Sticky(old, names, g.parts)
	for _, s := range shares {
		m := g.members[s.Member]
		m.parts = s.Parts
		g.members[s.Member] = m
	}
}
