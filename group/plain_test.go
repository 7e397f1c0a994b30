package group_test

import (
	"fmt"
	"maps"
	"slices"
	"testing"

	"gazette/api"
	"gazette/assign"
	"gazette/group"
)

// plain has the events that counted, and works everything out of them in each call.
type plain struct {
	parts, session int
	took           []group.Event
}

// walk tells, ahead of the first event and behind each, when the members were heard of last.
func (p *plain) walk(tell func(heard map[string]int)) {
	heard := map[string]int{}
	tell(heard)
	for _, x := range p.took {
		switch x.Kind {
		case group.Join:
			heard[x.Member] = x.Now
		case group.Leave:
			delete(heard, x.Member)
		case group.Beat:
			heard[x.Member] = max(heard[x.Member], x.Now)
		case group.Expire:
			maps.DeleteFunc(heard, func(_ string, at int) bool { return at+p.session <= x.Now })
		}
		tell(heard)
	}
}

// heard is what walk tells last.
func (p *plain) heard() (last map[string]int) {
	p.walk(func(heard map[string]int) { last = heard })
	return last
}

// crews has the members of each generation, from 0 on: there is a new one just when they are others.
func (p *plain) crews() [][]string {
	var list [][]string
	p.walk(func(heard map[string]int) {
		crew := slices.Sorted(maps.Keys(heard))
		if len(list) == 0 || !slices.Equal(list[len(list)-1], crew) {
			list = append(list, crew)
		}
	})
	return list
}

func (p *plain) generation() int { return len(p.crews()) - 1 }

func (p *plain) members() []string { return p.crews()[p.generation()] }

func (p *plain) shares() []assign.Share {
	var shares []assign.Share
	for _, crew := range p.crews() {
		shares, _ = assign.Sticky(shares, crew, p.parts)
	}
	return shares
}

// waiting has what the first n events left pending of a producer; of any one, if it is below 0.
func (p *plain) waiting(n, producer int) []group.Pend {
	var list []group.Pend
	for i, x := range p.took[:n] {
		marked := slices.ContainsFunc(p.took[i:n], func(y group.Event) bool { return y.Kind == group.Mark && y.Producer == x.Producer })
		if x.Kind == group.Promise && !marked && (producer < 0 || x.Producer == producer) {
			list = append(list, group.Pend{Producer: x.Producer, Part: x.Part, Offset: x.Offset})
		}
	}
	return list
}

func (p *plain) pending() []group.Pend { return p.waiting(len(p.took), -1) }

func (p *plain) offset(part int) (offset int, is bool) {
	for i, x := range p.took {
		if x.Kind == group.Commit && x.Part == part {
			offset, is = x.Offset, true
		}
		if x.Kind == group.Mark && x.Yes {
			for _, w := range p.waiting(i, x.Producer) {
				if w.Part == part {
					offset, is = w.Offset, true
				}
			}
		}
	}
	return offset, is
}

// epoch is the greatest one that is known of a producer; -1: none.
func (p *plain) epoch(producer int) int {
	greatest := -1
	for _, x := range p.took {
		if (x.Kind == group.Promise || x.Kind == group.Mark) && x.Producer == producer {
			greatest = max(greatest, x.Epoch)
		}
	}
	return greatest
}

func (p *plain) isOver(now int) bool {
	for _, at := range p.heard() {
		if at+p.session <= now {
			return true
		}
	}
	return false
}

func (p *plain) Decide(x group.Event) (bool, api.Errno) {
	if !mayBe(x) {
		return false, api.ErrArg
	}
	is := slices.Contains(p.members(), x.Member)
	switch x.Kind {
	case group.Join:
		if len(p.members()) == 100 && !is {
			return false, api.ErrFull
		}
	case group.Leave:
		if !is {
			return false, api.ErrGroup
		}
	case group.Beat, group.Commit, group.Promise:
		if !is || x.Gen != p.generation() {
			return false, api.ErrGroup
		}
		if x.Kind != group.Beat && x.Part >= p.parts {
			return false, api.ErrArg
		}
		if x.Kind == group.Promise && p.epoch(x.Producer) > x.Epoch {
			return false, api.ErrFence
		}
	case group.Mark:
		if p.epoch(x.Producer) > x.Epoch {
			return false, api.ErrFence
		}
		return len(p.waiting(len(p.took), x.Producer)) == 0 && p.epoch(x.Producer) == x.Epoch, api.OK
	case group.Expire:
		return !p.isOver(x.Now), api.OK
	}
	return false, api.OK
}

func (p *plain) Apply(x group.Event) api.Errno {
	done, e := p.Decide(x)
	if e == api.OK && !done {
		p.took = append(p.took, x)
	}
	return e
}

// difference tells where g is not what p is.
func difference(g *group.Group, p *plain) string {
	if g.Generation() != p.generation() || !slices.Equal(g.Members(), p.members()) {
		return fmt.Sprintf("generation %d of %q, not %d of %q", g.Generation(), g.Members(), p.generation(), p.members())
	}
	for _, s := range p.shares() {
		if l := g.Share(s.Member); !slices.Equal(l, s.Parts) {
			return fmt.Sprintf("Share(%q): %v, not %v", s.Member, l, s.Parts)
		}
	}
	for part := range p.parts {
		n, is := g.Offset(part)
		if m, ought := p.offset(part); n != m || is != ought {
			return fmt.Sprintf("Offset(%d): %d, %v, not %d, %v", part, n, is, m, ought)
		}
	}
	if l := g.Pending(); !slices.Equal(l, p.pending()) {
		return fmt.Sprintf("Pending: %v, not %v", l, p.pending())
	}
	return ""
}

// step is one event, looked at, and applied, by both.
func step(t *testing.T, g *group.Group, p *plain, x group.Event) (done bool, e api.Errno) {
	t.Helper()
	done, e = g.Decide(x)
	if wantDone, want := p.Decide(x); done != wantDone || e != want {
		t.Fatalf("behind %d events: Decide(%s): %v, %d, not %v, %d", len(p.took), brief(x), done, e, wantDone, want)
	}
	got, want := g.Apply(x), p.Apply(x)
	if got != want {
		t.Fatalf("behind %d events: Apply(%s): %d, not %d", len(p.took), brief(x), got, want)
	}
	if s := difference(g, p); s != "" {
		t.Fatalf("behind %s: %s", brief(x), s)
	}
	return done, e
}

// event is one that could come to p: mostly one that is taken.
func (d dice) event(p *plain, crew []string) group.Event {
	now := rarely(d, len(p.took)/2+d.IntN(4), -1, 0, topNumber-p.session, topNumber, api.MaxNumber)
	name := pick(d, crew...)
	if l := p.members(); len(l) > 0 && d.IntN(4) > 0 {
		name = pick(d, l...)
	}
	gen := rarely(d, p.generation(), -1, 0, p.generation()-1, p.generation()+1)
	part := rarely(d, d.IntN(p.parts), -1, p.parts-1, p.parts, api.MaxParts-1, api.MaxParts)
	offset := rarely(d, d.IntN(50), -1, 0, topNumber, api.MaxNumber)
	producer := pick(d, 0, 1, 2, topNumber)
	known := p.epoch(producer)
	epoch := rarely(d, pick(d, max(known, 0), max(known, 0), max(known, 0), max(known-1, 0), known+1), -1, 0, topEpoch/2, known+2)
	x := join(pick(d, crew...), now)
	switch d.IntN(20) {
	case 0, 1:
	case 2:
		x = leave(name, now)
	case 3, 4, 5, 6:
		x = beat(name, gen, now)
	case 7, 8, 9, 10:
		x = commit(name, gen, part, offset)
	case 11, 12:
		x = expire(now + d.IntN(p.session+1))
	case 13, 14, 15, 16:
		x = promise(name, gen, part, offset, producer, epoch)
	default:
		x = yes(producer, epoch)
		x.Yes = d.IntN(3) > 0
	}
	if d.IntN(60) == 0 {
		x.Kind = d.IntN(10)
	}
	return x
}

// TestAnyCallsByTheChaptersWords: each answer is that of a plain group.
func TestAnyCallsByTheChaptersWords(t *testing.T) {
	seen, dones, took := map[api.Errno]int{}, map[int]int{}, map[int]int{}
	for seed := range uint64(80) {
		d := diceOf(seed, 15)
		crew := names(1 + d.IntN(8))
		p := &plain{parts: pick(d, 1, 2, 3, 5, 8, api.MaxParts), session: pick(d, 1, 5, 10, 30)}
		g := mustNew(t, p.parts, p.session)
		for range 120 {
			x := d.event(p, crew)
			done, e := step(t, g, p, x)
			seen[e]++
			if done {
				dones[x.Kind]++
			} else if e == api.OK {
				took[x.Kind]++
			}
		}
	}
	for _, e := range []api.Errno{api.OK, api.ErrArg, api.ErrFence, api.ErrGroup} {
		if seen[e] < 50 {
			t.Errorf("the answer %d came %d times", e, seen[e])
		}
	}
	for kind := group.Join; kind <= group.Mark; kind++ {
		if took[kind] < 100 {
			t.Errorf("of the kind %d %d were taken", kind, took[kind])
		}
	}
	if dones[group.Expire] < 50 || dones[group.Mark] < 50 {
		t.Errorf("done were: %v", dones)
	}
}

// TestManyMembersByTheChaptersWords: about as many as there is room for.
func TestManyMembersByTheChaptersWords(t *testing.T) {
	d := diceOf(15, 16)
	p := &plain{parts: api.MaxParts - 1, session: 100}
	g := mustNew(t, p.parts, p.session)
	for _, name := range names(hundred - 2) {
		x := join(name, d.IntN(100))
		mustTake(t, g, x)
		p.took = append(p.took, x)
	}
	full := 0
	for range 60 {
		x := join(pick(d, names(140)...), d.IntN(100))
		switch d.IntN(20) {
		case 0:
			x.Kind = group.Leave
		case 1:
			x = expire(100)
		}
		if _, e := step(t, g, p, x); e == api.ErrFull {
			full++
		}
	}
	step(t, g, p, expire(150))
	if full < 5 {
		t.Errorf("%d were too many", full)
	}
}

// TestAllThatIsShort: all rows of four events of these few.
func TestAllThatIsShort(t *testing.T) {
	const session = 2
	few := []func(gen int) group.Event{
		func(int) group.Event { return join("a", 0) },
		func(int) group.Event { return join("a", 1) },
		func(int) group.Event { return join("b", 1) },
		func(int) group.Event { return leave("a", 0) },
		func(gen int) group.Event { return beat("a", gen, 2) },
		func(gen int) group.Event { return commit("a", gen, 0, 5) },
		func(gen int) group.Event { return commit("b", max(gen-1, 0), 1, 6) },
		func(int) group.Event { return expire(2) },
		func(int) group.Event { return expire(3) },
		func(gen int) group.Event { return promise("a", gen, 0, 7, 0, 0) },
		func(gen int) group.Event { return promise("b", gen, 0, 8, 0, 1) },
		func(int) group.Event { return yes(0, 0) },
		func(int) group.Event { return no(0, 1) },
		func(int) group.Event { return yes(1, 0) },
	}
	var try func(p *plain, left int)
	try = func(p *plain, left int) {
		for _, of := range few {
			g := mustNew(t, p.parts, session)
			for _, x := range p.took {
				g.Apply(x)
			}
			q := &plain{p.parts, session, slices.Clone(p.took)}
			done, e := step(t, g, q, of(q.generation()))
			if left > 1 && e == api.OK && !done { // else it is the same group
				try(q, left-1)
			}
		}
	}
	try(&plain{parts: 2, session: session}, 4)
	try(&plain{2, session, []group.Event{join("b", 0), join("a", 1)}}, 4)
}
