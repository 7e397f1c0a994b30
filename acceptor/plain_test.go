package acceptor_test

import (
	"maps"

	"gazette/acceptor"
	"gazette/api"
)

// fact is what the chapter says that an acceptor knows of a key and a version.
type fact struct {
	promised, accepted int
	value              string
	learned            bool
}

type place struct{ key, version int }

// plain is an acceptor by the chapter's words: it has no disk, but counts the blocks and places that one would have.
type plain struct {
	free  int
	used  map[int]int // places, by keys
	facts map[place]fact
}

func newPlain(blocks int) *plain {
	return &plain{free: blocks, used: map[int]int{}, facts: map[place]fact{}}
}

func (p *plain) copied() *plain {
	return &plain{free: p.free, used: maps.Clone(p.used), facts: maps.Clone(p.facts)}
}

// blocksOf tells how many blocks a change with such a value takes: 13 bytes stand ahead of an entry's data, 19 ahead of the value, 240 in a block.
func blocksOf(value string) int { return (13 + 19 + len(value) + 239) / 240 }

func (p *plain) change(at place, to fact) api.Errno {
	if p.used[at.key] >= 4096 || blocksOf(to.value) > p.free {
		return api.ErrFull
	}
	p.used[at.key]++
	p.free -= blocksOf(to.value)
	p.facts[at] = to
	return api.OK
}

func (p *plain) ask(a acceptor.Ask) acceptor.Answer {
	at := place{a.Key, a.Version}
	e := api.OK
	switch a.Kind {
	case acceptor.Prepare:
		e = p.prepare(at, a.Ballot)
	case acceptor.Accept:
		e = p.accept(at, a.Ballot, string(a.Value))
	case acceptor.Learn:
		e = p.learn(at, string(a.Value))
	case acceptor.Query:
		at.version = p.greatest(a.Key)
	}
	f := p.facts[at]
	return acceptor.Answer{E: e, Version: at.version, Promised: f.promised, Ballot: f.accepted, Learned: f.learned, Value: []byte(f.value)}
}

func (p *plain) prepare(at place, ballot int) api.Errno {
	f := p.facts[at]
	if !(ballot > f.promised) {
		return api.ErrStale
	}
	return p.change(at, fact{ballot, f.accepted, f.value, f.learned})
}

func (p *plain) accept(at place, ballot int, value string) api.Errno {
	f := p.facts[at]
	switch {
	case ballot < f.promised:
		return api.ErrStale
	case f.learned && value != f.value:
		return api.ErrStale
	case f.learned:
		return api.OK
	case f.promised == ballot && f.accepted == ballot && f.value == value:
		return api.OK
	}
	return p.change(at, fact{ballot, ballot, value, false})
}

func (p *plain) learn(at place, value string) api.Errno {
	f := p.facts[at]
	if f.learned {
		return api.OK
	}
	if f.accepted == 0 {
		return p.change(at, fact{f.promised, 1, value, true})
	}
	return p.change(at, fact{f.promised, f.accepted, value, true})
}

func (p *plain) greatest(key int) int {
	version := 0
	for at, f := range p.facts {
		if at.key == key && (f.accepted > 0 || f.learned) && at.version > version {
			version = at.version
		}
	}
	return version
}
