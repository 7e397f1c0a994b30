package vlog

import (
	"gazette/api"
	"gazette/chain"
	"gazette/loglet"
	"gazette/register"
)

const (
	keys     = 1 << 20
	ids      = 16
	maxNodes = 256 // as many as a chain's bytes can name
	maxTurns = 3
	copies   = 3 // the nodes that a new loglet has, if there are so many
)

// Open seals what there is of a key's log, and extends it: from then on it is the caller's.
func Open(l *Link, key, id int) (*Log, api.Errno) {
	if !l.made() || key < 0 || key >= keys || id < 0 || id >= ids || l.nodes() == 0 || l.nodes() > maxNodes {
		return nil, api.ErrArg
	}
turns:
	for range maxTurns {
		g := &Log{Link: l, key: key, id: id}
		for _, step := range g.opening() {
			switch e := step(); e {
			case api.OK:
			case api.ErrStale:
				// Somebody else has extended the chain: there is another part to seal.
				continue turns
			default:
				return nil, e
			}
		}
		return g, api.OK
	}
	return nil, api.ErrStale
}

// opening has the steps of a turn, each of which stands on those ahead of it. Till the last one g is nobody's: its version and chain are the ones that were found.
func (g *Log) opening() []func() api.Errno {
	var told []byte
	var longer chain.Chain
	return []func() api.Errno{
		func() (e api.Errno) {
			g.version, told, e = register.Read(g.Register, g.key, g.id)
			return e
		},
		func() (e api.Errno) {
			if g.version > 0 {
				g.chain, e = chain.Decode(told, g.nodes())
			}
			return e
		},
		func() (e api.Errno) {
			if len(g.chain.Parts) > 0 {
				g.next, e = g.seal()
			}
			return e
		},
		func() (e api.Errno) {
			longer, e = chain.Extend(g.chain, g.nodes(), g.id, g.next, g.config())
			return e
		},
		func() (e api.Errno) {
			told, e = chain.Encode(longer, g.nodes())
			return e
		},
		func() api.Errno { return g.set(longer, told) },
	}
}

// seal ends the last part, and answers the address behind all that lies in it.
func (g *Log) seal() (end int, e api.Errno) {
	last := g.open()
	tail, e := loglet.Seal(g.Loglets, last.Config)
	if e != api.OK {
		return 0, e
	}
	// What only one node has, and lies ahead of the tail, would be there for one reader, and not for another.
	e = loglet.Repair(g.Loglets, last.Config, max(0, g.chain.Trim-last.First), tail)
	if e != api.OK {
		return 0, e
	}
	return last.First + tail, api.OK
}

// config is the one that comes behind the version that was found. Each version begins at another node: the logs' parts lie on all of them.
func (g *Log) config() loglet.Config {
	c := loglet.Config{ID: (g.key*keys+g.version+1)*ids + g.id}
	for i := range min(copies, g.nodes()) {
		c.Nodes = append(c.Nodes, (g.version+i)%g.nodes())
	}
	return c
}
