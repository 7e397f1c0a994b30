package chain

import (
	"slices"

	"gazette/api"
	"gazette/loglet"
)

// refusal is what a panic brings up to the face of a call.
type refusal struct {
	why api.Errno
}

// attempt is the face of each call that can be refused: it answers what work answers, or why work gave up.
func attempt[T any](work func() T) (answer T, e api.Errno) {
	defer func() {
		switch r := recover().(type) {
		case nil:
		case refusal:
			e = r.why
		default:
			// A fault of the program is no refusal: it must not look like one.
			panic(r)
		}
	}()
	return work(), api.OK
}

// insist gives the whole call up, unless ok.
func insist(ok bool, why api.Errno) {
	if !ok {
		panic(refusal{why})
	}
}

// insistChain gives up, unless c may be, of so many nodes.
func insistChain(c Chain, nodes int, why api.Errno) {
	insist(c.Owner >= 0 && c.Owner <= maxOwner, why)
	insist(isNumber(c.Trim) && len(c.Parts) <= api.MaxChain, why)
	for i, p := range c.Parts {
		insist(isNumber(p.First) && loglet.Check(p.Config, nodes) == api.OK, why)
		insist(isNew(p.Config.ID, c.Parts[:i]) && follows(p.First, c.Parts[:i]), why)
	}
	insist(mayTrim(c), why)
}

func isNumber(n int) bool { return n >= 0 && n < api.MaxNumber }

func isNew(id int, ahead []Part) bool {
	return !slices.ContainsFunc(ahead, func(p Part) bool { return p.Config.ID == id })
}

// follows tells whether a part may begin at first, behind those ahead of it: the last one's loglet has to have room for all up to there.
func follows(first int, ahead []Part) bool {
	return len(ahead) == 0 || first >= lastFirst(ahead) && first <= farthest(ahead)
}

// mayTrim tells whether the Trim lies in the first part: a part that is given up whole does not stay.
func mayTrim(c Chain) bool {
	if len(c.Parts) == 0 {
		return c.Trim == 0
	}
	if len(c.Parts) > 1 && c.Trim >= c.Parts[1].First {
		return false
	}
	return c.Trim >= c.Parts[0].First && c.Trim <= farthest(c.Parts)
}
