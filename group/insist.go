package group

import "gazette/api"

// refusal is what a panic brings up to the face of a call.
type refusal struct {
	why api.Errno
}

// attempt is the face of each call that can be refused: it answers what work answers, or why work gave up.
func attempt[T any](work func() T) (answer T, e api.Errno) {
	defer func() {
		switch r := recover().(type) {
		case nil:
		case refusal:
			e = r.why
		default:
			// A fault of the program is no refusal: it must not look like one.
			panic(r)
		}
	}()
	return work(), api.OK
}

// insist gives the whole call up, unless ok.
func insist(ok bool, why api.Errno) {
	if !ok {
		panic(refusal{why})
	}
}
