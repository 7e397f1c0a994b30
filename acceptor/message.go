package acceptor

import (
	"slices"

	"gazette/api"
	"gazette/wire"
)

// Kinds of an Ask.
const (
	Prepare = 1 + iota
	Accept
	Learn
	Query

	kinds // one more than the greatest
)

// Kinds of a frame: a node's requests and replies have the ones ahead.
const (
	askFrame = 3 + iota
	answerFrame
)

const (
	numberSize = 6

	kindSize   = 1
	keyAt      = kindSize
	versionAt  = keyAt + numberSize
	ballotAt   = versionAt + numberSize
	askValueAt = ballotAt + numberSize

	errnoSize = 1

	// Of what is known, as it is kept and as it stands behind an Answer's E.
	learnedSize     = 1
	promisedAt      = numberSize
	acceptedAt      = promisedAt + numberSize
	learnedAt       = acceptedAt + numberSize
	acceptedValueAt = learnedAt + learnedSize

	maxErrno = 1<<(8*errnoSize) - 1
	maxValue = 4000
)

// Ask is what an acceptor is asked.
type Ask struct {
	Kind, Key, Version, Ballot int
	Value                      []byte
}

// Answer is what an acceptor answers: how it ended, and what it knows then.
type Answer struct {
	E                         api.Errno
	Version, Promised, Ballot int
	Learned                   bool
	Value                     []byte
}

// PutAsk tells a as bytes.
func PutAsk(a Ask) ([]byte, api.Errno) {
	if !a.may() {
		return nil, api.ErrArg
	}
	return wire.Frame(askFrame, slices.Concat(
		spell(a.Kind, kindSize),
		spell(a.Key, numberSize),
		spell(a.Version, numberSize),
		spell(a.Ballot, numberSize),
		a.Value))
}

// GetAsk reads the Ask that b is.
func GetAsk(b []byte) (Ask, api.Errno) {
	body, ok := unpack(b, askFrame, askValueAt)
	if !ok {
		return Ask{}, api.ErrForm
	}
	a := Ask{
		Kind:    numberAt(body, 0, kindSize),
		Key:     numberAt(body, keyAt, numberSize),
		Version: numberAt(body, versionAt, numberSize),
		Ballot:  numberAt(body, ballotAt, numberSize),
		Value:   body[askValueAt:],
	}
	if !a.may() {
		return Ask{}, api.ErrForm
	}
	return a, api.OK
}

// PutAnswer tells a as bytes.
func PutAnswer(a Answer) ([]byte, api.Errno) {
	if !a.may() {
		return nil, api.ErrArg
	}
	return wire.Frame(answerFrame, slices.Concat(spell(int(a.E), errnoSize), a.text()))
}

// GetAnswer reads the Answer that b is.
func GetAnswer(b []byte) (Answer, api.Errno) {
	body, ok := unpack(b, answerFrame, errnoSize)
	if !ok {
		return Answer{}, api.ErrForm
	}
	a, ok := readText(body[errnoSize:])
	a.E = api.Errno(numberAt(body, 0, errnoSize))
	if !ok || !a.may() {
		return Answer{}, api.ErrForm
	}
	return a, api.OK
}

// may tells whether a may be.
func (a Ask) may() bool {
	return a.Kind >= Prepare && a.Kind < kinds &&
		isNumber(a.Key) &&
		isNumber(a.Version) && (a.Version > 0) == (a.Kind != Query) &&
		isNumber(a.Ballot) && (a.Ballot > 0) == (a.Kind == Prepare || a.Kind == Accept) &&
		len(a.Value) <= a.maxValue()
}

func (a Ask) maxValue() int {
	if a.Kind == Accept || a.Kind == Learn {
		return maxValue
	}
	return 0
}

// may tells whether a may be.
func (a Answer) may() bool {
	return a.E >= 0 && a.E <= maxErrno &&
		isNumber(a.Version) && isNumber(a.Promised) && isNumber(a.Ballot) &&
		len(a.Value) <= maxValue
}

// text tells what a says to be known: all of it but the E.
func (a Answer) text() []byte {
	learned := 0
	if a.Learned {
		learned = 1
	}
	return slices.Concat(
		spell(a.Version, numberSize),
		spell(a.Promised, numberSize),
		spell(a.Ballot, numberSize),
		spell(learned, learnedSize),
		a.Value)
}

// readText reads what text told, and keeps b as its Value.
func readText(b []byte) (Answer, bool) {
	if len(b) < acceptedValueAt {
		return Answer{}, false
	}
	learned := numberAt(b, learnedAt, learnedSize)
	return Answer{
		Version:  numberAt(b, 0, numberSize),
		Promised: numberAt(b, promisedAt, numberSize),
		Ballot:   numberAt(b, acceptedAt, numberSize),
		Learned:  learned == 1,
		Value:    b[acceptedValueAt:],
	}, learned <= 1
}

func isNumber(n int) bool { return n >= 0 && n < api.MaxNumber }

// unpack answers the body of the frame that the whole of b is, if it is of that kind and has at least least bytes.
func unpack(b []byte, kind, least int) ([]byte, bool) {
	k, body, to, e := wire.Unframe(b, 0)
	return body, e == api.OK && k == kind && to == len(b) && len(body) >= least
}

// spell takes only an n that has room in size bytes: whatever stands in a message that may be has, by its limits.
func spell(n, size int) []byte {
	b, _ := wire.Put(n, size)
	return b
}

// numberAt takes only places that b has.
func numberAt(b []byte, at, size int) int {
	n, _, _ := wire.Get(b, at, size)
	return n
}
