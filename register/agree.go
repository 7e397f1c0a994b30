package register

import (
	"slices"

	"gazette/acceptor"
	"gazette/api"
)

const (
	ids      = 16
	maxTurns = 4
)

// wish is a value that somebody wants, which may have no bytes, or that nobody wants one.
type wish struct {
	some  bool
	value []byte
}

// goal is one value for a version of a key.
type goal struct {
	link             *Link
	key, id, version int
	wanted           wish
}

// outcome is how a turn ends.
type outcome int

const (
	open outcome = iota
	agreed
	hopeless
)

// agree answers the one value that the version has from then on: the wanted one, unless somebody was faster.
func (g goal) agree() ([]byte, api.Errno) {
	var value []byte
	round, e := 0, api.ErrLost
	turn := func() outcome {
		found, heard, end := g.try(ballotOf(round, g.id))
		value, round = found, roundBehind(round, heard)
		return end
	}
turns:
	for range maxTurns {
		switch turn() {
		case agreed:
			e = api.OK
			break turns
		case hopeless:
			break turns
		}
	}
	if e != api.OK {
		return nil, e
	}
	// Whoever asks later is spared the turns: nothing hangs on the answers.
	g.poll(acceptor.Learn, 0, value)
	return value, api.OK
}

// try makes one turn, and answers the value that was agreed on, all answers that were heard, and how it ended.
func (g goal) try(ballot int) (value []byte, heard []acceptor.Answer, end outcome) {
	promises := g.poll(acceptor.Prepare, ballot, nil)
	if known := best(promises.all, surer); known.Learned {
		return known.Value, promises.all, agreed
	}
	if !promises.carried {
		return nil, promises.all, open
	}
	choice := g.choose(promises)
	if !choice.some {
		return nil, promises.all, prospect(promises)
	}
	accepts := g.poll(acceptor.Accept, ballot, choice.value)
	heard = slices.Concat(promises.all, accepts.all)
	if !accepts.carried {
		return nil, heard, open
	}
	return choice.value, heard, agreed
}

// choose takes what may have been agreed on already: one's own wish counts only where nothing can have been.
func (g goal) choose(promises poll) wish {
	if last := best(promises.ok, accepted); last.Ballot > 0 {
		return wish{some: true, value: last.Value}
	}
	return g.wanted
}

// prospect is of a turn without any value: one that was accepted where the promise was refused may be found with a higher ballot.
func prospect(promises poll) outcome {
	if best(promises.all, accepted).Ballot > 0 {
		return open
	}
	return hopeless
}

func (g goal) poll(kind, ballot int, value []byte) poll {
	return g.link.poll(acceptor.Ask{Kind: kind, Key: g.key, Version: g.version, Ballot: ballot, Value: value})
}

// ballotOf keeps the ballots of all ids apart. One that is too great is refused ahead of being sent.
func ballotOf(round, id int) int { return ids*round + id + 1 }

// roundBehind is above the round, and above all that was heard to be promised.
func roundBehind(round int, heard []acceptor.Answer) int {
	last := best(heard, promised).Promised
	return max(round, roundOf(last)) + 1
}

func roundOf(ballot int) int { return max(ballot-1, 0) / ids }
