package acceptor

import "gazette/api"

// spot is what is agreed on for itself: a version of a key.
type spot struct {
	key, version int
}

// known is what an acceptor knows of a spot. Its value is a string so that a change is seen by comparing.
type known struct {
	promised int
	ballot   int // of what was accepted; 0: nothing was
	learned  bool
	value    string
}

// rules has for each kind what is known behind an Ask, or why it is refused.
func rules() [kinds]func(known, Ask) (known, api.Errno) {
	return [kinds]func(known, Ask) (known, api.Errno){
		Prepare: known.prepare,
		Accept:  known.accept,
		Learn:   known.learn,
		Query:   known.query,
	}
}

func (k known) prepare(a Ask) (known, api.Errno) {
	if a.Ballot <= k.promised {
		return k, api.ErrStale
	}
	k.promised = a.Ballot
	return k, api.OK
}

// accept keeps even the ballot of what is learned: whoever brings the same value is just told so.
func (k known) accept(a Ask) (known, api.Errno) {
	if a.Ballot < k.promised || k.learned && k.value != string(a.Value) {
		return k, api.ErrStale
	}
	if k.learned {
		return k, api.OK
	}
	return known{promised: a.Ballot, ballot: a.Ballot, value: string(a.Value)}, api.OK
}

// learn leaves no value without a ballot: 0 would say that there is none.
func (k known) learn(a Ask) (known, api.Errno) {
	if k.learned {
		return k, api.OK
	}
	k.ballot = max(k.ballot, 1)
	k.learned, k.value = true, string(a.Value)
	return k, api.OK
}

// query changes nothing: every Answer tells what is known.
func (k known) query(Ask) (known, api.Errno) { return k, api.OK }

func (k known) answer(version int) Answer {
	return Answer{Version: version, Promised: k.promised, Ballot: k.ballot, Learned: k.learned, Value: []byte(k.value)}
}

func knownOf(a Answer) known {
	return known{promised: a.Promised, ballot: a.Ballot, learned: a.Learned, value: string(a.Value)}
}
