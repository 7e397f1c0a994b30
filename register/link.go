package register

import (
	"iter"
	"math"

	"gazette/acceptor"
	"gazette/api"
	"gazette/net"
)

// Link is a net and the acceptors behind it: messages to them have numbers from Base on. A nil one among them never answers.
type Link struct {
	Net       *net.Net
	Acceptors []*acceptor.Acceptor
	Base      int
}

// Ask sends a to an acceptor, and answers its answer, if one comes.
func (l *Link) Ask(to int, a acceptor.Ask) (acceptor.Answer, bool) {
	// Where Base and to have no sum there is no number to send to.
	if !l.made() || !l.has(to) || l.Base > math.MaxInt-to {
		return acceptor.Answer{}, false
	}
	b, e := acceptor.PutAsk(a)
	if e != api.OK {
		return acceptor.Answer{}, false
	}
	times, comes := l.Net.Send(l.Base+to, b)
	var told []byte
	for range times {
		told = l.Acceptors[to].Ask(b)
	}
	if !comes {
		return acceptor.Answer{}, false
	}
	// An acceptor without power has told nothing, which is no answer.
	answer, e := acceptor.GetAnswer(told)
	return answer, e == api.OK
}

// Deliver lets a message come that was late. Its sender has gone on: nobody hears the answer.
func (l *Link) Deliver(to int, b []byte) bool {
	// A to below Base is nobody's, even where the difference wraps round.
	if !l.made() || to < l.Base || !l.has(to-l.Base) {
		return false
	}
	l.Acceptors[to-l.Base].Ask(b)
	return true
}

func (l *Link) made() bool { return l != nil && l.Net.Made() }

func (l *Link) has(to int) bool { return to >= 0 && to < len(l.Acceptors) }

// may tells whether l can agree on anything.
func (l *Link) may() bool {
	return l.made() && len(l.Acceptors) > 0 && len(l.Acceptors) <= api.MaxNodes
}

// answers asks the acceptors in their order, as long as somebody looks, and tells the answers that come.
func (l *Link) answers(a acceptor.Ask) iter.Seq[acceptor.Answer] {
	return func(yield func(acceptor.Answer) bool) {
		for to := range l.Acceptors {
			if answer, ok := l.Ask(to, a); ok && !yield(answer) {
				return
			}
		}
	}
}

// poll is what all acceptors said: even an answer that is not OK tells what its acceptor knows.
type poll struct {
	all, ok []acceptor.Answer
	carried bool // a majority is OK
}

// poll asks all acceptors.
func (l *Link) poll(a acceptor.Ask) poll {
	var p poll
	for answer := range l.answers(a) {
		p.all = append(p.all, answer)
		if answer.E == api.OK {
			p.ok = append(p.ok, answer)
		}
	}
	p.carried = len(p.ok) > len(l.Acceptors)/2
	return p
}
