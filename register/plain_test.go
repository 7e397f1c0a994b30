package register_test

import (
	"math"
	"math/rand/v2"
	"testing"

	"gazette/acceptor"
	"gazette/api"
	"gazette/net"
	"gazette/register"
)

// plain does what the chapter says by its words, on a link of its own.
type plain struct {
	*register.Link
	pause func() // ahead of each message; nil: nothing
}

// all has the answers of the acceptors, and nil where none came.
func (p plain) all(a acceptor.Ask) []*acceptor.Answer {
	var got []*acceptor.Answer
	for i := range p.Acceptors {
		got = append(got, p.one(i, a))
	}
	return got
}

func (p plain) one(i int, a acceptor.Ask) *acceptor.Answer {
	b, e := acceptor.PutAsk(a)
	if e != api.OK {
		return nil
	}
	if p.pause != nil {
		p.pause()
	}
	times, reply := p.Net.Send(p.Base+i, b)
	var last []byte
	for range times {
		last = p.Acceptors[i].Ask(b)
	}
	if x, e := acceptor.GetAnswer(last); e == api.OK && reply {
		return &x
	}
	return nil
}

func okays(answers []*acceptor.Answer) int {
	n := 0
	for _, x := range answers {
		if x != nil && x.E == api.OK {
			n++
		}
	}
	return n
}

// agree wants nothing, where wanted is nil.
func (p plain) agree(key, id, version int, wanted *string) (string, api.Errno) {
	majority, round := len(p.Acceptors)/2+1, 0
	done := func(value string) (string, api.Errno) {
		p.all(acceptor.Ask{Kind: acceptor.Learn, Key: key, Version: version, Value: []byte(value)})
		return value, api.OK
	}
	for range 4 {
		ballot, greatest, something := 16*round+id+1, 0, false
		prepared := p.all(acceptor.Ask{Kind: acceptor.Prepare, Key: key, Version: version, Ballot: ballot})
		for _, x := range prepared {
			if x != nil && x.Learned {
				return done(string(x.Value))
			}
		}
		value, top := wanted, 0
		for _, x := range prepared {
			if x == nil {
				continue
			}
			greatest, something = max(greatest, x.Promised), something || x.Ballot != 0
			if x.E == api.OK && x.Ballot > top {
				s := string(x.Value)
				value, top = &s, x.Ballot
			}
		}
		if okays(prepared) >= majority && value == nil && !something {
			return "", api.ErrLost
		}
		if okays(prepared) >= majority && value != nil {
			accepted := p.all(acceptor.Ask{Kind: acceptor.Accept, Key: key, Version: version, Ballot: ballot, Value: []byte(*value)})
			if okays(accepted) >= majority {
				return done(*value)
			}
			for _, x := range accepted {
				if x != nil {
					greatest = max(greatest, x.Promised)
				}
			}
		}
		next := 1
		if greatest > 0 {
			next = (greatest-1)/16 + 1
		}
		round = max(next, round+1)
	}
	return "", api.ErrLost
}

func (p plain) may(key, id int) bool {
	return key >= 0 && key <= 1<<48-1 && id >= 0 && id <= 15 && len(p.Acceptors) >= 1 && len(p.Acceptors) <= 9
}

func (p plain) read(key, id int) (int, string, api.Errno) {
	if !p.may(key, id) {
		return 0, "", api.ErrArg
	}
	answers, version := p.all(acceptor.Ask{Kind: acceptor.Query, Key: key}), 0
	if okays(answers) < len(p.Acceptors)/2+1 {
		return 0, "", api.ErrLost
	}
	for _, x := range answers {
		if x != nil && x.E == api.OK {
			version = max(version, x.Version)
		}
	}
	if version == 0 {
		return 0, "", api.OK
	}
	for _, x := range answers {
		if x != nil && x.E == api.OK && x.Version == version && x.Learned {
			return version, string(x.Value), api.OK
		}
	}
	value, e := p.agree(key, id, version, nil)
	if e != api.OK {
		version = 0
	}
	return version, value, e
}

func (p plain) swap(key, id, version int, value string) api.Errno {
	if !p.may(key, id) || version < 0 || version > 1<<48-2 || len(value) > 4000 {
		return api.ErrArg
	}
	seen, _, e := p.read(key, id)
	if e != api.OK {
		return e
	}
	if seen != version {
		return api.ErrStale
	}
	got, e := p.agree(key, id, version+1, &value)
	if e == api.OK && got != value {
		return api.ErrStale
	}
	return e
}

// both is a link, and one like it on which the plain calls are made.
type both struct {
	t     *testing.T
	r     *rand.Rand
	link  *register.Link
	plain plain
	heard map[api.Errno]int
}

func newBoth(t *testing.T, seed uint64, heard map[api.Errno]int) both {
	r := rand.New(rand.NewPCG(seed, 99))
	base := []int{0, 100, -3, 1 << 40}[r.IntN(4)]
	x := both{t, r, &register.Link{Net: net.New(), Base: base}, plain{Link: &register.Link{Net: net.New(), Base: base}}, heard}
	acceptors := 1 + r.IntN(6)
	if r.IntN(20) == 0 {
		acceptors = []int{0, 9, 10}[r.IntN(3)]
	}
	for range acceptors {
		if r.IntN(12) == 0 {
			x.link.Acceptors = append(x.link.Acceptors, nil)
			x.plain.Acceptors = append(x.plain.Acceptors, nil)
			continue
		}
		blocks := 10 + r.IntN(100)
		x.link.Acceptors = append(x.link.Acceptors, mustAcceptor(t, blocks))
		x.plain.Acceptors = append(x.plain.Acceptors, mustAcceptor(t, blocks))
	}
	return x
}

// befall lets the same thing happen to both.
func (x both) befall() {
	k, n, what := x.r.IntN(6), x.r.IntN(6), x.r.IntN(8)
	unlucky := make([]int, x.r.IntN(20))
	for i := range unlucky {
		unlucky[i] = max(0, x.r.IntN(12)-7)
	}
	foreign := x.foreign()
	for _, l := range []*register.Link{x.link, x.plain.Link} {
		switch {
		case what <= 2:
			l.Net.Luck(unlucky)
		case what == 3:
			l.Net.Double(k)
		case n >= len(l.Acceptors):
		case what == 4:
			l.Acceptors[n].Stop()
		case what == 5:
			l.Acceptors[n].Cut(k)
		case what == 6:
			l.Acceptors[n].Ask(foreign)
		default:
			l.Acceptors[n].Start(unlucky)
		}
	}
}

// foreign is an Ask of somebody who keeps to no rule.
func (x both) foreign() []byte {
	version, ballot := 1+x.r.IntN(4), 1+x.r.IntN(100)
	if x.r.IntN(10) == 0 {
		ballot = api.MaxNumber - 1 - x.r.IntN(70)
	}
	value := []byte{byte('p' + x.r.IntN(3))}
	a := acceptor.Ask{Kind: 1 + x.r.IntN(2), Key: x.r.IntN(2), Version: version, Ballot: ballot}
	if a.Kind == acceptor.Accept {
		a.Value = value
	}
	if x.r.IntN(8) == 0 {
		a = acceptor.Ask{Kind: acceptor.Learn, Key: a.Key, Version: version, Value: value}
	}
	return askBytes(a)
}

func oneOf(r *rand.Rand, edges ...int) int { return edges[r.IntN(len(edges))] }

func (x both) call() {
	key, id, version := x.r.IntN(2), x.r.IntN(16), x.r.IntN(4)
	switch x.r.IntN(60) {
	case 0:
		key = oneOf(x.r, math.MinInt, -1, api.MaxNumber-1, api.MaxNumber, math.MaxInt)
	case 1:
		id = oneOf(x.r, math.MinInt, -1, 16, math.MaxInt)
	case 2:
		version = oneOf(x.r, math.MinInt, -1, api.MaxNumber-2, api.MaxNumber-1, math.MaxInt)
	}
	switch x.r.IntN(5) {
	case 0, 1:
		n, v, e := x.plain.read(key, id)
		x.heard[e]++
		if e == api.OK {
			checkRead(x.t, x.link, key, id, n, v)
		} else {
			checkNoRead(x.t, x.link, key, id, e)
		}
	case 2, 3:
		value := []string{"a", "b", "", string(make([]byte, 300)), string(make([]byte, maxValue+1))}[x.r.IntN(5)]
		e := x.plain.swap(key, id, version, value)
		x.heard[e]++
		checkSwap(x.t, x.link, key, id, version, value, e)
	case 4:
		k := x.r.IntN(10)
		to, b, _ := x.plain.Net.Take(k) // Where there is none it is nothing, to 0.
		x.link.Net.Take(k)
		i := to - x.plain.Base
		there := i >= 0 && i < len(x.plain.Acceptors)
		if there {
			x.plain.Acceptors[i].Ask(b)
		}
		checkDeliver(x.t, x.link, to, b, there)
	}
}

// checkAll looks at all that both know, without keeping anything as it is.
func (x both) checkAll() {
	for i := range x.link.Acceptors {
		for key := range 2 {
			for version := 1; version < 7; version++ {
				b := askBytes(acceptor.Ask{Kind: acceptor.Prepare, Key: key, Version: version, Ballot: 1})
				if got, want := x.link.Acceptors[i].Ask(b), x.plain.Acceptors[i].Ask(b); string(got) != string(want) {
					x.t.Errorf("the acceptor %d knows of %d, %d: %q, not %q", i, key, version, got, want)
				}
			}
		}
	}
}

// TestAnyCallsInAnyOrder holds what is done, sent and answered against the chapter's words.
func TestAnyCallsInAnyOrder(t *testing.T) {
	heard := map[api.Errno]int{}
	for seed := range uint64(1000) {
		x := newBoth(t, seed, heard)
		for range 60 {
			if x.r.IntN(2) == 0 {
				x.befall()
			}
			x.call()
			checkWorld(t, x.link, world(x.plain.Link))
			if t.Failed() {
				t.Fatalf("the seed is %d", seed)
			}
		}
		x.checkAll()
	}
	for _, e := range []api.Errno{api.OK, api.ErrArg, api.ErrLost, api.ErrStale} {
		if heard[e] < 1000 {
			t.Errorf("%d was answered only %d times: %v", e, heard[e], heard)
		}
	}
}
