package vlog_test

import (
	"fmt"
	"iter"
	"maps"
	"math/rand/v2"
	"testing"

	"gazette/api"
	"gazette/vlog"
)

// spot is an address of a key's log.
type spot struct{ key, addr int }

// owner is a log that was opened: the how manieth of its key.
type owner struct {
	caller
	key, order int
}

// story is two logs, all who open them, and all that befalls them. Beside those whose Open is one step there are slow ones: they do what the chapter says call by call, and everything else goes on in between.
type story struct {
	t      *testing.T
	r      *rand.Rand
	link   *vlog.Link
	owners []*owner
	slow   []func() bool // each goes on up to its next call, and tells whether there is one

	opened [2]int                  // by keys: how many Opens were OK
	end    [2]int                  // the greatest Next that any owner had
	given  [2]int                  // ahead of it all may have been given up
	cut    [2]int                  // ahead of it all is given up
	told   map[spot]string         // what an Append was answered OK for
	seen   map[spot]string         // that, and what was read
	tried  map[spot]map[string]int // what anybody wanted to append
	counts map[string]int
}

func newStory(t *testing.T, seed uint64, counts map[string]int) *story {
	s := &story{t: t, r: rand.New(rand.NewPCG(seed, 1107)), counts: counts}
	s.told, s.seen, s.tried = map[spot]string{}, map[spot]string{}, map[spot]map[string]int{}
	s.link = mustLink(t, 0, 0)
	for range 1 + seed%5 {
		s.link.Loglets.Nodes = append(s.link.Loglets.Nodes, mustNode(t, 200))
	}
	for range 1 + seed/5%4 {
		s.link.Register.Acceptors = append(s.link.Register.Acceptors, mustAcceptor(t, 400))
	}
	return s
}

// own holds a log that was opened against all that was told of its key.
func (s *story) own(c caller, key int) {
	s.t.Helper()
	s.opened[key]++
	if c.Next() < s.end[key] {
		s.t.Errorf("an Open ends at %d, where %d was", c.Next(), s.end[key])
	}
	if c.Trimmed() < s.cut[key] || c.Trimmed() > s.given[key] {
		s.t.Errorf("an Open begins at %d, not from %d to %d", c.Trimmed(), s.cut[key], s.given[key])
	}
	s.end[key] = c.Next()
	s.owners = append(s.owners, &owner{c, key, s.opened[key]})
}

func (s *story) open() {
	key, id := s.r.IntN(2), s.r.IntN(3)
	if len(s.slow) < 3 && s.r.IntN(2) == 0 {
		s.start(func(pause func(int)) {
			p, e := plainOpen(s.link, key, id, pause)
			s.counts[fmt.Sprint("slow open ", int(e))]++
			if e == api.OK {
				s.own(p, key)
			}
		})
		return
	}
	g, e := vlog.Open(s.link, key, id)
	s.counts[fmt.Sprint("open ", int(e))]++
	if e == api.OK {
		s.own(g, key)
	}
}

// start lets a slow opening begin.
func (s *story) start(open func(pause func(int))) {
	next, _ := iter.Pull(func(yield func(int) bool) {
		open(func(turn int) { yield(turn) })
	})
	s.slow = append(s.slow, func() bool {
		_, more := next()
		return more
	})
}

// goOn lets one of the slow ones make a call.
func (s *story) goOn() {
	if len(s.slow) == 0 {
		return
	}
	if i := s.r.IntN(len(s.slow)); !s.slow[i]() {
		s.slow = append(s.slow[:i], s.slow[i+1:]...)
	}
}

// append looks at addresses, too: they rise one by one, and nobody else has had this one.
func (s *story) append(o *owner) {
	at, data := spot{o.key, o.Next()}, fmt.Sprint("entry ", s.r.Uint32())
	if s.tried[at] == nil {
		s.tried[at] = map[string]int{}
	}
	if !o.Lost() {
		s.tried[at][data]++
	}
	addr, e := o.Append([]byte(data))
	s.counts[fmt.Sprint("append ", int(e))]++
	if e != api.OK {
		if addr != 0 || !o.Lost() {
			s.t.Errorf("Append: %d, %d, Lost %v", addr, e, o.Lost())
		}
		return
	}
	if addr != at.addr || o.Next() != addr+1 {
		s.t.Errorf("Append: %d, Next %d, not %d", addr, o.Next(), at.addr)
	}
	if o.order != s.opened[o.key] {
		s.t.Errorf("an Append at %v of the owner %d is OK, where %d have opened it", at, o.order, s.opened[o.key])
	}
	if was, ok := s.seen[at]; ok {
		s.t.Errorf("an Append at %v is OK, where %q was", at, was)
	}
	s.told[at], s.seen[at] = data, data
	s.end[o.key] = max(s.end[o.key], o.Next())
}

func (s *story) read(o *owner, addr int) {
	at := spot{o.key, addr}
	lost, next := o.Lost(), o.Next()
	b, e := o.Read(addr)
	s.counts[fmt.Sprint("read ", int(e))]++
	switch {
	case lost && e != api.ErrOwner:
		s.t.Errorf("Read(%v): %d by one that is lost", at, e)
	case e == api.ErrNone && addr < next:
		s.t.Errorf("Read(%v): there is nothing, ahead of %d", at, next)
	case e == api.ErrTrim && addr >= s.given[o.key]:
		s.t.Errorf("Read(%v): nobody has given it up", at)
	case e == api.OK:
		if was, ok := s.seen[at]; ok && was != string(b) {
			s.t.Errorf("Read(%v): %q, where %q was", at, b, was)
		}
		if s.tried[at][string(b)] == 0 {
			s.t.Errorf("Read(%v): %q, which nobody has appended there", at, b)
		}
		s.seen[at] = string(b)
	}
}

func (s *story) trim(o *owner) {
	addr, was := s.r.IntN(o.Next()+1), o.Trimmed()
	if !o.Lost() {
		s.given[o.key] = max(s.given[o.key], addr)
	}
	e := o.Trim(addr)
	if e == api.OK && o.Trimmed() == was {
		return // nothing happens
	}
	s.counts[fmt.Sprint("trim ", int(e))]++
	if e != api.OK {
		return
	}
	if o.order != s.opened[o.key] || o.Trimmed() > addr {
		s.t.Errorf("a Trim of %d to %d by the owner %d is OK, where %d have opened it", addr, o.Trimmed(), o.order, s.opened[o.key])
	}
	s.cut[o.key] = max(s.cut[o.key], o.Trimmed())
}

func (s *story) mine(o *owner) {
	e := o.Mine()
	s.counts[fmt.Sprint("mine ", int(e))]++
	if e == api.OK && o.order != s.opened[o.key] {
		s.t.Errorf("it is the owner %d's, where %d have opened it", o.order, s.opened[o.key])
	}
}

// call makes a call of one who has opened a log: most often of the last ones.
func (s *story) call() {
	if len(s.owners) == 0 {
		return
	}
	o := s.owners[max(0, len(s.owners)-1-s.r.IntN(6)*s.r.IntN(2))]
	switch s.r.IntN(10) {
	case 0, 1, 2, 3, 4:
		s.append(o)
	case 5, 6, 7:
		s.read(o, o.Next()-s.r.IntN(o.Next()-o.Trimmed()+2))
	case 8:
		s.mine(o)
	case 9:
		s.trim(o)
	}
}

// calm lets all nodes and acceptors answer, and all that is late come.
func (s *story) calm() {
	calm(s.link.Loglets.Net)
	calm(s.link.Register.Net)
	for _, n := range s.link.Loglets.Nodes {
		n.Stop()
		n.Start([]int{s.r.IntN(3)})
		n.Cut(-1)
	}
	for _, a := range s.link.Register.Acceptors {
		a.Stop()
		a.Start([]int{s.r.IntN(3)})
		a.Cut(-1)
	}
	for s.link.Loglets.Net.Late() > 0 {
		deliver(s.link, s.r.IntN(s.link.Loglets.Net.Late()), false)
	}
	for s.link.Register.Net.Late() > 0 {
		deliver(s.link, s.r.IntN(s.link.Register.Net.Late()), true)
	}
}

// last looks at a key's log when all is well.
func (s *story) last(key int) {
	g, e := vlog.Open(s.link, key, 15)
	if e != api.OK {
		s.t.Errorf("Open(%d): %d, when all is well", key, e)
		return
	}
	s.own(g, key)
	for addr := g.Trimmed(); addr < g.Next(); addr++ {
		at := spot{key, addr}
		b, e := g.Read(addr)
		if e != api.OK {
			s.t.Errorf("Read(%v): %d, when all is well", at, e)
		}
		if was, ok := s.seen[at]; ok && was != string(b) || s.tried[at][string(b)] == 0 {
			s.t.Errorf("Read(%v): %q, when all is well, where %q was", at, b, was)
		}
		s.counts["last"]++
	}
	for at := range s.told {
		if at.key == key && at.addr >= g.Next() {
			s.t.Errorf("%v is not there, when all is well: Next is %d", at, g.Next())
		}
	}
	for _, o := range s.owners[:len(s.owners)-1] {
		if o.key == key {
			s.append(o)
		}
	}
	s.append(s.owners[len(s.owners)-1])
	if _, ok := s.told[spot{key, g.Next() - 1}]; !ok {
		s.t.Errorf("the last owner of %d can't append, when all is well", key)
	}
}

func (s *story) run() {
	for range 90 {
		if s.r.IntN(3) == 0 {
			befall(s.link, s.r)
		}
		switch n := s.r.IntN(12); {
		case n == 0:
			s.open()
		case n < 4:
			s.goOn()
		default:
			s.call()
		}
		// Where nothing goes on any more somebody makes things better.
		if s.r.IntN(25) == 0 {
			s.calm()
		}
	}
	for len(s.slow) > 0 {
		s.goOn()
	}
	s.calm()
	s.last(0)
	s.last(1)
}

// P1107, P1108, P1109

// TestWhatWasToldLasts plays many stories: whatever befalls them, what was told stays at its address, nobody but the last owner changes anything, and addresses rise one by one.
func TestWhatWasToldLasts(t *testing.T) {
	counts := map[string]int{}
	for seed := range uint64(1500) {
		s := newStory(t, seed, counts)
		s.run()
		if t.Failed() {
			t.Fatalf("the seed is %d", seed)
		}
	}
	for _, k := range []string{
		"open 0", "open 33", "slow open 0", "slow open 33", "append 0", "append 30", "append 33", "append 35", "read 0", "read 32", "read 33",
		"mine 0", "mine 33", "mine 35", "trim 0", "trim 33", "trim 35", "last",
	} {
		if counts[k] < 50 {
			t.Errorf("%s: only %d times: %v", k, counts[k], maps.Clone(counts))
		}
	}
	if testing.Verbose() {
		t.Log(counts)
	}
}
