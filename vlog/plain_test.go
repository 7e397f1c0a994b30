package vlog_test

import (
	"fmt"
	"maps"
	"math/rand/v2"
	"testing"

	"gazette/acceptor"
	"gazette/api"
	"gazette/chain"
	"gazette/loglet"
	"gazette/register"
	"gazette/vlog"
)

// caller is what a Log and a plain one have in common.
type caller interface {
	Append(data []byte) (int, api.Errno)
	Read(addr int) ([]byte, api.Errno)
	Mine() api.Errno
	Trim(addr int) api.Errno
	Next() int
	Trimmed() int
	Lost() bool
}

// plain is a log by the chapter's words, one behind the other.
type plain struct {
	link    *vlog.Link
	key, id int
	version int
	chain   chain.Chain
	next    int
	lost    bool
}

func plainNext(nodes, key, id, v int) loglet.Config {
	c := loglet.Config{ID: (key*(1<<20)+(v+1))*16 + id}
	n := v % nodes
	for len(c.Nodes) < nodes && len(c.Nodes) < 3 {
		c.Nodes = append(c.Nodes, n)
		n++
		if n == nodes {
			n = 0
		}
	}
	return c
}

// plainOpen pauses ahead of each call of another layer, with the number of the turn.
func plainOpen(l *vlog.Link, key, id int, pause func(turn int)) (*plain, api.Errno) {
	nodes := len(l.Loglets.Nodes)
	if key < 0 || key > 1<<20-1 || id < 0 || id > 15 || nodes == 0 || nodes > 256 {
		return nil, api.ErrArg
	}
	for turn := 1; turn <= 3; turn++ {
		pause(turn)
		v, value, e := register.Read(l.Register, key, id)
		if e != api.OK {
			return nil, e
		}
		c := chain.Chain{}
		if v != 0 {
			if c, e = chain.Decode(value, nodes); e != api.OK {
				return nil, e
			}
		}
		end := 0
		if len(c.Parts) != 0 {
			last := c.Parts[len(c.Parts)-1]
			pause(turn)
			tail, e := loglet.Seal(l.Loglets, last.Config)
			if e != api.OK {
				return nil, e
			}
			from := 0
			if c.Trim-last.First > 0 {
				from = c.Trim - last.First
			}
			pause(turn)
			if e := loglet.Repair(l.Loglets, last.Config, from, tail); e != api.OK {
				return nil, e
			}
			end = last.First + tail
		}
		d, e := chain.Extend(c, nodes, id, end, plainNext(nodes, key, id, v))
		if e != api.OK {
			return nil, e
		}
		b, _ := chain.Encode(d, nodes)
		pause(turn)
		switch e := register.Swap(l.Register, key, id, v, b); e {
		case api.OK:
			return &plain{l, key, id, v + 1, d, end, false}, api.OK
		case api.ErrStale:
		default:
			return nil, e
		}
	}
	return nil, api.ErrStale
}

func (p *plain) Append(data []byte) (int, api.Errno) {
	if p.lost {
		return 0, api.ErrOwner
	}
	if len(data) > 65536-32 {
		return 0, api.ErrSize
	}
	last := p.chain.Parts[len(p.chain.Parts)-1]
	if p.next-last.First == 4096 {
		return 0, api.ErrOver
	}
	if e := loglet.Append(p.link.Loglets, last.Config, p.next-last.First, data); e != api.OK {
		p.lost = true
		return 0, e
	}
	p.next = p.next + 1
	return p.next - 1, api.OK
}

func (p *plain) Read(addr int) ([]byte, api.Errno) {
	if p.lost {
		return nil, api.ErrOwner
	}
	if addr < 0 {
		return nil, api.ErrArg
	}
	if addr < p.chain.Trim {
		return nil, api.ErrTrim
	}
	if addr >= p.next {
		return nil, api.ErrNone
	}
	var holder chain.Part
	for _, part := range p.chain.Parts {
		if part.First <= addr {
			holder = part
		}
	}
	return loglet.Read(p.link.Loglets, holder.Config, addr-holder.First)
}

func (p *plain) Mine() api.Errno {
	if p.lost {
		return api.ErrOwner
	}
	v, _, e := register.Read(p.link.Register, p.key, p.id)
	if e != api.OK {
		return e
	}
	if v == p.version {
		return api.OK
	}
	p.lost = true
	return api.ErrOwner
}

func (p *plain) Trim(addr int) api.Errno {
	if p.lost {
		return api.ErrOwner
	}
	if addr < 0 || addr > p.next {
		return api.ErrArg
	}
	nodes, t := len(p.link.Loglets.Nodes), addr
	if last := p.chain.Parts[len(p.chain.Parts)-1]; last.First < addr {
		t = last.First
	}
	if t <= p.chain.Trim {
		return api.OK
	}
	d, e := chain.Cut(p.chain, nodes, t)
	if e != api.OK {
		return e
	}
	b, e := chain.Encode(d, nodes)
	if e != api.OK {
		return e
	}
	e = register.Swap(p.link.Register, p.key, p.id, p.version, b)
	if e != api.OK {
		p.lost = true
	}
	if e == api.ErrStale {
		return api.ErrOwner
	}
	if e != api.OK {
		return e
	}
	for i, part := range p.chain.Parts {
		if end := chain.End(p.chain, i); end != -1 && end <= t {
			loglet.Trim(p.link.Loglets, part.Config, 4096)
		}
	}
	p.version++
	p.chain = d
	return api.OK
}

func (p *plain) Next() int    { return p.next }
func (p *plain) Trimmed() int { return p.chain.Trim }
func (p *plain) Lost() bool   { return p.lost }

// twins are two worlds in which the same befalls: one has Logs, the other one plain logs.
type twins struct {
	t      *testing.T
	r      *rand.Rand
	links  [2]*vlog.Link
	logs   []*vlog.Log
	plains []*plain
	counts map[string]int
}

func newTwins(t *testing.T, seed uint64, counts map[string]int) *twins {
	w := &twins{t: t, r: rand.New(rand.NewPCG(seed, 1102)), counts: counts}
	nodes, acceptors := 1+w.r.IntN(5), 1+w.r.IntN(5)
	for i := range w.links {
		w.links[i] = mustLink(t, 0, 0)
		for range nodes {
			w.links[i].Loglets.Nodes = append(w.links[i].Loglets.Nodes, mustNode(t, 20+int(seed%7)*20))
		}
		for range acceptors {
			w.links[i].Register.Acceptors = append(w.links[i].Register.Acceptors, mustAcceptor(t, 20+int(seed%11)*40))
		}
	}
	return w
}

// befall draws one thing, and lets it happen in both worlds.
func (w *twins) befall() {
	seed := w.r.Uint64()
	for _, l := range w.links {
		befall(l, rand.New(rand.NewPCG(seed, 1)))
	}
}

// befall lets one thing happen to a net, a node or an acceptor.
func befall(l *vlog.Link, r *rand.Rand) {
	keeper, agreer := l.Loglets.Nodes[r.IntN(len(l.Loglets.Nodes))], l.Register.Acceptors[r.IntN(len(l.Register.Acceptors))]
	n := l.Loglets.Net
	if r.IntN(2) == 0 {
		n = l.Register.Net
	}
	k := r.IntN(n.Late() + 1)
	choices := []int{r.IntN(3), r.IntN(3), r.IntN(3)}
	switch r.IntN(11) {
	case 0, 1:
		for range r.IntN(20) {
			n.Luck([]int{r.IntN(5) * r.IntN(2)})
		}
	case 2:
		keeper.Stop()
	case 3:
		agreer.Stop()
	case 4, 5:
		keeper.Start(choices)
		agreer.Start(choices)
	case 6:
		keeper.Cut(r.IntN(6))
	case 7:
		agreer.Cut(r.IntN(6))
	case 8, 9:
		deliver(l, k, n == l.Register.Net)
	case 10:
		n.Double(k)
	}
}

// deliver lets a late message come, to a node or an acceptor.
func deliver(l *vlog.Link, k int, toAcceptor bool) {
	if !toAcceptor {
		l.Loglets.Deliver(k)
	} else if to, b, ok := l.Register.Net.Take(k); ok {
		l.Register.Deliver(to, b)
	}
}

// meddle does in both worlds what no Log does: the register gets a chain of somebody else's, or a loglet an entry.
func (w *twins) meddle() {
	key, seed := w.r.IntN(2), w.r.Uint64()
	for _, l := range w.links {
		r := rand.New(rand.NewPCG(seed, 2))
		nodes := len(l.Loglets.Nodes)
		first, id := r.IntN(20), number(key, r.IntN(4), r.IntN(3))
		c := chain.Chain{Owner: r.IntN(16), Trim: first + r.IntN(3), Parts: []chain.Part{{First: first, Config: of(id, r.IntN(nodes))}}}
		b, _ := chain.Encode(c, nodes)
		if r.IntN(8) == 0 {
			b = []byte("no chain")
		}
		version, _, _ := register.Read(l.Register, key, 5)
		switch r.IntN(3) {
		case 0:
			register.Swap(l.Register, key, r.IntN(16), version, b)
		case 1:
			loglet.Append(l.Loglets, c.Parts[0].Config, r.IntN(4), []byte{byte(r.IntN(2))})
		case 2:
			loglet.Trim(l.Loglets, c.Parts[0].Config, r.IntN(3))
		}
	}
}

// race has one acceptor know versions that the others don't, and lays the luck of an Open that finds them one by one.
func (w *twins) race(key int) {
	times, first := 1+w.r.IntN(4), w.r.IntN(20)
	for _, l := range w.links {
		n, all := l.Register.Net, l.Register.Acceptors
		calm(n)
		version, _, _ := register.Read(l.Register, key, 5)
		for i := range times {
			c := chain.Chain{Owner: 9, Trim: first + i, Parts: []chain.Part{{First: first + i, Config: plainNext(len(l.Loglets.Nodes), key, 9, version+i)}}}
			b, _ := chain.Encode(c, len(l.Loglets.Nodes))
			ask, _ := acceptor.PutAsk(acceptor.Ask{Kind: acceptor.Accept, Key: key, Version: version + 1 + i, Ballot: 1, Value: b})
			all[len(all)-1].Ask(ask)
			luck(n, comes, len(all)-1, lost, 1, comes, len(all)-1, lost, 1, comes, 3*len(all))
		}
	}
}

func (w *twins) open() {
	key, id := w.r.IntN(2), w.r.IntN(4)
	if w.r.IntN(10) == 0 {
		w.race(key)
	}
	turns := 0
	p, f := plainOpen(w.links[1], key, id, func(turn int) { turns = turn })
	g, e := vlog.Open(w.links[0], key, id)
	w.counts[fmt.Sprint("open ", int(e))]++
	w.counts[fmt.Sprint("turns ", turns)]++
	if e != f || (g == nil) != (e != api.OK) {
		w.t.Fatalf("Open(%d, %d): %v, %d, not %d", key, id, g, e, f)
	}
	if e == api.OK {
		w.logs, w.plains = append(w.logs, g), append(w.plains, p)
	}
}

// call makes one call of a log, and tells what it answers.
func call(c caller, kind, addr int, data []byte) (string, api.Errno) {
	switch kind {
	case 0:
		n, e := c.Append(data)
		return fmt.Sprint("append ", n, len(data)), e
	case 1:
		b, e := c.Read(addr)
		return fmt.Sprintf("read %d %q", addr, b), e
	case 2:
		return "mine", c.Mine()
	}
	return fmt.Sprint("trim ", addr), c.Trim(addr)
}

func (w *twins) call() {
	if len(w.logs) == 0 {
		return
	}
	// Most calls are of the youngest ones.
	i := max(0, len(w.logs)-1-w.r.IntN(5)*w.r.IntN(2))
	g, p := w.logs[i], w.plains[i]
	kind := []int{0, 0, 0, 0, 1, 1, 2, 3}[w.r.IntN(8)]
	addr := p.Next() + 2 - w.r.IntN(p.Next()-p.Trimmed()+6)
	data := make([]byte, w.r.IntN(30)*w.r.IntN(30))
	for i := range data {
		data[i] = byte(w.r.IntN(4))
	}
	got, e := call(g, kind, addr, data)
	want, f := call(p, kind, addr, data)
	w.counts[fmt.Sprintf("%.4s %d", want, f)]++
	if got != want || e != f {
		w.t.Fatalf("%s: %d, not %s: %d", got, e, want, f)
	}
	if g.Next() != p.next || g.Trimmed() != p.chain.Trim || g.Lost() != p.lost {
		w.t.Fatalf("behind %s: Next %d, Trimmed %d, Lost %v, not %d, %d, %v", got, g.Next(), g.Trimmed(), g.Lost(), p.next, p.chain.Trim, p.lost)
	}
}

// P1102 to P1106

// TestAnyCallsByTheChaptersWords holds any calls, whatever befalls, against the words: what is answered, and what nets, nodes and acceptors know behind each of them.
func TestAnyCallsByTheChaptersWords(t *testing.T) {
	counts := map[string]int{}
	for seed := range uint64(1500) {
		w := newTwins(t, seed, counts)
		for range 60 {
			switch n := w.r.IntN(20); {
			case n < 5:
				w.befall()
			case n == 5 && seed%3 == 0:
				w.meddle()
			case n < 9:
				w.open()
			default:
				w.call()
			}
		}
		checkWorld(t, w.links[0], world(w.links[1]))
		if t.Failed() {
			t.Fatalf("the seed is %d", seed)
		}
	}
	for _, k := range []string{
		"open 0", "open 33", "open 7", "open 34", "open 22", "open 1", "turns 2", "turns 3", "appe 0", "appe 30", "appe 33", "appe 7", "appe 35", "appe 32",
		"read 0", "read 1", "read 3", "read 32", "read 33", "read 35", "mine 0", "mine 33", "mine 35", "trim 0", "trim 1", "trim 33", "trim 35",
	} {
		if counts[k] < 5 {
			t.Errorf("%s: only %d times: %v", k, counts[k], maps.Clone(counts))
		}
	}
	if testing.Verbose() {
		t.Log(counts)
	}
}
