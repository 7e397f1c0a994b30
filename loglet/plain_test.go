package loglet_test

import (
	"math"
	"math/rand/v2"
	"slices"
	"testing"

	"gazette/api"
	"gazette/loglet"
	"gazette/node"
)

// plain does what the chapter says by its words, on a link of its own.
type plain struct{ *loglet.Link }

// all has the replies of the nodes, and nil where none came.
func (p plain) all(c loglet.Config, r node.Request) []*node.Reply {
	var got []*node.Reply
	for _, i := range c.Nodes {
		got = append(got, p.one(c, i, r))
	}
	return got
}

func (p plain) one(c loglet.Config, i int, r node.Request) *node.Reply {
	r.Loglet = c.ID
	b, e := node.PutRequest(r)
	if e != api.OK {
		return nil
	}
	times, reply := p.Net.Send(i, b)
	var told []byte
	for range times {
		told = p.Nodes[i].Ask(b)
	}
	if x, e := node.GetReply(told); e == api.OK && reply {
		return &x
	}
	return nil
}

func (p plain) may(c loglet.Config) bool {
	for i, n := range c.Nodes {
		if n < 0 || n > len(p.Nodes)-1 || slices.Index(c.Nodes, n) != i {
			return false
		}
	}
	return c.ID >= 0 && c.ID <= 1<<48-1 && len(c.Nodes) >= 1 && len(c.Nodes) <= 9
}

func errnos(replies []*node.Reply) []api.Errno {
	var says []api.Errno
	for _, x := range replies {
		if x == nil {
			says = append(says, silent)
		} else {
			says = append(says, x.E)
		}
	}
	return says
}

func (p plain) append(c loglet.Config, pos int, data []byte) api.Errno {
	if !p.may(c) || pos < 0 || pos > 4095 {
		return api.ErrArg
	}
	if len(data) > 65504 {
		return api.ErrSize
	}
	says := errnos(p.all(c, node.Request{Kind: node.Write, Pos: pos, Data: data}))
	return judge(says, api.ErrSeal, api.ErrTwice, api.ErrTrim, api.ErrFull)
}

func (p plain) seal(c loglet.Config) (int, api.Errno) {
	if !p.may(c) {
		return 0, api.ErrArg
	}
	replies, tail := p.all(c, node.Request{Kind: node.Seal}), 0
	for _, x := range replies {
		if x != nil && x.E == api.OK {
			tail = max(tail, x.Tail)
		}
	}
	e := judge(errnos(replies), api.ErrFull)
	if e != api.OK {
		tail = 0
	}
	return tail, e
}

func (p plain) repair(c loglet.Config, from, to int) api.Errno {
	if !p.may(c) || from < 0 || from > to || to > 4096 {
		return api.ErrArg
	}
	for pos := from; pos < to; pos++ {
		replies := p.all(c, node.Request{Kind: node.Read, Pos: pos})
		says := errnos(replies)
		if slices.Contains(says, api.ErrTrim) || judge(says) == api.OK {
			continue
		}
		first := slices.Index(says, api.OK)
		if first < 0 && !slices.Contains(says, silent) {
			return api.ErrNone
		}
		if first < 0 {
			return api.ErrLost
		}
		says = errnos(p.all(c, node.Request{Kind: node.Repair, Pos: pos, Data: replies[first].Data}))
		if e := judge(says, api.ErrTwice, api.ErrTrim, api.ErrFull); e != api.OK {
			return e
		}
	}
	return api.OK
}

func (p plain) read(c loglet.Config, pos int) (string, api.Errno) {
	if !p.may(c) || pos < 0 || pos > 4095 {
		return "", api.ErrArg
	}
	trims, nones := 0, 0
	for _, i := range c.Nodes {
		x := p.one(c, i, node.Request{Kind: node.Read, Pos: pos})
		switch {
		case x != nil && x.E == api.OK:
			return string(x.Data), api.OK
		case x != nil && x.E == api.ErrTrim:
			trims++
		case x != nil && x.E == api.ErrNone:
			nones++
		}
	}
	if trims > 0 {
		return "", api.ErrTrim
	}
	if nones == len(c.Nodes) {
		return "", api.ErrNone
	}
	return "", api.ErrLost
}

func (p plain) trim(c loglet.Config, pos int) api.Errno {
	if !p.may(c) || pos < 0 || pos > 4096 {
		return api.ErrArg
	}
	return judge(errnos(p.all(c, node.Request{Kind: node.Trim, Pos: pos})), api.ErrFull)
}

// both is a link, and one like it on which the plain calls are made.
type both struct {
	t     *testing.T
	r     *rand.Rand
	link  *loglet.Link
	plain plain
}

func newBoth(t *testing.T, seed uint64) both {
	r := rand.New(rand.NewPCG(seed, 77))
	nodes := r.IntN(6)
	x := both{t, r, mustLink(t, 0, 0), plain{mustLink(t, 0, 0)}}
	for range nodes {
		if r.IntN(12) == 0 {
			x.link.Nodes = append(x.link.Nodes, nil)
			x.plain.Nodes = append(x.plain.Nodes, nil)
			continue
		}
		blocks := 1 + r.IntN(30)
		x.link.Nodes = append(x.link.Nodes, mustNode(t, blocks))
		x.plain.Nodes = append(x.plain.Nodes, mustNode(t, blocks))
	}
	return x
}

// befall lets the same thing happen to both.
func (x both) befall() {
	k, n, what := x.r.IntN(6), x.r.IntN(6), x.r.IntN(6)
	luck := []int{x.r.IntN(20) - 10, x.r.IntN(5), 0, 0}
	for _, l := range []*loglet.Link{x.link, x.plain.Link} {
		switch {
		case what == 0:
			l.Net.Luck(luck)
		case what == 1:
			l.Net.Double(k)
		case n >= len(l.Nodes):
		case what == 2:
			l.Nodes[n].Stop()
		case what == 3:
			l.Nodes[n].Cut(k)
		default:
			l.Nodes[n].Start(luck)
		}
	}
}

// pos is most often a place that was used.
func (x both) pos() int {
	if x.r.IntN(20) > 0 {
		return x.r.IntN(5)
	}
	edges := []int{math.MinInt, -1, api.MaxSlots - 1, api.MaxSlots, api.MaxSlots + 1, math.MaxInt}
	return edges[x.r.IntN(len(edges))]
}

func (x both) config() loglet.Config {
	if x.r.IntN(20) == 0 {
		bad := badConfigs(2)
		return bad[x.r.IntN(len(bad))]
	}
	all := x.r.Perm(len(x.link.Nodes))
	return loglet.Config{ID: x.r.IntN(2), Nodes: all[:x.r.IntN(len(all)+1)]}
}

func (x both) call() {
	c, pos := x.config(), x.pos()
	switch x.r.IntN(9) {
	case 0, 1, 2:
		data := []string{"a", "b", "", string(make([]byte, 300)), string(make([]byte, maxData+1))}[x.r.IntN(5)]
		checkAppend(x.t, x.link, c, pos, data, x.plain.append(c, pos, []byte(data)))
	case 3:
		tail, e := x.plain.seal(c)
		checkSeal(x.t, x.link, c, tail, e)
	case 4, 5:
		to := x.pos()
		checkRepair(x.t, x.link, c, pos, to, x.plain.repair(c, pos, to))
	case 6:
		data, e := x.plain.read(c, pos)
		checkRead(x.t, x.link, c, pos, data, e)
	case 7:
		checkTrim(x.t, x.link, c, pos, x.plain.trim(c, pos))
	case 8:
		to, b, ok := x.plain.Net.Take(pos)
		if ok && to >= 0 && to < len(x.plain.Nodes) {
			x.plain.Nodes[to].Ask(b)
		}
		checkDeliver(x.t, x.link, pos, ok)
	}
}

// TestAnyCallsInAnyOrder holds what is done, sent and answered against the chapter's words.
func TestAnyCallsInAnyOrder(t *testing.T) {
	for seed := range uint64(400) {
		x := newBoth(t, seed)
		for range 100 {
			if x.r.IntN(3) == 0 {
				x.befall()
			}
			x.call()
			checkWorld(t, x.link, world(x.plain.Link))
			if t.Failed() {
				t.Fatalf("the seed is %d", seed)
			}
		}
	}
}
