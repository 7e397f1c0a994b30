package cluster_test

import (
	"fmt"
	"maps"
	"math/rand/v2"
	"strings"
	"testing"

	"gazette/acceptor"
	"gazette/api"
	"gazette/broker"
	"gazette/cluster"
	"gazette/loglet"
	"gazette/net"
	"gazette/node"
	"gazette/register"
	"gazette/txn"
	"gazette/vlog"
)

// box is what a Cluster and a plain one have in common.
type box interface {
	Broker(i int) (*broker.Broker, api.Errno)
	Luck(l []int) api.Errno
	Late() int
	Deliver(k int) bool
	Drop(k int) bool
	Double(k int) bool
	Stop(kind, i int) api.Errno
	Start(kind, i int, choices []int) api.Errno
	Cut(kind, i, n int) api.Errno
	Up(kind, i int) bool
	Tick(n int) api.Errno
	Now() int
	Well() api.Errno
	Settle() (int, api.Errno)
}

// plain is a cluster by the chapter's words, one behind the other.
type plain struct {
	spec      cluster.Spec
	net       *net.Net
	nodes     []*node.Node
	acceptors []*acceptor.Acceptor
	link      *vlog.Link
	brokers   []*broker.Broker // nil: not up
	now       int
}

func newPlain(s cluster.Spec) *plain {
	p := &plain{spec: s, net: net.New()}
	for range s.Nodes {
		n, _ := node.New(s.Blocks)
		p.nodes = append(p.nodes, n)
	}
	for range s.Acceptors {
		a, _ := acceptor.New(s.Blocks)
		p.acceptors = append(p.acceptors, a)
	}
	p.link = &vlog.Link{
		Loglets:  &loglet.Link{Net: p.net, Nodes: p.nodes},
		Register: &register.Link{Net: p.net, Acceptors: p.acceptors, Base: 100},
	}
	for id := range s.Brokers {
		p.brokers = append(p.brokers, p.fresh(id))
	}
	return p
}

func (p *plain) fresh(id int) *broker.Broker {
	b, _ := broker.New(p.link, id, p.spec.Parts, p.spec.Session)
	return b
}

func (p *plain) Broker(i int) (*broker.Broker, api.Errno) {
	if i < 0 || i >= p.spec.Brokers {
		return nil, api.ErrNone
	}
	if p.brokers[i] == nil {
		return nil, api.ErrPower
	}
	return p.brokers[i], api.OK
}

func (p *plain) Luck(l []int) api.Errno {
	p.net.Luck(l)
	return api.OK
}

func (p *plain) Late() int { return p.net.Late() }

func (p *plain) Deliver(k int) bool {
	to, b, ok := p.net.Take(k)
	if ok && to < p.spec.Nodes {
		p.nodes[to].Ask(b)
	}
	if ok && to >= 100 {
		p.acceptors[to-100].Ask(b)
	}
	return ok
}

func (p *plain) Drop(k int) bool {
	_, _, ok := p.net.Take(k)
	return ok
}

func (p *plain) Double(k int) bool { return p.net.Double(k) }

// refuse answers what Stop, Start and Cut answer first.
func (p *plain) refuse(kind, i int) api.Errno {
	if kind < 0 || kind > 2 {
		return api.ErrArg
	}
	if i < 0 || i >= []int{p.spec.Nodes, p.spec.Acceptors, p.spec.Brokers}[kind] {
		return api.ErrNone
	}
	return api.OK
}

func (p *plain) Stop(kind, i int) api.Errno {
	e := p.refuse(kind, i)
	if e == api.OK && kind == 0 {
		p.nodes[i].Stop()
	}
	if e == api.OK && kind == 1 {
		p.acceptors[i].Stop()
	}
	if e == api.OK && kind == 2 {
		p.brokers[i] = nil
	}
	return e
}

func (p *plain) Start(kind, i int, choices []int) api.Errno {
	e := p.refuse(kind, i)
	if e == api.OK && kind == 0 {
		return p.nodes[i].Start(choices)
	}
	if e == api.OK && kind == 1 {
		return p.acceptors[i].Start(choices)
	}
	if e == api.OK && p.brokers[i] == nil {
		p.brokers[i] = p.fresh(i)
	}
	return e
}

func (p *plain) Cut(kind, i, n int) api.Errno {
	e := p.refuse(kind, i)
	if e == api.OK && kind == 0 {
		p.nodes[i].Cut(n)
	}
	if e == api.OK && kind == 1 {
		p.acceptors[i].Cut(n)
	}
	if e == api.OK && kind == 2 {
		return api.ErrArg
	}
	return e
}

func (p *plain) Up(kind, i int) bool {
	if p.refuse(kind, i) != api.OK {
		return false
	}
	return []func() bool{
		func() bool { return p.nodes[i].Up() },
		func() bool { return p.acceptors[i].Up() },
		func() bool { return p.brokers[i] != nil },
	}[kind]()
}

func (p *plain) Tick(n int) api.Errno {
	if n < 0 || n > 3600 || p.now+n > 1<<40 {
		return api.ErrArg
	}
	p.now += n
	return api.OK
}

func (p *plain) Now() int { return p.now }

func (p *plain) Well() api.Errno {
	was := p.net.Late()
	for p.net.Left() > 0 {
		p.net.Send(-1, nil)
		p.net.Take(was)
	}
	for p.net.Late() > 0 {
		p.Deliver(0)
	}
	for _, n := range p.nodes {
		n.Start(nil)
		n.Cut(-1)
	}
	for _, a := range p.acceptors {
		a.Start(nil)
		a.Cut(-1)
	}
	for id := range p.brokers {
		p.brokers[id] = p.fresh(id)
	}
	return api.OK
}

func (p *plain) Settle() (int, api.Errno) {
	for _, b := range p.brokers {
		if b == nil {
			continue
		}
		if _, _, e := b.Txn(txn.Event{Kind: txn.Expire, Now: p.now}); e != api.OK {
			return 0, e
		}
		return b.Finish()
	}
	return 0, api.ErrPower
}

// deed draws something that befalls a box, as a function that tells what it answers. Most numbers are of what there is.
func deed(r *rand.Rand, s cluster.Spec, onTheWay int) func(box) string {
	kind := r.IntN(3)
	i := r.IntN([]int{s.Nodes, s.Acceptors, s.Brokers}[kind])
	k := r.IntN(onTheWay + 1)
	if r.IntN(10) == 0 {
		kind, i, k = pick(r, -1, 0, 1, 2, 3), pick(r, -1, 0, 1, 2, 3, 9, 16), pick(r, -1, 0, onTheWay)
	}
	switch r.IntN(16) {
	case 0, 1, 2:
		rare := 1 + r.IntN(6)
		var l []int
		for range r.IntN(25) {
			l = append(l, pick(r, lost, unanswered, late, late, late, twice, late+5)*(r.IntN(rare+1)/rare))
		}
		return func(x box) string { return fmt.Sprint("luck ", x.Luck(l)) }
	case 3:
		return func(x box) string { return fmt.Sprint("stop ", x.Stop(kind, i)) }
	case 4, 5, 6, 7:
		choices := []int{r.IntN(3), r.IntN(3), r.IntN(3)}[:r.IntN(4)]
		return func(x box) string { return fmt.Sprint("start ", x.Start(kind, i, choices)) }
	case 8:
		n := r.IntN(8) - 1
		return func(x box) string { return fmt.Sprint("cut ", x.Cut(kind, i, n)) }
	case 9, 10, 11:
		return func(x box) string { return fmt.Sprint("deliver ", x.Deliver(k)) }
	case 12:
		return func(x box) string { return fmt.Sprint("drop ", x.Drop(k)) }
	case 13:
		return func(x box) string { return fmt.Sprint("double ", x.Double(k)) }
	}
	n := pick(r, 0, 1, 1, 5, 5, 50, 3600, -1, 3601)
	return func(x box) string { return fmt.Sprint("tick ", x.Tick(n)) }
}

// of makes a calling a call of a box.
func (call calling) of(i int) func(box) string {
	return func(x box) string {
		b, e := x.Broker(i)
		if e != api.OK {
			return fmt.Sprint("broker ", e)
		}
		told, e := call(b)
		return fmt.Sprintf("%s: %d", told, e)
	}
}

// settle and well are calls of a box.
func settle(x box) string {
	n, e := x.Settle()
	return fmt.Sprintf("settle %d: %d", n, e)
}

func well(x box) string { return fmt.Sprint("well ", x.Well()) }

// twins are a cluster and a plain one that the same befalls.
type twins struct {
	t       *testing.T
	r       *rand.Rand
	spec    cluster.Spec
	cluster *cluster.Cluster
	plain   *plain
	callers *callers
	last    int
	counts  map[string]int
}

func newTwins(t *testing.T, seed uint64, counts map[string]int) *twins {
	r := rand.New(rand.NewPCG(seed, 1801))
	s := cluster.Spec{
		Nodes: pick(r, 1, 2, 3, 3, 3, 4, 5, 9), Acceptors: pick(r, 1, 2, 3, 3, 3, 4, 9), Brokers: pick(r, 1, 2, 2, 3, 16),
		Parts: 1 + r.IntN(3), Session: pick(r, 1, 10, 3600), Blocks: pick(r, 20, 300, 300, 300),
	}
	return &twins{t, r, s, mustCluster(t, s), newPlain(s), newCallers(r, s.Parts), 0, counts}
}

// draw draws what comes next.
func (w *twins) draw() func(box) string {
	switch n := w.r.IntN(40); {
	case n < 12:
		return deed(w.r, w.spec, w.plain.Late())
	case n < 13:
		return well
	case n < 16:
		return settle
	case n < 20:
		w.last = w.r.IntN(w.spec.Brokers)
	case n < 21:
		return w.callers.draw(w.plain.now).of(pick(w.r, -1, w.spec.Brokers))
	}
	return w.callers.draw(w.plain.now).of(w.last)
}

func (w *twins) step() {
	do := w.draw()
	want, got := do(w.plain), do(w.cluster)
	if got != want {
		w.t.Fatalf("%s, not %s", got, want)
	}
	// The first word, and the error.
	word, rest, _ := strings.Cut(want, " ")
	w.counts[word+" "+rest[strings.LastIndex(rest, " ")+1:]]++
	if strings.HasPrefix(want, "settle ") && !strings.HasPrefix(want, "settle 0") {
		w.counts["left"]++
	}
	if a, b := w.cluster.Late(), w.plain.Late(); a != b {
		w.t.Fatalf("behind %s: Late: %d, not %d", want, a, b)
	}
	if a, b := w.cluster.Now(), w.plain.Now(); a != b {
		w.t.Fatalf("behind %s: Now: %d, not %d", want, a, b)
	}
	for kind := -1; kind < 4; kind++ {
		for i := -1; i < 18; i++ {
			if a, b := w.cluster.Up(kind, i), w.plain.Up(kind, i); a != b {
				w.t.Fatalf("behind %s: Up(%d, %d): %v", want, kind, i, a)
			}
		}
	}
}

// checkHolds looks at what each broker holds.
func (w *twins) checkHolds() {
	for i := -1; i <= w.spec.Brokers; i++ {
		a, e := w.cluster.Broker(i)
		b, f := w.plain.Broker(i)
		if e != f {
			w.t.Fatalf("Broker(%d): %d, not %d", i, e, f)
		}
		for _, key := range []int{0, 1, 2, bookKey, 200} {
			if a.Holds(key) != b.Holds(key) {
				w.t.Fatalf("the broker %d holds %d: %v", i, key, a.Holds(key))
			}
		}
	}
}

// P1801 to P1808

// TestAnyCallsByTheChaptersWords holds any calls, of clusters and of their brokers, against the words: what is answered, and what nets, nodes, acceptors and brokers know behind each of them.
func TestAnyCallsByTheChaptersWords(t *testing.T) {
	t.Parallel()
	counts := map[string]int{}
	for seed := range uint64(300) {
		w := newTwins(t, seed, counts)
		for i := range 120 {
			w.step()
			w.checkHolds()
			if i%20 == 19 {
				checkWorld(t, w.cluster, world(w.plain.link))
			}
			if t.Failed() {
				t.Fatalf("the seed is %d, the step %d", seed, i)
			}
		}
	}
	for _, k := range []string{
		"luck 0", "stop 0", "stop 1", "stop 3", "start 0", "start 1", "start 3", "cut 0", "cut 1", "cut 3",
		"deliver true", "deliver false", "drop true", "drop false", "double true", "double false", "tick 0", "tick 1",
		"broker 3", "broker 8", "well 0", "settle 0", "settle 8", "settle 30", "settle 33", "settle 35", "left",
		"produce 0", "produce 30", "produce 33", "in 0", "in 33", "in 54", "fetch 0", "ends 0", "ends 35", "init 0", "txn 0", "txn 54", "finish 0", "change 0", "change 11", "group 0",
	} {
		if counts[k] < 5 {
			t.Errorf("%s: only %d times: %v", k, counts[k], maps.Clone(counts))
		}
	}
	if testing.Verbose() {
		t.Log(counts)
	}
}
