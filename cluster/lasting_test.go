package cluster_test

import (
	"fmt"
	"maps"
	"math/rand/v2"
	"slices"
	"testing"

	"gazette/api"
	"gazette/broker"
	"gazette/cluster"
	"gazette/txn"
	"gazette/vlog"
)

// story is a cluster, those who call its brokers, and all that befalls them.
type story struct {
	t       *testing.T
	r       *rand.Rand
	spec    cluster.Spec
	cluster *cluster.Cluster
	callers *callers
	last    int
	full    bool // a disk or a chain: nothing is promised from then on
	counts  map[string]int
}

func newStory(t *testing.T, seed uint64, counts map[string]int) *story {
	r := rand.New(rand.NewPCG(seed, 1809))
	s := cluster.Spec{
		Nodes: pick(r, 1, 2, 3, 3, 3, 4, 5), Acceptors: pick(r, 1, 2, 3, 3, 3, 4), Brokers: pick(r, 1, 2, 3, 4),
		Parts: 1 + r.IntN(3), Session: pick(r, 10, 3600), Blocks: 1500,
	}
	return &story{t: t, r: r, spec: s, cluster: mustCluster(t, s), callers: newCallers(r, s.Parts), counts: counts}
}

func (s *story) count(what string, e api.Errno) {
	s.full = s.full || e == api.ErrFull
	s.counts[fmt.Sprint(what, " ", int(e))]++
}

// disturb lets anything befall the cluster, and anything be asked.
func (s *story) disturb() {
	for range 60 + s.r.IntN(60) {
		switch n := s.r.IntN(40); {
		case n < 12:
			deed(s.r, s.spec, s.cluster.Late())(s.cluster)
		case n < 13:
			s.cluster.Well()
		case n < 15:
			_, e := s.cluster.Settle()
			s.count("settle, disturbed", e)
		default:
			if s.r.IntN(5) == 0 {
				s.last = s.r.IntN(s.spec.Brokers)
			}
			if b, e := s.cluster.Broker(s.last); e == api.OK {
				_, e = s.callers.draw(s.cluster.Now())(b)
				s.count("a call, disturbed", e)
			}
		}
	}
}

func (s *story) well() {
	waits, late := netOf(s.cluster).Left() > 0, s.cluster.Late() > 0
	if e := s.cluster.Well(); e != api.OK {
		s.t.Errorf("Well: %d", e)
	}
	if waits && late {
		s.counts["luck and late messages"]++
	}
	if s.cluster.Late() != 0 {
		s.t.Errorf("behind Well: Late: %d", s.cluster.Late())
	}
}

// twice makes a call of any brokers till it is OK: the second time at the latest.
func (s *story) twice(what string, call func(*broker.Broker) api.Errno) {
	b := mustBroker(s.t, s.cluster, s.r.IntN(s.spec.Brokers))
	e := call(b)
	s.count(what, e)
	if e != api.OK {
		e = call(b)
		s.count(what+", again", e)
	}
	if e != api.OK && !s.full {
		s.t.Errorf("%s is not OK the second time: %d", what, e)
	}
}

func (s *story) produce(part int) {
	x := nobodys(s.callers.value())
	s.twice("produce", func(b *broker.Broker) api.Errno {
		_, e := b.Produce(part, x)
		return e
	})
}

// settle leaves nothing, the second time at the latest.
func (s *story) settle() {
	n, e := s.cluster.Settle()
	s.count("settle", e)
	if n != 0 || e != api.OK {
		n, e = s.cluster.Settle()
		s.count("settle, again", e)
	}
	if (n != 0 || e != api.OK) && !s.full {
		s.t.Errorf("Settle, the second time: %d, %d", n, e)
	}
}

// produceIn writes a transaction to all partitions, behind a Well: no broker has several logs that are others' by then. It stays open.
func (s *story) produceIn() {
	var p, epoch int
	now := s.cluster.Now()
	s.twice("init", func(b *broker.Broker) (e api.Errno) {
		p, epoch, e = b.Txn(start("late one", 3600, now))
		return e
	})
	for part := range s.spec.Parts {
		x := in(p, epoch, 0, s.callers.value())
		s.twice("add", func(b *broker.Broker) api.Errno {
			_, _, e := b.Txn(add(p, epoch, part, now))
			return e
		})
		s.twice("produce in it", func(b *broker.Broker) api.Errno {
			_, e := b.Produce(part, x)
			return e
		})
	}
}

// serve has all brokers append, and each batch is OK the second time at the latest.
func (s *story) serve() {
	for range 6 {
		s.produce(s.r.IntN(s.spec.Parts))
	}
}

// end looks that no transaction is open, and that all there is is stable.
func (s *story) end() {
	for part := range s.spec.Parts {
		s.twice("ends", func(b *broker.Broker) api.Errno {
			_, stable, end, e := b.Ends(part)
			if e == api.OK && stable != end {
				s.t.Errorf("the partition %d is stable up to %d of %d", part, stable, end)
			}
			return e
		})
	}
	if s.full {
		return
	}
	book := s.book()
	for p := 0; ; p++ {
		status, epoch, is := book.Status(p)
		if !is {
			break
		}
		s.counts["a producer"]++
		if status != txn.Empty {
			s.t.Errorf("the producer %d, with the epoch %d, is %d", p, epoch, status)
		}
	}
}

// book is what the log of transactions says. The log is somebody else's behind it.
func (s *story) book() *txn.Book {
	g, e := vlog.Open(cluster.Link(s.cluster), bookKey, 15)
	if e != api.OK {
		s.t.Fatalf("Open: %d", e)
	}
	book := txn.New()
	for addr := g.Trimmed(); addr < g.Next(); addr++ {
		b, e := g.Read(addr)
		if e != api.OK {
			s.t.Fatalf("Read(%d): %d", addr, e)
		}
		x, _ := txn.GetEvent(b)
		book.Apply(x)
	}
	return book
}

// calm makes the cluster well, and tells one of the ways in which it goes on.
func (s *story) calm() {
	s.well()
	switch s.r.IntN(4) {
	case 0:
		s.settle()
		s.produceIn()
		s.serve()
		s.well()
	case 1:
		s.serve()
	case 2:
		s.settle()
		s.serve()
	}
	s.cluster.Tick(3600)
	s.settle()
	s.end()
}

// P1809

// TestWellAgain: whatever befell the cluster, when all is well each batch is taken, and each transaction ends.
func TestWellAgain(t *testing.T) {
	t.Parallel()
	counts := map[string]int{}
	for seed := range uint64(300) {
		s := newStory(t, seed, counts)
		s.disturb()
		s.calm()
		if s.full {
			counts["full"]++
		}
		if t.Failed() {
			t.Fatalf("the seed is %d", seed)
		}
	}
	for _, k := range []string{
		"a call, disturbed 0", "a call, disturbed 33", "settle, disturbed 0", "settle, disturbed 33", "luck and late messages",
		"produce 0", "produce 30", "produce, again 0", "init 0", "add 0", "produce in it 0", "produce in it 35", "settle 0", "ends 0", "a producer",
	} {
		if counts[k] < 20 {
			t.Errorf("%s: only %d times: %v", k, counts[k], maps.Clone(counts))
		}
	}
	if counts["full"] > 50 {
		t.Errorf("%d stories are full", counts["full"])
	}
	if testing.Verbose() {
		t.Log(counts)
	}
}

// startAll starts all nodes and acceptors: behind it nothing is dirty any more.
func (s *story) startAll() {
	for kind, n := range []int{s.spec.Nodes, s.spec.Acceptors} {
		for i := range n {
			s.cluster.Start(kind, i, nil)
		}
	}
}

// wait does anything but to ask a broker, or to let a message come. It answers how much luck was laid.
func (s *story) wait() (laid int) {
	c := s.cluster
	for range 40 {
		kind := s.r.IntN(3)
		i := s.r.IntN([]int{s.spec.Nodes, s.spec.Acceptors, s.spec.Brokers}[kind])
		switch s.r.IntN(9) {
		case 0:
			c.Tick(s.r.IntN(3601))
		case 1, 2:
			c.Stop(kind, i)
		case 3, 4:
			c.Start(kind, i, []int{s.r.IntN(3), s.r.IntN(3), s.r.IntN(3)}[:s.r.IntN(4)])
		case 5:
			c.Cut(kind, i, s.r.IntN(4)-1)
		case 6:
			n := s.r.IntN(3)
			c.Luck(slices.Repeat([]int{s.r.IntN(5)}, n))
			laid += n
		case 7:
			c.Broker(i)
			c.Up(kind, i)
		case 8:
			c.Late()
			c.Now()
		}
	}
	return laid
}

// P1810

// TestNothingAlone: without any call of a broker nothing is sent, and nothing becomes known.
func TestNothingAlone(t *testing.T) {
	t.Parallel()
	counts := map[string]int{}
	for seed := range uint64(200) {
		s := newStory(t, seed, counts)
		s.disturb()
		s.startAll()
		left, late, was := netOf(s.cluster).Left(), messages(s.cluster), known(cluster.Link(s.cluster))
		laid := s.wait()
		if got := netOf(s.cluster).Left(); got != left+laid {
			t.Errorf("%d numbers were taken", left+laid-got)
		}
		if got := messages(s.cluster); !slices.Equal(got, late) || s.cluster.Late() != len(late) {
			t.Errorf("late are %v, not %v", got, late)
		}
		s.startAll()
		if got := known(cluster.Link(s.cluster)); got != was {
			t.Errorf("there is\n%snot\n%s", got, was)
		}
		if len(late) > 0 {
			counts["late"]++
		}
		if t.Failed() {
			t.Fatalf("the seed is %d", seed)
		}
	}
	if counts["late"] < 50 {
		t.Errorf("only in %d stories messages are late", counts["late"])
	}
}

// messages tells those that are late.
func messages(c *cluster.Cluster) []string {
	var list []string
	for k := range c.Late() {
		to, b, _ := netOf(c).Message(k)
		list = append(list, fmt.Sprintf("%d %x", to, b))
	}
	return list
}

// TestNothingIsSentAlone: not by anything but a broker's call, one by one.
func TestNothingIsSentAlone(t *testing.T) {
	c := three(t)
	checkProduce(t, mustBroker(t, c, 0), 0, nobodys("a"), 0, api.OK)
	mustBeLate(t, c, 1, write(5, 0, "a"))
	was := messages(c)
	c.Luck([]int{late, late, late})
	for _, do := range []func(){
		func() { c.Tick(3600) },
		func() { c.Now() },
		func() { c.Broker(0) },
		func() { c.Late() },
		func() { c.Up(cluster.Node, 0) },
		func() { c.Stop(cluster.Node, 0) },
		func() { c.Start(cluster.Node, 0, nil) },
		func() { c.Stop(cluster.Acceptor, 0) },
		func() { c.Start(cluster.Acceptor, 0, nil) },
		func() { c.Stop(cluster.Server, 0) },
		func() { c.Start(cluster.Server, 0, nil) },
		func() { c.Cut(cluster.Node, 0, 0) },
		func() { c.Start(cluster.Node, 0, nil) },
		func() {
			cluster.New(cluster.Spec{Nodes: 3, Acceptors: 3, Brokers: 2, Parts: 2, Session: 10, Blocks: 400})
		},
	} {
		do()
		if got := messages(c); !slices.Equal(got, was) || netOf(c).Left() != 3 {
			t.Errorf("late are %v, not %v; %d numbers wait", got, was, netOf(c).Left())
		}
	}
	c.Drop(0)
	c.Double(0)
	checkLate(t, c, 0)
	if n := netOf(c).Left(); n != 3 {
		t.Errorf("%d numbers wait", n)
	}
}
