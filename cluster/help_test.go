package cluster_test

import (
	"fmt"
	"math"
	"math/rand/v2"
	"slices"
	"strings"
	"testing"

	"gazette/acceptor"
	"gazette/api"
	"gazette/broker"
	"gazette/cluster"
	"gazette/group"
	"gazette/net"
	"gazette/node"
	"gazette/txn"
	"gazette/vlog"
)

const (
	bookKey = 100
	many    = 1 << 40 // more rows than there are

	// What becomes of a message.
	comes      = 0
	lost       = 1
	unanswered = 2
	late       = 3
	twice      = 4
)

// extremes are numbers that nothing has.
var extremes = []int{math.MinInt, -1 << 41, -1, 0, 1, 2, 3, 4, 99, 100, 101, 200, 3600, 3601, 1 << 40, math.MaxInt}

func mustCluster(t *testing.T, s cluster.Spec) *cluster.Cluster {
	t.Helper()
	c, e := cluster.New(s)
	if c == nil || e != api.OK {
		t.Fatalf("New(%+v): %v, %d", s, c, e)
	}
	return c
}

// three is the chapter's example: three nodes, three acceptors, two brokers, two partitions.
func three(t *testing.T) *cluster.Cluster {
	t.Helper()
	return mustCluster(t, cluster.Spec{Nodes: 3, Acceptors: 3, Brokers: 2, Parts: 2, Session: 10, Blocks: 400})
}

// lone has one of each: what befalls it, befalls all.
func lone(t *testing.T) *cluster.Cluster {
	t.Helper()
	return mustCluster(t, cluster.Spec{Nodes: 1, Acceptors: 1, Brokers: 1, Parts: 1, Session: 10, Blocks: 60})
}

func mustBroker(t *testing.T, c *cluster.Cluster, i int) *broker.Broker {
	t.Helper()
	b, e := c.Broker(i)
	if b == nil || e != api.OK {
		t.Fatalf("Broker(%d): %v, %d", i, b, e)
	}
	return b
}

// nobodys is a batch of no producer's.
func nobodys(values ...string) api.Batch {
	x := api.Batch{Kind: api.Plain, Producer: -1}
	for _, v := range values {
		x.Records = append(x.Records, api.Record{Key: "k" + v, Value: v})
	}
	return x
}

// in is a batch of a producer's transaction.
func in(producer, epoch, seq int, values ...string) api.Batch {
	x := nobodys(values...)
	x.Producer, x.Epoch, x.Seq, x.InTxn = producer, epoch, seq, true
	return x
}

func start(name string, timeout, now int) txn.Event {
	return txn.Event{Kind: txn.Init, Name: name, Timeout: timeout, Now: now}
}

func add(producer, epoch, place, now int) txn.Event {
	return txn.Event{Kind: txn.Add, Producer: producer, Epoch: epoch, Place: place, Now: now}
}

func end(producer, epoch int, yes bool) txn.Event {
	return txn.Event{Kind: txn.End, Producer: producer, Epoch: epoch, Yes: yes}
}

func join(member string, now int) group.Event {
	return group.Event{Kind: group.Join, Member: member, Now: now}
}

func silent(now int) group.Event { return group.Event{Kind: group.Expire, Now: now} }

func check(t *testing.T, what string, got, want api.Errno) {
	t.Helper()
	if got != want {
		t.Errorf("%s: %d, not %d", what, got, want)
	}
}

func checkIs(t *testing.T, what string, got, want bool) {
	t.Helper()
	if got != want {
		t.Errorf("%s: %v", what, got)
	}
}

func checkBroker(t *testing.T, c *cluster.Cluster, i int, want api.Errno) {
	t.Helper()
	if b, e := c.Broker(i); e != want || (b == nil) != (want != api.OK) {
		t.Errorf("Broker(%d): %v, %d, not %d", i, b, e, want)
	}
}

func checkSettle(t *testing.T, c *cluster.Cluster, left int, want api.Errno) {
	t.Helper()
	if n, e := c.Settle(); n != left || e != want {
		t.Errorf("Settle: %d, %d, not %d, %d", n, e, left, want)
	}
}

func checkLate(t *testing.T, c *cluster.Cluster, want int) {
	t.Helper()
	if n := c.Late(); n != want {
		t.Errorf("Late: %d, not %d", n, want)
	}
}

func checkNow(t *testing.T, c *cluster.Cluster, want int) {
	t.Helper()
	if n := c.Now(); n != want {
		t.Errorf("Now: %d, not %d", n, want)
	}
}

func checkProduce(t *testing.T, b *broker.Broker, part int, x api.Batch, offset int, want api.Errno) {
	t.Helper()
	if n, e := b.Produce(part, x); n != offset || e != want {
		t.Errorf("Produce(%d, %v): %d, %d, not %d, %d", part, x, n, e, offset, want)
	}
}

func checkTxn(t *testing.T, b *broker.Broker, x txn.Event, want api.Errno) {
	t.Helper()
	if _, _, e := b.Txn(x); e != want {
		t.Errorf("Txn(%+v): %d, not %d", x, e, want)
	}
}

func checkEnds(t *testing.T, b *broker.Broker, part, start, stable, end int, want api.Errno) {
	t.Helper()
	if x, y, z, e := b.Ends(part); x != start || y != stable || z != end || e != want {
		t.Errorf("Ends(%d): %d, %d, %d, %d, not %d, %d, %d, %d", part, x, y, z, e, start, stable, end, want)
	}
}

// checkFetch looks at all rows of a partition, as offset:value.
func checkFetch(t *testing.T, b *broker.Broker, part int, want ...string) {
	t.Helper()
	rows, _, e := b.Fetch(part, 0, many, false)
	var got []string
	for _, r := range rows {
		got = append(got, fmt.Sprint(r.Offset, ":", r.Record.Value))
	}
	if !slices.Equal(got, want) || e != api.OK {
		t.Errorf("Fetch(%d, 0, many, false): %v, %d, not %v", part, got, e, want)
	}
}

func pick[T any](r *rand.Rand, from ...T) T { return from[r.IntN(len(from))] }

// spoil overwrites all that l has, and the room behind.
func spoil(l []int, with int) {
	for i := range l[:cap(l)] {
		l[:cap(l)][i] = with
	}
}

func netOf(c *cluster.Cluster) *net.Net { return cluster.Link(c).Loglets.Net }

func storeOf(c *cluster.Cluster, i int) *node.Node { return cluster.Link(c).Loglets.Nodes[i] }

// mustBeLate sends a request to a node that is late.
func mustBeLate(t *testing.T, c *cluster.Cluster, to int, r node.Request) {
	t.Helper()
	mustHaveNoLuck(t, c)
	c.Luck([]int{late})
	if _, ok := cluster.Link(c).Loglets.Ask(to, r); ok {
		t.Fatalf("the node %d has answered", to)
	}
}

// mustAskLate sends an Ask to an acceptor that is late.
func mustAskLate(t *testing.T, c *cluster.Cluster, to int, a acceptor.Ask) {
	t.Helper()
	mustHaveNoLuck(t, c)
	c.Luck([]int{late})
	if _, ok := cluster.Link(c).Register.Ask(to, a); ok {
		t.Fatalf("the acceptor %d has answered", to)
	}
}

func mustHaveNoLuck(t *testing.T, c *cluster.Cluster) {
	t.Helper()
	if n := netOf(c).Left(); n != 0 {
		t.Fatalf("%d numbers wait", n)
	}
}

func write(loglet, pos int, data string) node.Request {
	return node.Request{Kind: node.Write, Loglet: loglet, Pos: pos, Data: []byte(data)}
}

func seal(loglet int) node.Request { return node.Request{Kind: node.Seal, Loglet: loglet} }

func prepare(key, ballot int) acceptor.Ask {
	return acceptor.Ask{Kind: acceptor.Prepare, Key: key, Version: 1, Ballot: ballot}
}

// checkStore looks at what a node that is up has of a loglet.
func checkStore(t *testing.T, c *cluster.Cluster, i, loglet, tail int, sealed bool) {
	t.Helper()
	s := storeOf(c, i).Store()
	if !c.Up(cluster.Node, i) || s.Tail(loglet) != tail || s.Sealed(loglet) != sealed {
		t.Errorf("the node %d is up: %v, and has up to %d of %d, sealed: %v; not %d, %v", i, c.Up(cluster.Node, i), s.Tail(loglet), loglet, s.Sealed(loglet), tail, sealed)
	}
}

// checkPromised asks an acceptor that is up what it promised of a key's version 1: a Prepare tells that, whatever it is answered. Behind it the ballot 1 is promised at least.
func checkPromised(t *testing.T, c *cluster.Cluster, i, key, want int) {
	t.Helper()
	b, _ := acceptor.PutAsk(prepare(key, 1))
	x, e := acceptor.GetAnswer(cluster.Link(c).Register.Acceptors[i].Ask(b))
	if e != api.OK || x.Promised != max(want, 1) || (x.E == api.OK) != (want == 0) {
		t.Errorf("the acceptor %d has promised %d: %d, %d; not %d", i, x.Promised, x.E, e, want)
	}
}

func tellNet(told *strings.Builder, n *net.Net) {
	fmt.Fprintln(told, "luck", n.Left())
	for k := range n.Late() {
		to, b, _ := n.Message(k)
		fmt.Fprintf(told, "late %d %x\n", to, b)
	}
}

func tellNode(told *strings.Builder, n *node.Node) {
	s := n.Store()
	fmt.Fprintln(told, "node", n.Up(), s.Free())
	for _, x := range s.Loglets() {
		fmt.Fprint(told, x, " ", s.Tail(x), s.Trimmed(x), s.Sealed(x), ":")
		for pos := s.Trimmed(x); pos < s.Tail(x); pos++ {
			if b, e := s.Get(x, pos); e == api.OK {
				fmt.Fprintf(told, " %d %q", pos, b)
			}
		}
		fmt.Fprintln(told)
	}
}

// known tells what nodes and acceptors know.
func known(l *vlog.Link) string {
	var told strings.Builder
	for _, n := range l.Loglets.Nodes {
		tellNode(&told, n)
	}
	for _, a := range l.Register.Acceptors {
		fmt.Fprintln(&told, "acceptor", a.Up())
		for _, key := range []int{0, 1, 2, 3, bookKey, 200, 201} {
			b, _ := acceptor.PutAsk(acceptor.Ask{Kind: acceptor.Query, Key: key})
			fmt.Fprintf(&told, "%x\n", a.Ask(b))
		}
	}
	return told.String()
}

// world tells that, and what is on the way.
func world(l *vlog.Link) string {
	var told strings.Builder
	tellNet(&told, l.Loglets.Net)
	return told.String() + known(l)
}

func checkWorld(t *testing.T, c *cluster.Cluster, want string) {
	t.Helper()
	if got := world(cluster.Link(c)); got != want {
		t.Errorf("there is\n%snot\n%s", got, want)
	}
}

// luck lays so many numbers of each kind: luck(c, comes, 3, late, 2).
func luck(c *cluster.Cluster, kindsAndTimes ...int) {
	for i := 0; i < len(kindsAndTimes); i += 2 {
		c.Luck(slices.Repeat(kindsAndTimes[i:i+1], kindsAndTimes[i+1]))
	}
}

// mustLay has somebody else, with the id 15, open a key's log, and append entries to it.
func mustLay(t *testing.T, c *cluster.Cluster, key int, entries ...[]byte) {
	t.Helper()
	g, e := vlog.Open(cluster.Link(c), key, 15)
	if e != api.OK {
		t.Fatalf("Open(%d): %d", key, e)
	}
	for _, b := range entries {
		if _, e := g.Append(b); e != api.OK {
			t.Fatalf("Append to %d: %d", key, e)
		}
	}
}
