package client_test

import (
	"fmt"
	"math"
	"math/rand/v2"
	"slices"
	"strings"
	"testing"

	"gazette/api"
	"gazette/broker"
	"gazette/client"
	"gazette/cluster"
	"gazette/group"
	"gazette/ledger"
)

const (
	bookKey    = 100
	firstGroup = 200
	many       = 1 << 40 // more rows than there are

	// What becomes of a message.
	comes      = 0
	lost       = 1
	unanswered = 2
	late       = 3
	twice      = 4
)

// extremes are numbers that nothing has, and some that something has.
var extremes = []int{math.MinInt, -1 << 41, -1, 0, 1, 2, 3, 99, 100, 101, 200, 3600, 3601, 1 << 31, 1 << 40, 1 << 48, math.MaxInt}

// box is a cluster with so many brokers.
func box(t *testing.T, brokers int) *cluster.Cluster {
	t.Helper()
	return mustCluster(t, cluster.Spec{Nodes: 3, Acceptors: 3, Brokers: brokers, Parts: 2, Session: 10, Blocks: 600})
}

func mustCluster(t *testing.T, s cluster.Spec) *cluster.Cluster {
	t.Helper()
	c, e := cluster.New(s)
	if e != api.OK {
		t.Fatalf("cluster.New(%+v): %d", s, e)
	}
	return c
}

func mustClient(t *testing.T, c *cluster.Cluster, name string, tries int) *client.Client {
	t.Helper()
	x, e := client.New(c, name, tries)
	if x == nil || e != api.OK {
		t.Fatalf("New(.., %q, %d): %v, %d", name, tries, x, e)
	}
	return x
}

// started is a client that has a producer, on a cluster with so many brokers.
func started(t *testing.T, brokers int) (*cluster.Cluster, *client.Client) {
	t.Helper()
	c := box(t, brokers)
	x := mustClient(t, c, "x", 10)
	check(t, "Start", x.Start(10), api.OK)
	return c, x
}

// begun is one that is in a transaction.
func begun(t *testing.T, brokers int) (*cluster.Cluster, *client.Client) {
	t.Helper()
	c, x := started(t, brokers)
	check(t, "Begin", x.Begin(), api.OK)
	return c, x
}

func mustBroker(t *testing.T, c *cluster.Cluster, i int) *broker.Broker {
	t.Helper()
	b, e := c.Broker(i)
	if e != api.OK {
		t.Fatalf("Broker(%d): %d", i, e)
	}
	return b
}

// records are some with these values.
func records(values ...string) []api.Record {
	var l []api.Record
	for _, v := range values {
		l = append(l, api.Record{Key: "k" + v, Value: v})
	}
	return l
}

func check(t *testing.T, what string, got, want api.Errno) {
	t.Helper()
	if got != want {
		t.Errorf("%s: %d, not %d", what, got, want)
	}
}

func checkIs(t *testing.T, what string, got, want bool) {
	t.Helper()
	if got != want {
		t.Errorf("%s: %v", what, got)
	}
}

func checkSend(t *testing.T, x *client.Client, part int, value string, offset int, want api.Errno) {
	t.Helper()
	if n, e := x.Send(part, records(value)); n != offset || e != want {
		t.Errorf("Send(%d, %s): %d, %d, not %d, %d", part, value, n, e, offset, want)
	}
}

func checkRetry(t *testing.T, x *client.Client, part, offset int, want api.Errno) {
	t.Helper()
	if n, e := x.Retry(part); n != offset || e != want {
		t.Errorf("Retry(%d): %d, %d, not %d, %d", part, n, e, offset, want)
	}
}

func checkProducer(t *testing.T, x *client.Client, id, epoch int, ok bool) {
	t.Helper()
	if i, e, is := x.Producer(); i != id || e != epoch || is != ok {
		t.Errorf("Producer: %d, %d, %v, not %d, %d, %v", i, e, is, id, epoch, ok)
	}
}

func checkPending(t *testing.T, x *client.Client, want ...int) {
	t.Helper()
	for part := -2; part < 5; part++ {
		if x.Pending(part) != slices.Contains(want, part) {
			t.Errorf("Pending(%d): %v", part, x.Pending(part))
		}
	}
}

// checkInTxn asks for a Promise of no group, which changes nothing, whether x is in a transaction.
func checkInTxn(t *testing.T, x *client.Client, want bool) {
	t.Helper()
	e := api.ErrState
	if want {
		e = api.ErrArg
	}
	check(t, "Promise of no group", x.Promise(-1, "m", 1, 0, 0), e)
}

// checkTurn looks at the broker that is asked first.
func checkTurn(t *testing.T, x *client.Client, want int) {
	t.Helper()
	if n := client.Turn(x); n != want {
		t.Errorf("the turn is %d, not %d", n, want)
	}
}

// shown tells rows as offset:value, with a + ahead of those of transactions.
func shown(rows []ledger.Row) string {
	var told []string
	for _, r := range rows {
		s := fmt.Sprint(r.Offset, ":", r.Record.Value)
		if r.InTxn {
			s = "+" + s
		}
		told = append(told, s)
	}
	return strings.Join(told, " ")
}

// checkRows looks at all rows of a partition.
func checkRows(t *testing.T, x *client.Client, part int, committed bool, want string) {
	t.Helper()
	rows, _, e := x.Read(part, 0, many, committed)
	if got := shown(rows); got != want || e != api.OK {
		t.Errorf("Read(%d, 0, many, %v): %s, %d, not %s", part, committed, got, e, want)
	}
}

func checkOffset(t *testing.T, b *broker.Broker, g, part, offset int, is bool) {
	t.Helper()
	if n, ok, e := b.Offset(g, part); n != offset || ok != is || e != api.OK {
		t.Errorf("Offset(%d, %d): %d, %v, %d, not %d, %v", g, part, n, ok, e, offset, is)
	}
}

// lone has one node and one acceptor: each step of a broker with a log that it holds sends one message.
func lone(t *testing.T) *cluster.Cluster {
	t.Helper()
	return mustCluster(t, cluster.Spec{Nodes: 1, Acceptors: 1, Brokers: 2, Parts: 2, Session: 10, Blocks: 600})
}

// checkSent looks at how many messages a step sends, on a cluster that is lone: the one behind them is late.
func checkSent(t *testing.T, c *cluster.Cluster, what string, want int, step func()) {
	t.Helper()
	ask := func() { mustBroker(t, c, 1).Offset(99, 0) }
	ask() // From now on that is one message.
	c.Luck(append(slices.Repeat([]int{comes}, want), late))
	step()
	if c.Late() > 0 {
		t.Fatalf("%s: it sends more than %d messages", what, want)
	}
	ask()
	if !c.Drop(0) || c.Late() > 0 {
		t.Fatalf("%s: it sends fewer than %d messages", what, want)
	}
}

func join(member string) group.Event {
	return group.Event{Kind: group.Join, Member: member}
}

// mustJoin has the one member m be of a group, whose generation is 1 then.
func mustJoin(t *testing.T, b *broker.Broker, g int) {
	t.Helper()
	if gen, _, e := b.Group(g, join("m")); gen != 1 || e != api.OK {
		t.Fatalf("Group(%d, Join): %d, %d", g, gen, e)
	}
}

// take has the broker i take over the logs of partitions, so that who had them is refused.
func take(t *testing.T, c *cluster.Cluster, i int, parts ...int) {
	t.Helper()
	for _, part := range parts {
		b := mustBroker(t, c, i)
		if _, _, _, e := b.Ends(part); e != api.OK {
			if _, _, _, e = b.Ends(part); e != api.OK {
				t.Fatalf("Ends(%d) of the broker %d: %d", part, i, e)
			}
		}
	}
}

// dark takes two nodes' power: nothing is written, and nothing is opened.
func dark(c *cluster.Cluster) {
	c.Stop(cluster.Node, 0)
	c.Stop(cluster.Node, 1)
}

// lit gives it back.
func lit(c *cluster.Cluster) {
	c.Start(cluster.Node, 0, nil)
	c.Start(cluster.Node, 1, nil)
}

func pick[T any](r *rand.Rand, from ...T) T { return from[r.IntN(len(from))] }

// spoil overwrites all that l has, and the room behind.
func spoil[T any](l []T, with T) {
	l = l[:cap(l)]
	for i := range l {
		l[i] = with
	}
}
