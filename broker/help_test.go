package broker_test

import (
	"fmt"
	"math/rand/v2"
	"slices"
	"strings"
	"testing"

	"gazette/acceptor"
	"gazette/api"
	"gazette/broker"
	"gazette/group"
	"gazette/ledger"
	"gazette/loglet"
	"gazette/net"
	"gazette/node"
	"gazette/register"
	"gazette/txn"
	"gazette/vlog"
)

const (
	base    = 1000
	bookKey = 100
	many    = 1 << 40 // more rows than there are

	// What becomes of a message.
	comes      = 0
	lost       = 1
	unanswered = 2
	late       = 3
	twice      = 4
)

// mustLink has two nets: what befalls messages to nodes is told apart from what befalls those to acceptors. The nodes have so many blocks.
func mustLink(t *testing.T, nodes, acceptors, blocks int) *vlog.Link {
	t.Helper()
	l := &vlog.Link{Loglets: &loglet.Link{Net: net.New()}, Register: &register.Link{Net: net.New(), Base: base}}
	for range nodes {
		n, e := node.New(blocks)
		if e != api.OK {
			t.Fatalf("node.New(%d): %d", blocks, e)
		}
		l.Loglets.Nodes = append(l.Loglets.Nodes, n)
	}
	for range acceptors {
		a, e := acceptor.New(2000)
		if e != api.OK {
			t.Fatalf("acceptor.New(2000): %d", e)
		}
		l.Register.Acceptors = append(l.Register.Acceptors, a)
	}
	return l
}

func mustBroker(t *testing.T, l *vlog.Link, id, parts, session int) *broker.Broker {
	t.Helper()
	b, e := broker.New(l, id, parts, session)
	if b == nil || e != api.OK {
		t.Fatalf("New(%d, %d, %d): %v, %d", id, parts, session, b, e)
	}
	return b
}

// three is three nodes, three acceptors, and two brokers with the ids 1 and 2, of two partitions.
func three(t *testing.T) (l *vlog.Link, a, b *broker.Broker) {
	t.Helper()
	l = mustLink(t, 3, 3, 1000)
	return l, mustBroker(t, l, 1, 2, 10), mustBroker(t, l, 2, 2, 10)
}

// nobodys is a batch of no producer's.
func nobodys(values ...string) api.Batch { return of(-1, 0, 0, values...) }

// of is a batch of a producer's, in no transaction. Each record has a key of its own.
func of(producer, epoch, seq int, values ...string) api.Batch {
	x := api.Batch{Kind: api.Plain, Producer: producer, Epoch: epoch, Seq: seq}
	for _, v := range values {
		x.Records = append(x.Records, api.Record{Key: "k" + v, Value: v})
	}
	return x
}

// in is a batch of a producer's transaction.
func in(producer, epoch, seq int, values ...string) api.Batch {
	x := of(producer, epoch, seq, values...)
	x.InTxn = true
	return x
}

func start(name string, timeout, now int) txn.Event {
	return txn.Event{Kind: txn.Init, Name: name, Timeout: timeout, Now: now}
}

func add(producer, epoch, place, now int) txn.Event {
	return txn.Event{Kind: txn.Add, Producer: producer, Epoch: epoch, Place: place, Now: now}
}

func end(producer, epoch int, yes bool) txn.Event {
	return txn.Event{Kind: txn.End, Producer: producer, Epoch: epoch, Yes: yes}
}

func over(now int) txn.Event { return txn.Event{Kind: txn.Expire, Now: now} }

func join(member string, now int) group.Event {
	return group.Event{Kind: group.Join, Member: member, Now: now}
}

func leave(member string, now int) group.Event {
	return group.Event{Kind: group.Leave, Member: member, Now: now}
}

func commit(member string, gen, part, offset int) group.Event {
	return group.Event{Kind: group.Commit, Member: member, Gen: gen, Part: part, Offset: offset}
}

func promise(member string, gen, part, offset, producer, epoch int) group.Event {
	return group.Event{Kind: group.Promise, Member: member, Gen: gen, Part: part, Offset: offset, Producer: producer, Epoch: epoch}
}

func silent(now int) group.Event { return group.Event{Kind: group.Expire, Now: now} }

func checkProduce(t *testing.T, b *broker.Broker, part int, x api.Batch, offset int, want api.Errno) {
	t.Helper()
	if n, e := b.Produce(part, x); n != offset || e != want {
		t.Errorf("Produce(%d, %s): %d, %d, not %d, %d", part, brief(x), n, e, offset, want)
	}
}

// checkFetch looks at all rows from the offset from on, as offset:value.
func checkFetch(t *testing.T, b *broker.Broker, part, from int, committed bool, next int, want ...string) {
	t.Helper()
	rows, n, e := b.Fetch(part, from, many, committed)
	if got := told(rows); !slices.Equal(got, want) || n != next || e != api.OK {
		t.Errorf("Fetch(%d, %d, many, %v): %v, %d, %d, not %v, %d", part, from, committed, got, n, e, want, next)
	}
}

func checkNoFetch(t *testing.T, b *broker.Broker, part, from, most int, want api.Errno) {
	t.Helper()
	for _, committed := range []bool{false, true} {
		if rows, n, e := b.Fetch(part, from, most, committed); len(rows) != 0 || n != 0 || e != want {
			t.Errorf("Fetch(%d, %d, %d, %v): %v, %d, %d, not %d", part, from, most, committed, rows, n, e, want)
		}
	}
}

func checkEnds(t *testing.T, b *broker.Broker, part, start, stable, end int, want api.Errno) {
	t.Helper()
	if x, y, z, e := b.Ends(part); x != start || y != stable || z != end || e != want {
		t.Errorf("Ends(%d): %d, %d, %d, %d, not %d, %d, %d, %d", part, x, y, z, e, start, stable, end, want)
	}
}

func checkChange(t *testing.T, b *broker.Broker, part, kind, n int, want api.Errno) {
	t.Helper()
	if e := b.Change(part, kind, n); e != want {
		t.Errorf("Change(%d, %d, %d): %d, not %d", part, kind, n, e, want)
	}
}

func checkTxn(t *testing.T, b *broker.Broker, x txn.Event, producer, epoch int, want api.Errno) {
	t.Helper()
	if p, n, e := b.Txn(x); p != producer || n != epoch || e != want {
		t.Errorf("Txn(%+v): %d, %d, %d, not %d, %d, %d", x, p, n, e, producer, epoch, want)
	}
}

func checkFinish(t *testing.T, b *broker.Broker, left int, want api.Errno) {
	t.Helper()
	if n, e := b.Finish(); n != left || e != want {
		t.Errorf("Finish: %d, %d, not %d, %d", n, e, left, want)
	}
}

func checkGroup(t *testing.T, b *broker.Broker, g int, x group.Event, want api.Errno, gen int, share ...int) {
	t.Helper()
	if n, l, e := b.Group(g, x); n != gen || !slices.Equal(l, share) || e != want {
		t.Errorf("Group(%d, %+v): %d, %v, %d, not %d, %v, %d", g, x, n, l, e, gen, share, want)
	}
}

func checkOffset(t *testing.T, b *broker.Broker, g, part, offset int, is bool, want api.Errno) {
	t.Helper()
	if n, ok, e := b.Offset(g, part); n != offset || ok != is || e != want {
		t.Errorf("Offset(%d, %d): %d, %v, %d, not %d, %v, %d", g, part, n, ok, e, offset, is, want)
	}
}

// checkHolds looks at each key that there can be, and at some that there can't.
func checkHolds(t *testing.T, b *broker.Broker, keys ...int) {
	t.Helper()
	for key := -5; key < 400; key++ {
		if b.Holds(key) != slices.Contains(keys, key) {
			t.Errorf("Holds(%d): %v", key, b.Holds(key))
		}
	}
}

func told(rows []ledger.Row) []string {
	var list []string
	for _, r := range rows {
		list = append(list, fmt.Sprint(r.Offset, ":", r.Record.Value))
	}
	return list
}

// brief tells a batch without its records.
func brief(x api.Batch) string {
	return fmt.Sprintf("%d of %d, %d, Seq %d, %v, %d records", x.Kind, x.Producer, x.Epoch, x.Seq, x.InTxn, len(x.Records))
}

// mustOpen has somebody else, with the id 9, open a key's log.
func mustOpen(t *testing.T, l *vlog.Link, key int) *vlog.Log {
	t.Helper()
	g, e := vlog.Open(l, key, 9)
	if e != api.OK {
		t.Fatalf("Open(%d): %d", key, e)
	}
	return g
}

// mustLay has somebody else append entries to a key's log.
func mustLay(t *testing.T, l *vlog.Link, key int, entries ...[]byte) *vlog.Log {
	t.Helper()
	g := mustOpen(t, l, key)
	for _, b := range entries {
		if _, e := g.Append(b); e != api.OK {
			t.Fatalf("Append to %d: %d", key, e)
		}
	}
	return g
}

// entriesOf reads a key's log.
func entriesOf(t *testing.T, l *vlog.Link, key int) [][]byte {
	t.Helper()
	g := mustOpen(t, l, key)
	var list [][]byte
	for addr := g.Trimmed(); addr < g.Next(); addr++ {
		b, e := g.Read(addr)
		if e != api.OK {
			t.Fatalf("Read(%d) of %d: %d", addr, key, e)
		}
		list = append(list, b)
	}
	return list
}

// checkEntries looks at what a key's log has, byte by byte. Behind it the log is somebody else's.
func checkEntries(t *testing.T, l *vlog.Link, key int, want ...[]byte) {
	t.Helper()
	if got := entriesOf(t, l, key); !slices.EqualFunc(got, want, slices.Equal[[]byte]) {
		t.Errorf("the log of %d has %q, not %q", key, got, want)
	}
}

func batchBytes(t *testing.T, x api.Batch) []byte {
	t.Helper()
	return entryBytes(t, ledger.Entry{Kind: ledger.Batches, Batch: x})
}

func entryBytes(t *testing.T, x ledger.Entry) []byte { return mustPut(t, x, ledger.PutEntry) }

func txnBytes(t *testing.T, x txn.Event) []byte { return mustPut(t, x, txn.PutEvent) }

func groupBytes(t *testing.T, x group.Event) []byte { return mustPut(t, x, group.PutEvent) }

func mustPut[X any](t *testing.T, x X, put func(X) ([]byte, api.Errno)) []byte {
	t.Helper()
	b, e := put(x)
	if e != api.OK {
		t.Fatalf("the bytes of %+v: %d", x, e)
	}
	return b
}

// luck lays so many numbers of each kind: luck(n, comes, 3, late, 2).
func luck(n *net.Net, kindsAndTimes ...int) {
	for i := 0; i < len(kindsAndTimes); i += 2 {
		n.Luck(slices.Repeat(kindsAndTimes[i:i+1], kindsAndTimes[i+1]))
	}
}

// calm takes away all luck that waits, and leaves what is late.
func calm(n *net.Net) {
	was := n.Late()
	for n.Left() > 0 {
		n.Send(-1, nil)
		n.Take(was)
	}
}

// used tells how many messages a call sends.
func used(n *net.Net, call func()) int {
	luck(n, comes, 10000)
	call()
	sent := 10000 - n.Left()
	calm(n)
	return sent
}

// sent tells how many messages a call sends to nodes, and to acceptors.
func sent(l *vlog.Link, call func()) (toNodes, toAcceptors int) {
	toNodes = used(l.Loglets.Net, func() { toAcceptors = used(l.Register.Net, call) })
	return toNodes, toAcceptors
}

// checkSilent looks that a call sends nothing.
func checkSilent(t *testing.T, l *vlog.Link, call func()) {
	t.Helper()
	if n, a := sent(l, call); n != 0 || a != 0 {
		t.Errorf("%d messages were sent to nodes, %d to acceptors", n, a)
	}
}

// silenced makes a call while nothing comes to some: the nodes, or the acceptors.
func silenced(n *net.Net, call func()) {
	luck(n, lost, 5000)
	call()
	calm(n)
}

// deliver lets a late message come, to a node or an acceptor.
func deliver(l *vlog.Link, k int, toAcceptor bool) {
	if !toAcceptor {
		l.Loglets.Deliver(k)
	} else if to, b, ok := l.Register.Net.Take(k); ok {
		l.Register.Deliver(to, b)
	}
}

// befall lets one thing happen to a net, a node or an acceptor.
func befall(l *vlog.Link, r *rand.Rand) {
	keeper, agreer := l.Loglets.Nodes[r.IntN(len(l.Loglets.Nodes))], l.Register.Acceptors[r.IntN(len(l.Register.Acceptors))]
	n := l.Loglets.Net
	if r.IntN(2) == 0 {
		n = l.Register.Net
	}
	k := r.IntN(n.Late() + 1)
	choices := []int{r.IntN(3), r.IntN(3), r.IntN(3)}
	switch r.IntN(11) {
	case 0, 1:
		rare := 1 + r.IntN(6)
		for range r.IntN(25) {
			n.Luck([]int{r.IntN(5) * (r.IntN(rare+1) / rare)})
		}
	case 2:
		keeper.Stop()
	case 3:
		agreer.Stop()
	case 4, 5:
		keeper.Start(choices)
		agreer.Start(choices)
	case 6:
		keeper.Cut(r.IntN(6))
	case 7:
		agreer.Cut(r.IntN(6))
	case 8, 9:
		deliver(l, k, n == l.Register.Net)
	case 10:
		n.Double(k)
	}
}

// makeWell lets all nodes and acceptors answer, and all that is late come.
func makeWell(l *vlog.Link, r *rand.Rand) {
	calm(l.Loglets.Net)
	calm(l.Register.Net)
	for _, n := range l.Loglets.Nodes {
		n.Cut(-1)
		n.Start([]int{r.IntN(3)})
	}
	for _, a := range l.Register.Acceptors {
		a.Cut(-1)
		a.Start([]int{r.IntN(3)})
	}
	for l.Loglets.Net.Late() > 0 {
		deliver(l, r.IntN(l.Loglets.Net.Late()), false)
	}
	for l.Register.Net.Late() > 0 {
		deliver(l, r.IntN(l.Register.Net.Late()), true)
	}
}

func tellNet(told *strings.Builder, n *net.Net) {
	fmt.Fprintln(told, "luck", n.Left())
	for k := range n.Late() {
		to, b, _ := n.Message(k)
		fmt.Fprintf(told, "late %d %x\n", to, b)
	}
}

func tellNode(told *strings.Builder, n *node.Node) {
	s := n.Store()
	fmt.Fprintln(told, "node", n.Up(), s.Free())
	for _, x := range s.Loglets() {
		fmt.Fprint(told, x, " ", s.Tail(x), s.Trimmed(x), s.Sealed(x), ":")
		for pos := s.Trimmed(x); pos < s.Tail(x); pos++ {
			if b, e := s.Get(x, pos); e == api.OK {
				fmt.Fprintf(told, " %d %q", pos, b)
			}
		}
		fmt.Fprintln(told)
	}
}

// world tells whatever can be asked of a link's nets, nodes and acceptors without changing them.
func world(l *vlog.Link) string {
	var told strings.Builder
	tellNet(&told, l.Loglets.Net)
	tellNet(&told, l.Register.Net)
	for _, n := range l.Loglets.Nodes {
		tellNode(&told, n)
	}
	for _, a := range l.Register.Acceptors {
		fmt.Fprintln(&told, "acceptor", a.Up())
		for _, key := range []int{0, 1, 2, bookKey, 200, 201, 299} {
			b, _ := acceptor.PutAsk(acceptor.Ask{Kind: acceptor.Query, Key: key})
			fmt.Fprintf(&told, "%x\n", a.Ask(b))
		}
	}
	return told.String()
}

func checkWorld(t *testing.T, l *vlog.Link, want string) {
	t.Helper()
	if got := world(l); got != want {
		t.Errorf("there is\n%snot\n%s", got, want)
	}
}

// spoil overwrites all that l has, and the room behind.
func spoil[T any](l []T, with T) {
	for i := range l[:cap(l)] {
		l[:cap(l)][i] = with
	}
}
