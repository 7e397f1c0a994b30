package vlog_test

import (
	"fmt"
	"slices"
	"strings"
	"testing"

	"gazette/acceptor"
	"gazette/api"
	"gazette/chain"
	"gazette/loglet"
	"gazette/net"
	"gazette/node"
	"gazette/register"
	"gazette/vlog"
)

const (
	base    = 1000
	maxData = 65504
	full    = api.MaxSlots

	// What becomes of a message.
	comes      = 0
	lost       = 1
	unanswered = 2
	late       = 3
	twice      = 4
)

func mustNode(t *testing.T, blocks int) *node.Node {
	t.Helper()
	n, e := node.New(blocks)
	if n == nil || e != api.OK {
		t.Fatalf("node.New(%d): %v, %d", blocks, n, e)
	}
	return n
}

func mustAcceptor(t *testing.T, blocks int) *acceptor.Acceptor {
	t.Helper()
	a, e := acceptor.New(blocks)
	if a == nil || e != api.OK {
		t.Fatalf("acceptor.New(%d): %v, %d", blocks, a, e)
	}
	return a
}

// mustLink has two nets: what befalls messages to nodes is told apart from what befalls those to acceptors.
func mustLink(t *testing.T, nodes, acceptors int) *vlog.Link {
	t.Helper()
	l := &vlog.Link{Loglets: &loglet.Link{Net: net.New()}, Register: &register.Link{Net: net.New(), Base: base}}
	for range nodes {
		l.Loglets.Nodes = append(l.Loglets.Nodes, mustNode(t, 600))
	}
	for range acceptors {
		l.Register.Acceptors = append(l.Register.Acceptors, mustAcceptor(t, 900))
	}
	return l
}

func mustOpen(t *testing.T, l *vlog.Link, key, id, next int) *vlog.Log {
	t.Helper()
	g, e := vlog.Open(l, key, id)
	if g == nil || e != api.OK {
		t.Fatalf("Open(%d, %d): %v, %d", key, id, g, e)
	}
	if g.Next() != next || g.Lost() {
		t.Fatalf("Open(%d, %d): Next %d, Lost %v, not %d", key, id, g.Next(), g.Lost(), next)
	}
	return g
}

func checkNoOpen(t *testing.T, l *vlog.Link, key, id int, want api.Errno) {
	t.Helper()
	if g, e := vlog.Open(l, key, id); g != nil || e != want {
		t.Errorf("Open(%d, %d): %v, %d, not %d", key, id, g, e, want)
	}
}

// mustAppend appends, from next on.
func mustAppend(t *testing.T, g *vlog.Log, texts ...string) {
	t.Helper()
	for _, s := range texts {
		want := g.Next()
		if addr, e := g.Append([]byte(s)); addr != want || e != api.OK || g.Next() != want+1 {
			t.Fatalf("Append(%.20q): %d, %d, Next %d, not %d", s, addr, e, g.Next(), want)
		}
	}
}

func checkNoAppend(t *testing.T, g *vlog.Log, data string, want api.Errno) {
	t.Helper()
	next := g.Next()
	if addr, e := g.Append([]byte(data)); addr != 0 || e != want || g.Next() != next {
		t.Errorf("Append(%d bytes): %d, %d, Next %d behind %d, not %d", len(data), addr, e, g.Next(), next, want)
	}
}

func checkRead(t *testing.T, g *vlog.Log, addr int, data string) {
	t.Helper()
	if b, e := g.Read(addr); string(b) != data || e != api.OK {
		t.Errorf("Read(%d): %.20q, %d, not %.20q", addr, b, e, data)
	}
}

func checkNoRead(t *testing.T, g *vlog.Log, addr int, want api.Errno) {
	t.Helper()
	if b, e := g.Read(addr); len(b) != 0 || e != want {
		t.Errorf("Read(%d): %.20q, %d, not %d", addr, b, e, want)
	}
}

func checkReads(t *testing.T, g *vlog.Log, from int, texts ...string) {
	t.Helper()
	for i, s := range texts {
		checkRead(t, g, from+i, s)
	}
}

func checkMine(t *testing.T, g *vlog.Log, want api.Errno) {
	t.Helper()
	if e := g.Mine(); e != want {
		t.Errorf("Mine: %d, not %d", e, want)
	}
}

func checkTrim(t *testing.T, g *vlog.Log, addr int, want api.Errno) {
	t.Helper()
	if e := g.Trim(addr); e != want {
		t.Errorf("Trim(%d): %d, not %d", addr, e, want)
	}
}

func checkLooks(t *testing.T, g *vlog.Log, next, trimmed int, lost bool) {
	t.Helper()
	if g.Next() != next || g.Trimmed() != trimmed || g.Lost() != lost {
		t.Errorf("Next %d, Trimmed %d, Lost %v, not %d, %d, %v", g.Next(), g.Trimmed(), g.Lost(), next, trimmed, lost)
	}
}

// checkOver makes every call of a Log that is lost: nothing is sent, nothing changes.
func checkOver(t *testing.T, l *vlog.Link, g *vlog.Log, next, trimmed int) {
	t.Helper()
	was := world(l)
	for range 2 {
		checkLooks(t, g, next, trimmed, true)
		checkNoAppend(t, g, "a", api.ErrOwner)
		checkNoAppend(t, g, "", api.ErrOwner)
		checkNoAppend(t, g, string(make([]byte, maxData+1)), api.ErrOwner)
		checkMine(t, g, api.ErrOwner)
		for _, addr := range []int{-1, 0, trimmed - 1, trimmed, next - 1, next, next + 1} {
			checkNoRead(t, g, addr, api.ErrOwner)
			checkTrim(t, g, addr, api.ErrOwner)
		}
	}
	checkWorld(t, l, was)
}

// luck lays so many numbers of each kind: luck(n, comes, 3, late, 2).
func luck(n *net.Net, kindsAndTimes ...int) {
	for i := 0; i < len(kindsAndTimes); i += 2 {
		n.Luck(slices.Repeat(kindsAndTimes[i:i+1], kindsAndTimes[i+1]))
	}
}

// calm takes away all luck that waits, and leaves what is late.
func calm(n *net.Net) {
	was := n.Late()
	for n.Left() > 0 {
		n.Send(-1, nil)
		n.Take(was)
	}
}

// used tells how many messages a call sends.
func used(n *net.Net, call func()) int {
	luck(n, comes, 10000)
	call()
	sent := 10000 - n.Left()
	calm(n)
	return sent
}

// of is a loglet by its number and nodes.
func of(id int, nodes ...int) loglet.Config { return loglet.Config{ID: id, Nodes: nodes} }

// number is the ID of the loglet that comes behind a version, by the chapter's words.
func number(key, version, id int) int { return (key*1048576+version+1)*16 + id }

// three is the config that comes behind a version, of three nodes.
func three(key, version, id int) loglet.Config {
	return of(number(key, version, id), version%3, (version+1)%3, (version+2)%3)
}

func textOf(c chain.Chain) string {
	return fmt.Sprintf("owner %d trim %d %v", c.Owner, c.Trim, c.Parts)
}

// known is the chain that the register has of a key, and its version.
func known(t *testing.T, l *vlog.Link, key int) (int, chain.Chain) {
	t.Helper()
	version, value, e := register.Read(l.Register, key, 0)
	if e != api.OK {
		t.Fatalf("register.Read(%d): %d", key, e)
	}
	c, e := chain.Decode(value, len(l.Loglets.Nodes))
	if version > 0 && e != api.OK {
		t.Fatalf("chain.Decode of the version %d of %d: %d", version, key, e)
	}
	return version, c
}

func checkChain(t *testing.T, l *vlog.Link, key, version int, want chain.Chain) {
	t.Helper()
	if n, c := known(t, l, key); n != version || textOf(c) != textOf(want) {
		t.Errorf("the version of %d is %d, %s, not %d, %s", key, n, textOf(c), version, textOf(want))
	}
}

// lay has the register know a value of a key, as if it had been agreed on.
func lay(t *testing.T, l *vlog.Link, key, version int, value []byte) {
	t.Helper()
	b, e := acceptor.PutAsk(acceptor.Ask{Kind: acceptor.Learn, Key: key, Version: version, Value: value})
	if e != api.OK {
		t.Fatalf("PutAsk: %d", e)
	}
	for _, a := range l.Register.Acceptors {
		a.Ask(b)
	}
}

// layChain is lay of a chain that may be.
func layChain(t *testing.T, l *vlog.Link, key, version int, c chain.Chain) {
	t.Helper()
	b, e := chain.Encode(c, len(l.Loglets.Nodes))
	if e != api.OK {
		t.Fatalf("Encode(%s): %d", textOf(c), e)
	}
	lay(t, l, key, version, b)
}

// accept has one acceptor accept a chain of a version, of which nobody else knows.
func accept(t *testing.T, l *vlog.Link, i, key, version int, c chain.Chain) {
	t.Helper()
	value, e := chain.Encode(c, len(l.Loglets.Nodes))
	if e != api.OK {
		t.Fatalf("Encode(%s): %d", textOf(c), e)
	}
	b, _ := acceptor.PutAsk(acceptor.Ask{Kind: acceptor.Accept, Key: key, Version: version, Ballot: 1, Value: value})
	if x, e := acceptor.GetAnswer(l.Register.Acceptors[i].Ask(b)); e != api.OK || x.E != api.OK {
		t.Fatalf("the acceptor %d does not accept the version %d: %d, %d", i, version, e, x.E)
	}
}

// write has one node write a place of a loglet, of which nobody else knows.
func write(t *testing.T, l *vlog.Link, i, id, pos int, data string) {
	t.Helper()
	b, _ := node.PutRequest(node.Request{Kind: node.Write, Loglet: id, Pos: pos, Data: []byte(data)})
	if r, e := node.GetReply(l.Loglets.Nodes[i].Ask(b)); e != api.OK || r.E != api.OK {
		t.Fatalf("the node %d does not write %d of %d: %d, %d", i, pos, id, e, r.E)
	}
}

func stop[T interface{ Stop() }](all []T, which ...int) {
	for _, i := range which {
		all[i].Stop()
	}
}

func start[T interface{ Start([]int) api.Errno }](all []T, which ...int) {
	for _, i := range which {
		all[i].Start(nil)
	}
}

func tellNet(told *strings.Builder, n *net.Net) {
	fmt.Fprintln(told, "luck", n.Left())
	for k := range n.Late() {
		to, b, _ := n.Message(k)
		fmt.Fprintf(told, "late %d %x\n", to, b)
	}
}

func tellNode(told *strings.Builder, n *node.Node) {
	s := n.Store()
	fmt.Fprintln(told, "node", n.Up(), s.Free())
	for _, x := range s.Loglets() {
		fmt.Fprint(told, x, " ", s.Tail(x), s.Trimmed(x), s.Sealed(x), ":")
		for pos := s.Trimmed(x); pos < s.Tail(x); pos++ {
			if b, e := s.Get(x, pos); e == api.OK {
				fmt.Fprintf(told, " %d %q", pos, b)
			}
		}
		fmt.Fprintln(told)
	}
}

// world tells whatever can be asked of a link's nets, nodes and acceptors without changing them.
func world(l *vlog.Link) string {
	var told strings.Builder
	tellNet(&told, l.Loglets.Net)
	tellNet(&told, l.Register.Net)
	for _, n := range l.Loglets.Nodes {
		tellNode(&told, n)
	}
	for _, a := range l.Register.Acceptors {
		fmt.Fprintln(&told, "acceptor", a.Up())
		for key := range 3 {
			b, _ := acceptor.PutAsk(acceptor.Ask{Kind: acceptor.Query, Key: key})
			fmt.Fprintf(&told, "%x\n", a.Ask(b))
		}
	}
	return told.String()
}

func checkWorld(t *testing.T, l *vlog.Link, want string) {
	t.Helper()
	if got := world(l); got != want {
		t.Errorf("there is\n%snot\n%s", got, want)
	}
}
