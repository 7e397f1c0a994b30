package loglet_test

import (
	"fmt"
	"math"
	"slices"
	"strings"
	"testing"

	"gazette/api"
	"gazette/loglet"
	"gazette/net"
	"gazette/node"
)

const (
	id      = 5
	maxData = 65504

	// What becomes of a message.
	comes      = 0
	lost       = 1
	unanswered = 2
	late       = 3
	twice      = 4
)

func of(nodes ...int) loglet.Config { return loglet.Config{ID: id, Nodes: nodes} }

// upTo has the numbers from 0 on, up to ahead of n.
func upTo(n int) []int {
	var all []int
	for i := range n {
		all = append(all, i)
	}
	return all
}

func mustNode(t *testing.T, blocks int) *node.Node {
	t.Helper()
	n, e := node.New(blocks)
	if n == nil || e != api.OK {
		t.Fatalf("New(%d): %v, %d", blocks, n, e)
	}
	return n
}

func mustLink(t *testing.T, nodes, blocks int) *loglet.Link {
	t.Helper()
	l := &loglet.Link{Net: net.New()}
	for range nodes {
		l.Nodes = append(l.Nodes, mustNode(t, blocks))
	}
	return l
}

func requestBytes(t *testing.T, r node.Request) []byte {
	t.Helper()
	b, e := node.PutRequest(r)
	if e != api.OK {
		t.Fatalf("PutRequest(%v): %d", r, e)
	}
	return b
}

func sameReply(a, b node.Reply) bool {
	return a.E == b.E && a.Tail == b.Tail && a.Sealed == b.Sealed && string(a.Data) == string(b.Data)
}

func checkAsk(t *testing.T, l *loglet.Link, to int, r node.Request, want node.Reply) {
	t.Helper()
	if p, ok := l.Ask(to, r); !sameReply(p, want) || !ok {
		t.Errorf("Ask(%d, %d %d %d): %v, %v, not %v", to, r.Kind, r.Loglet, r.Pos, p, ok, want)
	}
}

func checkNoReply(t *testing.T, l *loglet.Link, to int, r node.Request) {
	t.Helper()
	if p, ok := l.Ask(to, r); !sameReply(p, node.Reply{}) || ok {
		t.Errorf("Ask(%d, %d %d %d): %v, %v, and there is no reply", to, r.Kind, r.Loglet, r.Pos, p, ok)
	}
}

func checkDeliver(t *testing.T, l *loglet.Link, k int, want bool) {
	t.Helper()
	if ok := l.Deliver(k); ok != want {
		t.Errorf("Deliver(%d): %v, not %v", k, ok, want)
	}
}

func checkAppend(t *testing.T, l *loglet.Link, c loglet.Config, pos int, data string, want api.Errno) {
	t.Helper()
	if e := loglet.Append(l, c, pos, []byte(data)); e != want {
		t.Errorf("Append(%v, %d, %d bytes): %d, not %d", c, pos, len(data), e, want)
	}
}

func checkSeal(t *testing.T, l *loglet.Link, c loglet.Config, tail int, want api.Errno) {
	t.Helper()
	if got, e := loglet.Seal(l, c); got != tail || e != want {
		t.Errorf("Seal(%v): %d, %d, not %d, %d", c, got, e, tail, want)
	}
}

func checkRepair(t *testing.T, l *loglet.Link, c loglet.Config, from, to int, want api.Errno) {
	t.Helper()
	if e := loglet.Repair(l, c, from, to); e != want {
		t.Errorf("Repair(%v, %d, %d): %d, not %d", c, from, to, e, want)
	}
}

func checkRead(t *testing.T, l *loglet.Link, c loglet.Config, pos int, data string, want api.Errno) {
	t.Helper()
	if got, e := loglet.Read(l, c, pos); string(got) != data || e != want {
		t.Errorf("Read(%v, %d): %.20q, %d, not %.20q, %d", c, pos, got, e, data, want)
	}
}

func checkTrim(t *testing.T, l *loglet.Link, c loglet.Config, pos int, want api.Errno) {
	t.Helper()
	if e := loglet.Trim(l, c, pos); e != want {
		t.Errorf("Trim(%v, %d): %d, not %d", c, pos, e, want)
	}
}

// checkRefused makes every call of a loglet with arguments that may be, but for the link or the config.
func checkRefused(t *testing.T, l *loglet.Link, c loglet.Config) {
	t.Helper()
	checkAppend(t, l, c, 0, "a", api.ErrArg)
	checkAppend(t, l, c, 0, string(make([]byte, maxData+1)), api.ErrArg)
	checkAppend(t, l, c, -1, "", api.ErrArg)
	checkSeal(t, l, c, 0, api.ErrArg)
	checkRepair(t, l, c, 0, 0, api.ErrArg)
	checkRepair(t, l, c, 0, 1, api.ErrArg)
	checkRead(t, l, c, 0, "", api.ErrArg)
	checkTrim(t, l, c, 0, api.ErrArg)
	checkTrim(t, l, c, 1, api.ErrArg)
}

func checkLeft(t *testing.T, l *loglet.Link, want int) {
	t.Helper()
	if got := l.Net.Left(); got != want {
		t.Errorf("Left: %d, not %d", got, want)
	}
}

// sent is a message, as the tests know it.
type sent struct {
	to      int
	request node.Request
}

// checkLate looks at all late messages.
func checkLate(t *testing.T, l *loglet.Link, want ...sent) {
	t.Helper()
	if l.Net.Late() != len(want) {
		t.Fatalf("Late: %d, not %d", l.Net.Late(), len(want))
	}
	for k, m := range want {
		to, b, _ := l.Net.Message(k)
		if to != m.to || string(b) != string(requestBytes(t, m.request)) {
			t.Errorf("the late message %d is to %d, %x, not to %d, %v", k, to, b, m.to, m.request)
		}
	}
}

// world tells whatever can be asked of a link's nodes and its net.
func world(l *loglet.Link) string {
	var told strings.Builder
	fmt.Fprintln(&told, "luck", l.Net.Left())
	for k := range l.Net.Late() {
		to, b, _ := l.Net.Message(k)
		fmt.Fprintf(&told, "late %d %q\n", to, b)
	}
	for i, n := range l.Nodes {
		s := n.Store()
		fmt.Fprintln(&told, "node", i, n.Up(), s.Free())
		for _, x := range s.Loglets() {
			fmt.Fprint(&told, x, " ", s.Tail(x), s.Trimmed(x), s.Sealed(x), ":")
			for pos := s.Trimmed(x); pos < s.Tail(x); pos++ {
				if b, e := s.Get(x, pos); e == api.OK {
					fmt.Fprintf(&told, " %d %q", pos, b)
				}
			}
			fmt.Fprintln(&told)
		}
	}
	return told.String()
}

func checkWorld(t *testing.T, l *loglet.Link, want string) {
	t.Helper()
	if got := world(l); got != want {
		t.Errorf("there is\n%snot\n%s", got, want)
	}
}

// checkSlot looks at what a node has at a place of the tests' loglet.
func checkSlot(t *testing.T, l *loglet.Link, i, pos int, data string, want api.Errno) {
	t.Helper()
	if b, e := l.Nodes[i].Store().Get(id, pos); string(b) != data || e != want {
		t.Errorf("the node %d has at %d: %.20q, %d, not %.20q, %d", i, pos, b, e, data, want)
	}
}

// badConfigs has configs that may not be, of so many nodes (at least two).
func badConfigs(nodes int) []loglet.Config {
	return []loglet.Config{
		{},
		{ID: id},
		{ID: id, Nodes: []int{}},
		{ID: -1, Nodes: []int{0}},
		{ID: math.MinInt, Nodes: []int{0}},
		{ID: api.MaxNumber, Nodes: []int{0}},
		{ID: math.MaxInt, Nodes: []int{0}},
		of(-1),
		of(math.MinInt),
		of(0, -1),
		of(nodes),
		of(0, 1, nodes),
		of(math.MaxInt),
		of(0, 0),
		of(1, 0, 1),
		of(0, 1, 1),
		of(slices.Repeat([]int{0}, api.MaxNodes)...),
		of(upTo(api.MaxNodes + 1)...),
		of(make([]int, 100000)...),
	}
}

// everyKind has a request of each kind.
func everyKind() []node.Request {
	return []node.Request{
		{Kind: node.Write, Loglet: id, Pos: 3, Data: []byte("d")},
		{Kind: node.Repair, Loglet: id, Pos: 4, Data: []byte("e")},
		{Kind: node.Seal, Loglet: id},
		{Kind: node.Read, Loglet: id, Pos: 1},
		{Kind: node.Look, Loglet: id},
		{Kind: node.Trim, Loglet: id, Pos: 1},
	}
}

// picks calls see with each list of n numbers that are each below k.
func picks(n, k int, see func([]int)) {
	now := make([]int, n)
	for {
		see(now)
		i := 0
		for i < n && now[i] == k-1 {
			now[i] = 0
			i++
		}
		if i == n {
			return
		}
		now[i]++
	}
}
