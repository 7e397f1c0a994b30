package loglet_test

import (
	"math"
	"slices"
	"testing"

	"gazette/api"
	"gazette/loglet"
	"gazette/net"
	"gazette/node"
)

// P701

func TestLinkWithoutANet(t *testing.T) {
	nodes := mustLink(t, 3, 8).Nodes
	for _, l := range []*loglet.Link{nil, {}, {Net: new(net.Net)}, {Nodes: nodes}, {Net: &net.Net{}, Nodes: nodes}} {
		for range 2 {
			for to := -1; to < 4; to++ {
				for _, r := range everyKind() {
					checkNoReply(t, l, to, r)
				}
			}
			for _, k := range []int{math.MinInt, -1, 0, 1, math.MaxInt} {
				checkDeliver(t, l, k, false)
			}
			checkRefused(t, l, of(0))
			checkRefused(t, l, of(0, 1, 2))
			checkRefused(t, l, loglet.Config{})
		}
	}
	for i, n := range nodes {
		if !n.Up() || len(n.Store().Loglets()) != 0 {
			t.Errorf("the node %d was asked", i)
		}
	}
}

func TestLinkWithoutNodes(t *testing.T) {
	l := &loglet.Link{Net: net.New()}
	l.Net.Luck([]int{late, late})
	for _, r := range everyKind() {
		checkNoReply(t, l, 0, r)
	}
	checkRefused(t, l, of(0))
	checkRefused(t, l, of())
	checkLeft(t, l, 2)
	l.Net.Send(0, requestBytes(t, everyKind()[0]))
	checkDeliver(t, l, 0, true)
	checkDeliver(t, l, 0, false)
}

// TestNodesThatNeverAnswer: to one that is nil messages are sent, as to any other.
func TestNodesThatNeverAnswer(t *testing.T) {
	for _, n := range []*node.Node{nil, {}, new(node.Node)} {
		l := &loglet.Link{Net: net.New(), Nodes: []*node.Node{n, mustNode(t, 8), mustNode(t, 8)}}
		write := everyKind()[0]
		l.Net.Luck([]int{comes, lost, unanswered, late, twice})
		for left := 4; left >= 0; left-- {
			checkNoReply(t, l, 0, write)
			checkLeft(t, l, left)
		}
		checkLate(t, l, sent{0, write})
		checkDeliver(t, l, 0, true)
		checkDeliver(t, l, 0, false)
		checkAppend(t, l, of(0), 0, "a", api.ErrLost)
		checkAppend(t, l, of(0, 1), 0, "a", api.ErrLost)
		checkAppend(t, l, of(0, 1, 2), 0, "a", api.OK)
		checkRead(t, l, of(0), 0, "", api.ErrLost)
		checkRead(t, l, of(0, 1, 2), 0, "a", api.OK)
		checkRead(t, l, of(0, 1, 2), 1, "", api.ErrLost)
		checkRepair(t, l, of(0, 1, 2), 0, 1, api.OK)
		checkRepair(t, l, of(0, 1, 2), 0, 2, api.ErrLost)
		checkSeal(t, l, of(0), 0, api.ErrLost)
		checkSeal(t, l, of(2, 1, 0), 1, api.OK)
		checkTrim(t, l, of(0), 1, api.ErrLost)
		checkTrim(t, l, of(1, 0, 2), 1, api.OK)
		if n.Up() {
			t.Error("the node is up")
		}
	}
}

// roomy answers data with room behind it that is not zeros.
func roomy(data string) []byte {
	b := []byte(data + "room behind")
	return b[:len(data)]
}

// spoil checks that b and its room are as roomy made them, and writes over them.
func spoil(t *testing.T, b []byte, data string) {
	t.Helper()
	whole := b[:len(data)+len("room behind")]
	if string(whole) != data+"room behind" {
		t.Errorf("what was handed in is %q now", whole)
	}
	overwrite(b)
}

func overwrite(b []byte) {
	b = b[:cap(b)]
	for i := range b {
		b[i] = 170
	}
}

func TestWhatIsHandedInIsNotKept(t *testing.T) {
	l := mustLink(t, 3, 20)
	nodes := []int{0, 1, 2, 7, 8, 9}
	c := loglet.Config{ID: id, Nodes: nodes[:3]}
	data := roomy("ab")
	l.Net.Luck([]int{comes, twice, late})
	if e := loglet.Append(l, c, 0, data); e != api.OK {
		t.Errorf("Append: %d", e)
	}
	spoil(t, data, "ab")
	data = roomy("cd")
	r := node.Request{Kind: node.Write, Loglet: id, Pos: 1, Data: data}
	checkAsk(t, l, 0, r, node.Reply{Tail: 2})
	l.Net.Luck([]int{late})
	checkNoReply(t, l, 1, r)
	spoil(t, data, "cd")
	checkDeliver(t, l, 0, true)
	checkDeliver(t, l, 0, true)
	checkSlot(t, l, 2, 0, "ab", api.OK)
	checkSlot(t, l, 1, 1, "cd", api.OK)
	checkRepair(t, l, c, 0, 2, api.OK)
	checkSeal(t, l, c, 2, api.OK)
	checkTrim(t, l, c, 0, api.OK)
	for i := range l.Nodes {
		checkRead(t, l, of(i), 0, "ab", api.OK)
	}
	if !slices.Equal(nodes, []int{0, 1, 2, 7, 8, 9}) {
		t.Errorf("the config's room is %v now", nodes)
	}
	loglet.Check(c, 3)
	loglet.Quorum(c)
	clear(nodes)
	checkRead(t, l, of(0, 1, 2), 1, "cd", api.OK)
	if len(l.Nodes) != 3 {
		t.Errorf("the link has %d nodes now", len(l.Nodes))
	}
}

func TestWhatIsAnsweredIsNewMemory(t *testing.T) {
	l := mustLink(t, 1, 20)
	read := node.Request{Kind: node.Read, Loglet: id}
	checkAppend(t, l, of(0), 0, "abc", api.OK)
	first, _ := loglet.Read(l, of(0), 0)
	second, _ := loglet.Read(l, of(0), 0)
	third, _ := l.Ask(0, read)
	fourth, _ := l.Ask(0, read)
	overwrite(first)
	overwrite(third.Data)
	if string(second) != "abc" || string(fourth.Data) != "abc" {
		t.Errorf("an answer has changed with another one: %q, %q", second, fourth.Data)
	}
	checkRead(t, l, of(0), 0, "abc", api.OK)
	checkSlot(t, l, 0, 0, "abc", api.OK)
}

// P702

func TestAsk(t *testing.T) {
	l := mustLink(t, 3, 20)
	checkAsk(t, l, 1, node.Request{Kind: node.Write, Loglet: 1, Data: []byte("a")}, node.Reply{Tail: 1})
	checkAsk(t, l, 1, node.Request{Kind: node.Write, Loglet: 1, Data: []byte("b")}, node.Reply{E: api.ErrTwice, Tail: 1})
	checkAsk(t, l, 1, node.Request{Kind: node.Read, Loglet: 1}, node.Reply{Tail: 1, Data: []byte("a")})
	checkAsk(t, l, 1, node.Request{Kind: node.Seal, Loglet: 1}, node.Reply{Tail: 1, Sealed: true})
	checkAsk(t, l, 1, node.Request{Kind: node.Write, Loglet: 1, Pos: 1}, node.Reply{E: api.ErrSeal, Tail: 1, Sealed: true})
	checkAsk(t, l, 1, node.Request{Kind: node.Repair, Loglet: 1, Pos: 1}, node.Reply{Tail: 2, Sealed: true})
	checkAsk(t, l, 1, node.Request{Kind: node.Trim, Loglet: 1, Pos: 3}, node.Reply{Tail: 3, Sealed: true})
	checkAsk(t, l, 1, node.Request{Kind: node.Look, Loglet: 1}, node.Reply{Tail: 3, Sealed: true})
	checkAsk(t, l, 1, node.Request{Kind: node.Write, Loglet: 1, Pos: api.MaxSlots}, node.Reply{E: api.ErrArg, Tail: 3, Sealed: true})
	for _, to := range []int{0, 2} {
		checkAsk(t, l, to, node.Request{Kind: node.Look, Loglet: 1}, node.Reply{})
	}
}

func TestLuckOfAsk(t *testing.T) {
	for _, c := range []struct {
		luck        int
		reply, done bool
	}{
		{luck: comes, reply: true, done: true},
		{luck: lost},
		{luck: unanswered, done: true},
		{luck: late},
		{luck: twice, reply: true, done: true},
		{luck: -1, reply: true, done: true},
		{luck: 11},
	} {
		l := mustLink(t, 2, 4)
		write := node.Request{Kind: node.Write, Loglet: id, Pos: 2, Data: []byte("a")}
		l.Net.Luck([]int{c.luck})
		if c.reply {
			checkAsk(t, l, 1, write, node.Reply{Tail: 3})
		} else {
			checkNoReply(t, l, 1, write)
		}
		if got := l.Nodes[1].Store().Tail(id) == 3; got != c.done {
			t.Errorf("with the luck %d it is done: %v", c.luck, got)
		}
		if c.luck == late {
			checkLate(t, l, sent{1, write})
		} else {
			checkLate(t, l)
		}
		checkLeft(t, l, 0)
	}
}

func TestAskThatSendsNothing(t *testing.T) {
	l := mustLink(t, 3, 4)
	l.Net.Luck([]int{late, comes, late})
	was := world(l)
	for _, to := range []int{math.MinInt, -3, -1, 3, 4, 100, math.MaxInt} {
		for _, r := range everyKind() {
			checkNoReply(t, l, to, r)
		}
	}
	for _, r := range []node.Request{
		{},
		{Kind: -1},
		{Kind: 7},
		{Kind: node.Write, Loglet: -1},
		{Kind: node.Write, Loglet: api.MaxNumber},
		{Kind: node.Write, Pos: -1},
		{Kind: node.Write, Pos: api.MaxSlots + 1},
		{Kind: node.Write, Data: make([]byte, maxData+1)},
		{Kind: node.Read, Data: []byte("a")},
		{Kind: node.Seal, Pos: 1},
		{Kind: node.Look, Pos: 1},
	} {
		for to := range 3 {
			checkNoReply(t, l, to, r)
		}
	}
	checkWorld(t, l, was)
}

func TestAskOfANodeWithoutPower(t *testing.T) {
	write := node.Request{Kind: node.Write, Loglet: id, Data: []byte("a")}
	for _, luck := range []int{comes, lost, unanswered, late, twice} {
		l := mustLink(t, 1, 4)
		l.Net.Luck([]int{luck})
		l.Nodes[0].Stop()
		checkNoReply(t, l, 0, write)
		checkLeft(t, l, 0)
		l.Nodes[0].Start(nil)
		checkSlot(t, l, 0, 0, "", api.ErrNone)
	}
	for fuse := range 2 {
		for _, luck := range []int{comes, twice} {
			l := mustLink(t, 1, 4)
			l.Net.Luck([]int{luck})
			l.Nodes[0].Cut(fuse)
			checkNoReply(t, l, 0, write)
			if l.Nodes[0].Up() {
				t.Error("the node is up")
			}
			l.Nodes[0].Start(nil)
			checkAsk(t, l, 0, write, node.Reply{Tail: 1})
		}
	}
	l := mustLink(t, 1, 4)
	l.Net.Luck([]int{twice})
	l.Nodes[0].Cut(2)
	checkAsk(t, l, 0, write, node.Reply{Tail: 1})
}

func TestDeliver(t *testing.T) {
	l := mustLink(t, 3, 20)
	l.Net.Luck(slices.Repeat([]int{late}, 4))
	for i := range 3 {
		checkNoReply(t, l, i, node.Request{Kind: node.Write, Loglet: id, Pos: i, Data: []byte{byte('a' + i)}})
	}
	checkNoReply(t, l, 0, node.Request{Kind: node.Seal, Loglet: id})
	was := world(l)
	for _, k := range []int{math.MinInt, -4, -1, 4, 5, math.MaxInt} {
		checkDeliver(t, l, k, false)
	}
	checkWorld(t, l, was)
	checkDeliver(t, l, 1, true)
	checkSlot(t, l, 1, 1, "b", api.OK)
	checkDeliver(t, l, 2, true)
	if !l.Nodes[0].Store().Sealed(id) || l.Net.Late() != 2 {
		t.Error("the seal did not come")
	}
	l.Net.Luck([]int{lost})
	checkDeliver(t, l, 0, true)
	checkSlot(t, l, 0, 0, "", api.ErrNone)
	l.Net.Double(0)
	checkDeliver(t, l, 1, true)
	checkSlot(t, l, 2, 2, "c", api.OK)
	was = world(&loglet.Link{Net: net.New(), Nodes: l.Nodes})
	checkDeliver(t, l, 0, true)
	checkDeliver(t, l, 0, false)
	checkLeft(t, l, 1)
	checkWorld(t, &loglet.Link{Net: net.New(), Nodes: l.Nodes}, was)
}

// TestDeliverOfAnyMessage: others may have sent by the same net.
func TestDeliverOfAnyMessage(t *testing.T) {
	l := mustLink(t, 2, 20)
	write := requestBytes(t, node.Request{Kind: node.Write, Loglet: id, Data: []byte("a")})
	for _, to := range []int{math.MinInt, -1, 2, 3, 100, math.MaxInt} {
		l.Net.Luck([]int{late})
		l.Net.Send(to, write)
	}
	for _, b := range [][]byte{nil, []byte("x"), write[1:], make([]byte, 1<<17)} {
		l.Net.Luck([]int{late})
		l.Net.Send(1, b)
	}
	for l.Net.Late() > 0 {
		checkDeliver(t, l, 0, true)
	}
	checkDeliver(t, l, 0, false)
	for i, n := range l.Nodes {
		if !n.Up() || len(n.Store().Loglets()) != 0 {
			t.Errorf("the node %d has done something", i)
		}
	}
}

func TestDeliverWithoutPower(t *testing.T) {
	l := mustLink(t, 1, 20)
	l.Net.Luck([]int{late, late, late})
	for pos := range 3 {
		checkNoReply(t, l, 0, node.Request{Kind: node.Write, Loglet: id, Pos: pos})
	}
	l.Nodes[0].Stop()
	checkDeliver(t, l, 0, true)
	l.Nodes[0].Start(nil)
	l.Nodes[0].Cut(0)
	checkDeliver(t, l, 0, true)
	if l.Nodes[0].Up() {
		t.Error("the node is up")
	}
	l.Nodes[0].Start(nil)
	checkDeliver(t, l, 0, true)
	checkDeliver(t, l, 0, false)
	for pos, want := range []api.Errno{api.ErrNone, api.ErrNone, api.OK} {
		checkSlot(t, l, 0, pos, "", want)
	}
}
