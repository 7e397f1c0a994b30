package loglet

import (
	"iter"

	"gazette/api"
	"gazette/net"
	"gazette/node"
)

// Link is a net and the nodes behind it, each by its number. A nil one among them never answers.
type Link struct {
	Net   *net.Net
	Nodes []*node.Node
}

// Ask sends r to a node, and answers the reply, if one comes.
func (l *Link) Ask(to int, r node.Request) (node.Reply, bool) {
	if !l.made() || !l.has(to) {
		return node.Reply{}, false
	}
	b, e := node.PutRequest(r)
	if e != api.OK {
		return node.Reply{}, false
	}
	times, comes := l.Net.Send(to, b)
	var told []byte
	for range times {
		told = l.Nodes[to].Ask(b)
	}
	if !comes {
		return node.Reply{}, false
	}
	// A node without power has told nothing, which is no reply.
	reply, e := node.GetReply(told)
	return reply, e == api.OK
}

// Deliver lets the late message k come. Its sender has gone on: nobody hears the reply.
func (l *Link) Deliver(k int) bool {
	if !l.made() {
		return false
	}
	to, b, ok := l.Net.Take(k)
	if ok && l.has(to) {
		l.Nodes[to].Ask(b)
	}
	return ok
}

func (l *Link) made() bool { return l != nil && l.Net.Made() }

func (l *Link) has(to int) bool { return to >= 0 && to < len(l.Nodes) }

// refuse answers the error that every call of a loglet answers first.
func (l *Link) refuse(c Config) api.Errno {
	if !l.made() {
		return api.ErrArg
	}
	return Check(c, len(l.Nodes))
}

// replies asks c's nodes in their order, as long as somebody looks, and tells the replies that come.
func (l *Link) replies(c Config, r node.Request) iter.Seq[node.Reply] {
	r.Loglet = c.ID
	return func(yield func(node.Reply) bool) {
		for _, to := range c.Nodes {
			if reply, ok := l.Ask(to, r); ok && !yield(reply) {
				return
			}
		}
	}
}

// poll asks all of c's nodes, counts what they say, and shows the replies that are OK.
func (l *Link) poll(c Config, r node.Request, show func(node.Reply)) tally {
	said := tally{}
	for reply := range l.replies(c, r) {
		said[reply.E]++
		if reply.E == api.OK {
			show(reply)
		}
	}
	return said
}

// ignore is shown replies of which nothing but their number counts.
func ignore(node.Reply) {}
