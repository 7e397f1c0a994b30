package cluster

import (
	"gazette/api"
	"gazette/net"
)

// Luck lays numbers behind those that wait: each says what becomes of one message.
func (c *Cluster) Luck(l []int) api.Errno {
	if !c.made() {
		return api.ErrArg
	}
	c.net().Luck(l)
	return api.OK
}

// Late tells how many messages are late.
func (c *Cluster) Late() int {
	if !c.made() {
		return 0
	}
	return c.net().Late()
}

// Deliver lets the late message k come.
func (c *Cluster) Deliver(k int) bool {
	if !c.made() {
		return false
	}
	to, b, ok := c.net().Message(k)
	if ok && c.link.Register.Deliver(to, b) {
		return c.Drop(k)
	}
	// What is no acceptor's is a node's, or nobody's, and goes either way.
	return c.link.Loglets.Deliver(k)
}

// Drop has the late message k never come.
func (c *Cluster) Drop(k int) bool {
	if !c.made() {
		return false
	}
	_, _, ok := c.net().Take(k)
	return ok
}

// Double lays the late message k behind the late ones once more.
func (c *Cluster) Double(k int) bool { return c.made() && c.net().Double(k) }

// net is the one that messages to nodes and to acceptors share.
func (c *Cluster) net() *net.Net { return c.link.Loglets.Net }

// calm takes away all luck that waits. No call of a net does that, but a new one has none: what is late on the old one never comes.
func (c *Cluster) calm() {
	n := net.New()
	c.link.Loglets.Net, c.link.Register.Net = n, n
}
