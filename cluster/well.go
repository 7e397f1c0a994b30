package cluster

import (
	"cmp"

	"gazette/api"
	"gazette/broker"
	"gazette/txn"
)

// Well ends all that befalls the cluster: what is late comes, all are up, and nobody has bad luck any more.
func (c *Cluster) Well() api.Errno {
	if !c.made() {
		return api.ErrArg
	}
	for c.Deliver(0) {
	}
	c.calm()
	// All three are done, whatever the first ones answer.
	return cmp.Or(
		c.befallAll(Node, begin(nil), fuse(noFuse)),
		c.befallAll(Acceptor, begin(nil), fuse(noFuse)),
		c.befallAll(Server, fleet.stop, begin(nil)),
	)
}

// Settle has a broker end the transactions whose time is over, and answers how many markers are left to be written.
func (c *Cluster) Settle() (int, api.Errno) {
	if !c.made() {
		return 0, api.ErrArg
	}
	b, e := c.first()
	if e != api.OK {
		return 0, e
	}
	if _, _, e := b.Txn(txn.Event{Kind: txn.Expire, Now: c.now}); e != api.OK {
		return 0, e
	}
	return b.Finish()
}

// first is the first broker that is up.
func (c *Cluster) first() (*broker.Broker, api.Errno) {
	for i := range c.brokers.count() {
		if c.brokers.up(i) {
			return c.Broker(i)
		}
	}
	return nil, api.ErrPower
}
