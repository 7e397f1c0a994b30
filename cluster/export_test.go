package cluster

import "gazette/vlog"

// Link is what the brokers of c work with: tests look at it, and send what no call of a cluster does.
func Link(c *Cluster) *vlog.Link { return c.link }
