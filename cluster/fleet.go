package cluster

import (
	"gazette/api"
	"gazette/broker"
)

// fleet is all that there is of one kind. It is handed only numbers of such that there are.
type fleet interface {
	count() int
	up(i int) bool
	stop(i int) api.Errno
	start(i int, choices []int) api.Errno
	cut(i, n int) api.Errno
}

// machine is what nodes and acceptors have in common: each has a disk of its own.
type machine interface {
	Up() bool
	Stop()
	Start(choices []int) api.Errno
	Cut(n int)
}

// machines are all nodes, or all acceptors.
type machines[M machine] []M

// newMachines makes n of them. Where there can be a disk of so many blocks, each is made.
func newMachines[M machine](n, blocks int, fresh func(blocks int) (M, api.Errno)) machines[M] {
	l := make(machines[M], n)
	for i := range l {
		l[i], _ = fresh(blocks)
	}
	return l
}

func (l machines[M]) count() int { return len(l) }

func (l machines[M]) up(i int) bool { return l[i].Up() }

func (l machines[M]) stop(i int) api.Errno {
	l[i].Stop()
	return api.OK
}

func (l machines[M]) start(i int, choices []int) api.Errno { return l[i].Start(choices) }

func (l machines[M]) cut(i, n int) api.Errno {
	l[i].Cut(n)
	return api.OK
}

// servers are all brokers.
type servers struct {
	list  []*broker.Broker // nil where none is up
	fresh func(id int) (*broker.Broker, api.Errno)
}

// newServers makes n brokers that are up.
func newServers(n int, fresh func(id int) (*broker.Broker, api.Errno)) servers {
	s := servers{list: make([]*broker.Broker, n), fresh: fresh}
	for i := range s.list {
		s.start(i, nil)
	}
	return s
}

func (s servers) count() int { return len(s.list) }

func (s servers) up(i int) bool { return s.list[i] != nil }

func (s servers) stop(i int) api.Errno {
	s.list[i] = nil
	return api.OK
}

// start has no use for choices: a broker has no disk, and what it has to know stands in the logs.
func (s servers) start(i int, _ []int) (e api.Errno) {
	if !s.up(i) {
		s.list[i], e = s.fresh(i)
	}
	return e
}

// cut refuses: without a disk there is nothing to lay a fuse to.
func (s servers) cut(_, _ int) api.Errno { return api.ErrArg }
