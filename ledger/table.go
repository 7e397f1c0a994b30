package ledger

import (
	"slices"

	"gazette/producer"
)

// table has a ledger's producers. It lies between the two, so that the Ledger that embeds it does not hand out the exported calls of a producer.Table as its own.
type table struct {
	producers *producer.Table
}

// knows tells whether a producer is known, and with this epoch.
func (t table) knows(id, epoch int) bool {
	return slices.ContainsFunc(t.producers.Entries(), func(x producer.Entry) bool {
		return x.Producer == id && x.Epoch == epoch
	})
}
