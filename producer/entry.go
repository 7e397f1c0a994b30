package producer

import (
	"slices"

	"gazette/api"
)

const maxEpoch = 1<<31 - 1

// mayBe tells whether an entry can be loaded, whichever ones stand beside it.
func mayBe(x Entry) bool {
	return x.Producer >= 0 && x.Producer < api.MaxNumber &&
		x.Epoch >= 0 && x.Epoch <= maxEpoch &&
		x.Next >= 0 && x.Next <= api.MaxSeq &&
		len(x.Last) <= api.Window && leadTo(x.Next, x.Last)
}

// leadTo tells whether batches that may be follow one another up to next. It goes backward and takes away, so that a huge Seq can't wrap round.
func leadTo(next int, last []Done) bool {
	for _, d := range slices.Backward(last) {
		if d.Len < 1 || d.Len > api.MaxBatch || !isOffset(d.Offset) || d.Seq != next-d.Len {
			return false
		}
		next = d.Seq
	}
	return next >= 0
}

func isOffset(n int) bool { return n >= 0 && n <= api.MaxNumber }

// stateOf takes an entry that may be.
func stateOf(x Entry) state {
	now := state{epoch: x.Epoch, next: x.Next}
	for _, d := range x.Last {
		now.last.add(d)
	}
	return now
}
