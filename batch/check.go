package batch

import (
	"slices"

	"gazette/api"
)

const (
	maxKey   = 1000
	maxValue = 4000
	maxEpoch = 1<<31 - 1
)

// The questions' names, in the order in which Check asks them: the first that is answered yes has the error.
const (
	noKind = iota
	noProducer
	noEpoch
	noTxn
	noSeq
	noCount
	longRecord
	seqOver
	longBytes
	asked
)

type question struct {
	e   api.Errno
	yes func() bool
}

// Check tells whether b may be.
func Check(b api.Batch) api.Errno {
	for _, q := range questions(b) {
		if q.yes() {
			return q.e
		}
	}
	return api.OK
}

// questions ask what may not be of b. noCount stands ahead of those that go through the Records, so that those never go through many.
func questions(b api.Batch) [asked]question {
	marker, nobodys := isMarker(b), b.Producer == nobody
	return [asked]question{
		noKind: {api.ErrArg, func() bool { return b.Kind != api.Plain && !marker }},
		noProducer: {api.ErrArg, func() bool {
			if nobodys {
				return marker
			}
			return b.Producer < 0 || b.Producer >= api.MaxNumber
		}},
		noEpoch: {api.ErrArg, func() bool {
			if nobodys {
				return b.Epoch != 0
			}
			return b.Epoch < 0 || b.Epoch > maxEpoch
		}},
		noTxn: {api.ErrArg, func() bool { return b.InTxn && (marker || nobodys) }},
		noSeq: {api.ErrArg, func() bool { return b.Seq != 0 && (marker || nobodys) }},
		noCount: {api.ErrSize, func() bool {
			if marker {
				return len(b.Records) > 0
			}
			return len(b.Records) < 1 || len(b.Records) > api.MaxBatch
		}},
		longRecord: {api.ErrSize, func() bool { return slices.ContainsFunc(b.Records, isLong) }},
		// It takes away and does not add, so that a huge Seq can't wrap round.
		seqOver:   {api.ErrOver, func() bool { return b.Seq < 0 || b.Seq > api.MaxSeq-Len(b) }},
		longBytes: {api.ErrSize, func() bool { return size(b) > api.MaxBytes }},
	}
}

func isLong(r api.Record) bool {
	return len(r.Key) > maxKey || len(r.Value) > maxValue || r.Dead && len(r.Value) > 0
}
