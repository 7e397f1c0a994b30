package ledger

import (
	"bytes"

	"gazette/api"
	"gazette/batch"
	"gazette/wire"
)

// Kinds of an Entry.
const (
	Batches = 1
	Retain  = 2
	Compact = 3
)

const (
	kindsApart = 15 // a frame's kind is that much above its entry's
	numberSize = 6
)

// Entry is one of a partition's log: a batch, or that what lies ahead of N is given up, or compacted.
type Entry struct {
	Kind, N int
	Batch   api.Batch
}

// PutEntry tells x as bytes.
func PutEntry(x Entry) ([]byte, api.Errno) {
	if !mayBe(x) {
		return nil, api.ErrArg
	}
	body := tellNumber(x.N)
	if x.Kind == Batches {
		body, _ = batch.Encode(x.Batch)
	}
	return wire.Frame(x.Kind+kindsApart, body)
}

// GetEntry reads the entry that b is.
func GetEntry(b []byte) (Entry, api.Errno) {
	kind, body, to, e := wire.Unframe(b, 0)
	if e != api.OK || to != len(b) {
		return Entry{}, api.ErrForm
	}
	x := Entry{Kind: kind - kindsApart}
	switch x.Kind {
	case Batches:
		x.Batch, e = batch.Decode(body)
	case Retain, Compact:
		x.N, e = readNumber(body)
	default:
		e = api.ErrForm
	}
	if e != api.OK {
		return Entry{}, api.ErrForm
	}
	return x, api.OK
}

// mayBe tells whether x is an entry that may be.
func mayBe(x Entry) bool {
	switch x.Kind {
	case Batches:
		return x.N == 0 && batch.Check(x.Batch) == api.OK
	case Retain, Compact:
		return x.N >= 0 && x.N <= api.MaxNumber && isZero(x.Batch)
	}
	return false
}

func isZero(b api.Batch) bool {
	return b.Kind == 0 && b.Producer == 0 && b.Epoch == 0 && b.Seq == 0 && !b.InTxn && len(b.Records) == 0
}

// tellNumber takes numbers up to MaxNumber: that one alone has no room in the bytes of the others, and one byte more.
func tellNumber(n int) []byte {
	b, _ := wire.Put(n%api.MaxNumber, numberSize)
	if n == api.MaxNumber {
		b = append(b, 1)
	}
	return b
}

func readNumber(b []byte) (int, api.Errno) {
	if bytes.Equal(b, tellNumber(api.MaxNumber)) {
		return api.MaxNumber, api.OK
	}
	n, to, e := wire.Get(b, 0, numberSize)
	if e == api.OK && to != len(b) {
		e = api.ErrForm
	}
	return n, e
}
