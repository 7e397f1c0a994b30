package store

import (
	"iter"
	"slices"

	"gazette/api"
	"gazette/wire"
)

// Kinds of an entry.
const (
	putKind  = 1
	sealKind = 2
	trimKind = 3
	kinds    = 4 // one more than the greatest
)

const (
	kindSize   = 1
	logletSize = 6
	placeSize  = 6
	logletAt   = kindSize
	placeAt    = logletAt + logletSize
	dataAt     = placeAt + placeSize
)

const (
	mark = 165 // the first byte of a part

	markSize   = 1
	numberSize = 6
	partSize   = 2
	countSize  = 2
	bytesSize  = 1
	sumSize    = 4
	countAt    = markSize + numberSize + partSize
	bytesAt    = countAt + countSize
	pieceAt    = bytesAt + bytesSize
	sumAt      = api.Block - sumSize
	maxPiece   = sumAt - pieceAt
)

// slot is where a loglet keeps data.
type slot struct {
	loglet, pos int
}

// entry is what the disk keeps of a call.
type entry struct {
	kind int
	slot slot
	data []byte
}

// text tells e as bytes.
func (e entry) text() []byte {
	return slices.Concat(
		spell(e.kind, kindSize),
		spell(e.slot.loglet, logletSize),
		spell(e.slot.pos, placeSize),
		e.data)
}

// may tells whether a call could have written e.
func (e entry) may() bool {
	switch e.kind {
	case putKind:
		return isPlace(e.slot.pos) && len(e.data) <= api.MaxBytes
	case sealKind:
		return e.slot.pos == 0 && len(e.data) == 0
	case trimKind:
		return isTrimPoint(e.slot.pos) && len(e.data) == 0
	}
	return false
}

// readEntry reads the entry that text is, and keeps text as its data.
func readEntry(text []byte) (entry, bool) {
	if len(text) < dataAt {
		return entry{}, false
	}
	e := entry{
		kind: numberAt(text, 0, kindSize),
		slot: slot{numberAt(text, logletAt, logletSize), numberAt(text, placeAt, placeSize)},
		data: text[dataAt:],
	}
	return e, e.may()
}

// blocks tells how many blocks e takes.
func (e entry) blocks() int { return countParts(dataAt + len(e.data)) }

// countParts tells how many parts so many bytes stand in.
func countParts(size int) int { return (size + maxPiece - 1) / maxPiece }

// parts tells the blocks in which the entry of that number stands, from the place at on.
func parts(at, number int, text []byte) iter.Seq2[int, []byte] {
	return func(yield func(int, []byte) bool) {
		count := countParts(len(text))
		for k := range count {
			piece := text[k*maxPiece : min((k+1)*maxPiece, len(text))]
			if !yield(at+k, tellPart(number, k, count, piece)) {
				return
			}
		}
	}
}

// tellPart tells the kth of count parts as a block.
func tellPart(number, k, count int, piece []byte) []byte {
	told := slices.Concat(
		spell(mark, markSize),
		spell(number, numberSize),
		spell(k, partSize),
		spell(count, countSize),
		spell(len(piece), bytesSize),
		piece,
		make([]byte, maxPiece-len(piece)))
	return slices.Concat(told, spell(int(wire.Crc(told)), sumSize))
}

// readPart reads of a block how many parts there are, and its bytes, without a look at what else it is.
func readPart(block []byte) (count int, piece []byte) {
	size := min(numberAt(block, bytesAt, bytesSize), maxPiece)
	return numberAt(block, countAt, countSize), block[pieceAt : pieceAt+size]
}

// spell takes only an n that has room in size bytes: whatever stands in an entry has, by its limits.
func spell(n, size int) []byte {
	b, _ := wire.Put(n, size)
	return b
}

// numberAt takes only places that b has.
func numberAt(b []byte, at, size int) int {
	n, _, _ := wire.Get(b, at, size)
	return n
}
