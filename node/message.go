package node

import (
	"slices"

	"gazette/api"
	"gazette/wire"
)

// Kinds of a Request.
const (
	Write = 1 + iota
	Repair
	Seal
	Read
	Look
	Trim

	kinds // one more than the greatest
)

// Kinds of a frame.
const (
	requestFrame = 1 + iota
	replyFrame
)

const (
	kindSize      = 1
	logletSize    = 6
	posSize       = 2
	logletAt      = kindSize
	posAt         = logletAt + logletSize
	requestDataAt = posAt + posSize

	errnoSize   = 1
	tailSize    = 2
	sealedSize  = 1
	tailAt      = errnoSize
	sealedAt    = tailAt + tailSize
	replyDataAt = sealedAt + sealedSize

	maxErrno = 1<<(8*errnoSize) - 1
	maxData  = api.MaxBytes - 32
)

// Request is what a node is asked.
type Request struct {
	Kind, Loglet, Pos int
	Data              []byte
}

// Reply is what a node answers.
type Reply struct {
	E      api.Errno
	Tail   int
	Sealed bool
	Data   []byte
}

// PutRequest tells r as bytes.
func PutRequest(r Request) ([]byte, api.Errno) {
	if !r.may() {
		return nil, api.ErrArg
	}
	return wire.Frame(requestFrame, slices.Concat(
		spell(r.Kind, kindSize),
		spell(r.Loglet, logletSize),
		spell(r.Pos, posSize),
		r.Data))
}

// GetRequest reads the request that b is.
func GetRequest(b []byte) (Request, api.Errno) {
	body, ok := unpack(b, requestFrame, requestDataAt)
	if !ok {
		return Request{}, api.ErrForm
	}
	r := Request{
		Kind:   numberAt(body, 0, kindSize),
		Loglet: numberAt(body, logletAt, logletSize),
		Pos:    numberAt(body, posAt, posSize),
		Data:   body[requestDataAt:],
	}
	if !r.may() {
		return Request{}, api.ErrForm
	}
	return r, api.OK
}

// PutReply tells r as bytes.
func PutReply(r Reply) ([]byte, api.Errno) {
	if !r.may() {
		return nil, api.ErrArg
	}
	sealed := 0
	if r.Sealed {
		sealed = 1
	}
	return wire.Frame(replyFrame, slices.Concat(
		spell(int(r.E), errnoSize),
		spell(r.Tail, tailSize),
		spell(sealed, sealedSize),
		r.Data))
}

// GetReply reads the reply that b is.
func GetReply(b []byte) (Reply, api.Errno) {
	body, ok := unpack(b, replyFrame, replyDataAt)
	if !ok {
		return Reply{}, api.ErrForm
	}
	sealed := numberAt(body, sealedAt, sealedSize)
	r := Reply{
		E:      api.Errno(numberAt(body, 0, errnoSize)),
		Tail:   numberAt(body, tailAt, tailSize),
		Sealed: sealed == 1,
		Data:   body[replyDataAt:],
	}
	if sealed > 1 || !r.may() {
		return Reply{}, api.ErrForm
	}
	return r, api.OK
}

// may tells whether r may be.
func (r Request) may() bool {
	return r.Kind >= Write && r.Kind < kinds &&
		r.Loglet >= 0 && r.Loglet < api.MaxNumber &&
		r.Pos >= 0 && r.Pos <= r.maxPos() &&
		len(r.Data) <= r.maxData()
}

// maxPos lets one more pass than there are places: all of them can be trimmed.
func (r Request) maxPos() int {
	if r.Kind == Seal || r.Kind == Look {
		return 0
	}
	return api.MaxSlots
}

func (r Request) maxData() int {
	if r.Kind == Write || r.Kind == Repair {
		return maxData
	}
	return 0
}

// may tells whether r may be.
func (r Reply) may() bool {
	return r.E >= 0 && r.E <= maxErrno &&
		r.Tail >= 0 && r.Tail <= api.MaxSlots &&
		len(r.Data) <= maxData
}

// unpack answers the body of the frame that the whole of b is, if it is of that kind and has at least least bytes.
func unpack(b []byte, kind, least int) ([]byte, bool) {
	k, body, to, e := wire.Unframe(b, 0)
	return body, e == api.OK && k == kind && to == len(b) && len(body) >= least
}

// spell takes only an n that has room in size bytes: whatever stands in a message that may be has, by its limits.
func spell(n, size int) []byte {
	b, _ := wire.Put(n, size)
	return b
}

// numberAt takes only places that b has.
func numberAt(b []byte, at, size int) int {
	n, _, _ := wire.Get(b, at, size)
	return n
}
