package node_test

import (
	"bytes"
	"encoding/binary"
	"hash/crc32"
	"math"
	"math/rand/v2"
	"slices"
	"testing"

	"gazette/api"
	"gazette/node"
)

const (
	maxData    = api.MaxBytes - 32
	lastLoglet = api.MaxNumber - 1

	requestFrame = 1
	replyFrame   = 2
)

// frame tells a frame by the library's own sum.
func frame(kind byte, body []byte) []byte {
	b := binary.LittleEndian.AppendUint32([]byte{kind}, uint32(len(body)))
	b = append(b, body...)
	return binary.LittleEndian.AppendUint32(b, crc32.Checksum(b, crc32.MakeTable(crc32.Castagnoli)))
}

// low tells the lowest size bytes of n, whatever n is.
func low(n, size int) []byte {
	return binary.LittleEndian.AppendUint64(nil, uint64(n))[:size]
}

// requestBytes tells r also where it may not be, by as many bytes as a number has.
func requestBytes(r node.Request) []byte {
	return frame(requestFrame, slices.Concat(low(r.Kind, 1), low(r.Loglet, 6), low(r.Pos, 2), r.Data))
}

// replyBytes tells r with any byte as its Sealed.
func replyBytes(r node.Reply, sealed byte) []byte {
	return frame(replyFrame, slices.Concat(low(int(r.E), 1), low(r.Tail, 2), []byte{sealed}, r.Data))
}

func filled(x byte, size int) []byte { return bytes.Repeat([]byte{x}, size) }

func sameRequest(a, b node.Request) bool {
	return a.Kind == b.Kind && a.Loglet == b.Loglet && a.Pos == b.Pos && bytes.Equal(a.Data, b.Data)
}

func sameReply(a, b node.Reply) bool {
	return a.E == b.E && a.Tail == b.Tail && a.Sealed == b.Sealed && bytes.Equal(a.Data, b.Data)
}

func checkPutRequest(t *testing.T, r node.Request, want []byte) {
	t.Helper()
	if b, e := node.PutRequest(r); e != api.OK || !bytes.Equal(b, want) {
		t.Errorf("PutRequest(%d %d %d, %d bytes): %x, %d, not %x", r.Kind, r.Loglet, r.Pos, len(r.Data), head(b), e, head(want))
	}
}

func checkNoPutRequest(t *testing.T, r node.Request) {
	t.Helper()
	if b, e := node.PutRequest(r); e != api.ErrArg || len(b) != 0 {
		t.Errorf("PutRequest(%d %d %d, %d bytes): %x, %d, not ErrArg", r.Kind, r.Loglet, r.Pos, len(r.Data), head(b), e)
	}
}

func checkGetRequest(t *testing.T, b []byte, want node.Request) {
	t.Helper()
	if r, e := node.GetRequest(b); e != api.OK || !sameRequest(r, want) {
		t.Errorf("GetRequest(%x): %d %d %d, %d bytes, %d", head(b), r.Kind, r.Loglet, r.Pos, len(r.Data), e)
	}
}

func checkNoGetRequest(t *testing.T, b []byte) {
	t.Helper()
	if r, e := node.GetRequest(b); e != api.ErrForm || !sameRequest(r, node.Request{}) {
		t.Errorf("GetRequest(%x): %d %d %d, %d bytes, %d, not ErrForm", head(b), r.Kind, r.Loglet, r.Pos, len(r.Data), e)
	}
}

func checkPutReply(t *testing.T, r node.Reply, want []byte) {
	t.Helper()
	if b, e := node.PutReply(r); e != api.OK || !bytes.Equal(b, want) {
		t.Errorf("PutReply(%d %d %v, %d bytes): %x, %d, not %x", r.E, r.Tail, r.Sealed, len(r.Data), head(b), e, head(want))
	}
}

func checkNoPutReply(t *testing.T, r node.Reply) {
	t.Helper()
	if b, e := node.PutReply(r); e != api.ErrArg || len(b) != 0 {
		t.Errorf("PutReply(%d %d %v, %d bytes): %x, %d, not ErrArg", r.E, r.Tail, r.Sealed, len(r.Data), head(b), e)
	}
}

func checkGetReply(t *testing.T, b []byte, want node.Reply) {
	t.Helper()
	if r, e := node.GetReply(b); e != api.OK || !sameReply(r, want) {
		t.Errorf("GetReply(%x): %d %d %v, %d bytes, %d", head(b), r.E, r.Tail, r.Sealed, len(r.Data), e)
	}
}

func checkNoGetReply(t *testing.T, b []byte) {
	t.Helper()
	if r, e := node.GetReply(b); e != api.ErrForm || !sameReply(r, node.Reply{}) {
		t.Errorf("GetReply(%x): %d %d %v, %d bytes, %d, not ErrForm", head(b), r.E, r.Tail, r.Sealed, len(r.Data), e)
	}
}

// head keeps what a failure tells short.
func head(b []byte) []byte { return b[:min(len(b), 40)] }

func TestKinds(t *testing.T) {
	got := [...]int{node.Write, node.Repair, node.Seal, node.Read, node.Look, node.Trim}
	if got != [...]int{1, 2, 3, 4, 5, 6} {
		t.Errorf("kinds: %v", got)
	}
}

// P502, P506: requests

func TestBytesOfARequest(t *testing.T) {
	r := node.Request{Kind: node.Repair, Loglet: 0x060504030201, Pos: 0x0807, Data: []byte("ab")}
	want := frame(1, []byte{2, 1, 2, 3, 4, 5, 6, 7, 8, 'a', 'b'})
	checkPutRequest(t, r, want)
	checkGetRequest(t, want, r)
	checkPutRequest(t, node.Request{Kind: node.Seal}, frame(1, []byte{3, 0, 0, 0, 0, 0, 0, 0, 0}))
	checkPutRequest(t, node.Request{Kind: node.Look, Data: []byte{}}, frame(1, []byte{5, 0, 0, 0, 0, 0, 0, 0, 0}))
}

// mayAsk tells which requests of a kind may be, by a table that the limits are written out in.
func mayAsk(r node.Request) bool {
	limits := map[int]struct{ pos, data int }{
		1: {4096, 65504},
		2: {4096, 65504},
		3: {0, 0},
		4: {4096, 0},
		5: {0, 0},
		6: {4096, 0},
	}
	l, kind := limits[r.Kind]
	return kind && r.Loglet >= 0 && r.Loglet <= 1<<48-1 && r.Pos >= 0 && r.Pos <= l.pos && len(r.Data) <= l.data
}

func TestEveryEdgeOfARequest(t *testing.T) {
	may := 0
	for _, kind := range []int{math.MinInt, -255, -1, 0, 1, 2, 3, 4, 5, 6, 7, 8, 255, 257, math.MaxInt} {
		for _, loglet := range []int{math.MinInt, -1, 0, 1, lastLoglet, api.MaxNumber, api.MaxNumber + 1, math.MaxInt} {
			for _, pos := range []int{math.MinInt, -1, 0, 1, api.MaxSlots - 1, api.MaxSlots, api.MaxSlots + 1, 1 << 16, math.MaxInt} {
				for _, size := range []int{0, 1, maxData, maxData + 1} {
					if size > 1 && (loglet > 1 || pos > 1) {
						continue
					}
					r := node.Request{Kind: kind, Loglet: loglet, Pos: pos, Data: filled(9, size)}
					if !mayAsk(r) {
						checkNoPutRequest(t, r)
						continue
					}
					may++
					checkPutRequest(t, r, requestBytes(r))
					checkGetRequest(t, requestBytes(r), r)
				}
			}
		}
	}
	if may == 0 {
		t.Error("no request may be")
	}
	checkNoPutRequest(t, node.Request{Kind: node.Write, Data: filled(1, 1<<17)})
}

func TestBytesOfARequestThatMayNotBe(t *testing.T) {
	for _, kind := range []int{0, 1, 2, 3, 4, 5, 6, 7, 8, 255} {
		for _, pos := range []int{0, 1, api.MaxSlots, api.MaxSlots + 1, 1<<16 - 1} {
			for _, size := range []int{0, 1, maxData, maxData + 1, api.MaxBytes - 9} {
				r := node.Request{Kind: kind, Pos: pos, Data: filled(9, size)}
				if mayAsk(r) {
					checkGetRequest(t, requestBytes(r), r)
				} else {
					checkNoGetRequest(t, requestBytes(r))
				}
			}
		}
	}
}

func TestBytesThatAreNoRequest(t *testing.T) {
	body := []byte{1, 0, 0, 0, 0, 0, 0, 0, 0, 'a'}
	whole := frame(1, body)
	checkGetRequest(t, whole, node.Request{Kind: node.Write, Data: []byte("a")})
	for n := range len(whole) {
		checkNoGetRequest(t, whole[:n])
	}
	for n := range 9 {
		checkNoGetRequest(t, frame(1, body[:n]))
	}
	checkGetRequest(t, frame(1, body[:9]), node.Request{Kind: node.Write})
	for kind := range 256 {
		if kind != 1 {
			checkNoGetRequest(t, frame(byte(kind), body))
		}
	}
	for i := range whole {
		for bit := range 8 {
			turned := slices.Clone(whole)
			turned[i] ^= 1 << bit
			checkNoGetRequest(t, turned)
		}
	}
	checkNoGetRequest(t, append(slices.Clone(whole), 0))
	checkNoGetRequest(t, slices.Concat(whole, whole))
	checkNoGetRequest(t, append([]byte{0}, whole...))
	checkNoGetRequest(t, filled(255, 20))
	checkNoGetRequest(t, make([]byte, 1<<17))
}

// P502, P506: replies

func TestBytesOfAReply(t *testing.T) {
	r := node.Reply{E: api.ErrSeal, Tail: 0x0201, Sealed: true, Data: []byte("ab")}
	want := frame(2, []byte{30, 1, 2, 1, 'a', 'b'})
	checkPutReply(t, r, want)
	checkGetReply(t, want, r)
	checkPutReply(t, node.Reply{}, frame(2, []byte{0, 0, 0, 0}))
	checkPutReply(t, node.Reply{Data: []byte{}}, frame(2, []byte{0, 0, 0, 0}))
	checkGetReply(t, frame(2, []byte{0, 0, 0, 0}), node.Reply{})
}

func TestEveryEdgeOfAReply(t *testing.T) {
	for _, e := range []int{math.MinInt, -256, -1, 0, 1, 22, 255, 256, math.MaxInt} {
		for _, tail := range []int{math.MinInt, -1, 0, 1, api.MaxSlots, api.MaxSlots + 1, 1 << 16, math.MaxInt} {
			for _, size := range []int{0, 1, maxData, maxData + 1, api.MaxBytes, 1 << 17} {
				for sealed, is := range []bool{false, true} {
					r := node.Reply{E: api.Errno(e), Tail: tail, Sealed: is, Data: filled(9, size)}
					if e < 0 || e > 255 || tail < 0 || tail > 4096 || size > 65504 {
						checkNoPutReply(t, r)
						continue
					}
					checkPutReply(t, r, replyBytes(r, byte(sealed)))
					checkGetReply(t, replyBytes(r, byte(sealed)), r)
				}
			}
		}
	}
}

func TestBytesOfAReplyThatMayNotBe(t *testing.T) {
	for _, tail := range []int{api.MaxSlots + 1, 1<<16 - 1} {
		checkNoGetReply(t, replyBytes(node.Reply{Tail: tail}, 0))
	}
	checkNoGetReply(t, replyBytes(node.Reply{Data: filled(1, maxData+1)}, 0))
	checkNoGetReply(t, replyBytes(node.Reply{Data: filled(1, api.MaxBytes-4)}, 1))
	for sealed := 2; sealed < 256; sealed++ {
		checkNoGetReply(t, replyBytes(node.Reply{Tail: 1, Data: []byte("a")}, byte(sealed)))
	}
}

func TestBytesThatAreNoReply(t *testing.T) {
	body := []byte{0, 1, 0, 1, 'a'}
	whole := frame(2, body)
	checkGetReply(t, whole, node.Reply{Tail: 1, Sealed: true, Data: []byte("a")})
	for n := range len(whole) {
		checkNoGetReply(t, whole[:n])
	}
	for n := range 4 {
		checkNoGetReply(t, frame(2, body[:n]))
	}
	for kind := range 256 {
		if kind != 2 {
			checkNoGetReply(t, frame(byte(kind), body))
		}
	}
	for i := range whole {
		for bit := range 8 {
			turned := slices.Clone(whole)
			turned[i] ^= 1 << bit
			checkNoGetReply(t, turned)
		}
	}
	checkNoGetReply(t, append(slices.Clone(whole), 0))
	checkNoGetReply(t, slices.Concat(whole, whole))
	checkNoGetReply(t, append([]byte{0}, whole...))
	checkNoGetReply(t, make([]byte, 1<<17))
}

// P506

// TestBytesThatAreGot puts again whatever bytes are got: bodies are such that most of them are near to one that may be.
func TestBytesThatAreGot(t *testing.T) {
	r := rand.New(rand.NewPCG(5, 6))
	requests, replies := 0, 0
	for range 20000 {
		body := make([]byte, r.IntN(14))
		for i := range body {
			body[i] = byte(r.IntN(18))
		}
		b := frame(byte(1+r.IntN(2)), body)
		if q, e := node.GetRequest(b); e == api.OK {
			requests++
			checkPutRequest(t, q, b)
		}
		if p, e := node.GetReply(b); e == api.OK {
			replies++
			checkPutReply(t, p, b)
		}
	}
	if requests < 100 || replies < 100 {
		t.Errorf("only %d requests and %d replies were got", requests, replies)
	}
}

// P501

// roomy answers data with room behind it that is not zeros.
func roomy(data string) []byte {
	b := []byte(data + "room behind")
	return b[:len(data)]
}

func checkRoom(t *testing.T, b []byte, data string) {
	t.Helper()
	if got := string(b[:len(data)+len("room behind")]); got != data+"room behind" {
		t.Errorf("what was handed in is %q now", got)
	}
}

// spoil overwrites b and the room behind it.
func spoil(b []byte) {
	b = b[:cap(b)]
	for i := range b {
		b[i] ^= 255
	}
}

func TestBytesShareNothing(t *testing.T) {
	data := roomy("data")
	b, _ := node.PutRequest(node.Request{Kind: node.Write, Data: data})
	c, _ := node.PutReply(node.Reply{Data: data})
	checkRoom(t, data, "data")
	spoil(data)
	checkGetRequest(t, b, node.Request{Kind: node.Write, Data: []byte("data")})
	checkGetReply(t, c, node.Reply{Data: []byte("data")})
	spoil(b)
	spoil(c)
	spoil(data)
	checkRoom(t, data, "data")
}

func TestWhatIsGotSharesNothing(t *testing.T) {
	told := string(requestBytes(node.Request{Kind: node.Write, Data: []byte("data")}))
	b := roomy(told)
	r, _ := node.GetRequest(b)
	again, _ := node.GetRequest(b)
	checkRoom(t, b, told)
	spoil(b)
	spoil(again.Data)
	if string(r.Data) != "data" {
		t.Errorf("the request has %q now", r.Data)
	}
	spoil(b)
	spoil(r.Data)
	checkRoom(t, b, told)

	told = string(replyBytes(node.Reply{Data: []byte("data")}, 0))
	b = roomy(told)
	p, _ := node.GetReply(b)
	other, _ := node.GetReply(b)
	checkRoom(t, b, told)
	spoil(b)
	spoil(other.Data)
	if string(p.Data) != "data" {
		t.Errorf("the reply has %q now", p.Data)
	}
	spoil(b)
	spoil(p.Data)
	checkRoom(t, b, told)
}
