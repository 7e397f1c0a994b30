package wire

import "gazette/api"

// place is how far a reading has come; it is never below 0.
type place struct {
	at int
}

// pass goes on by n bytes, if there are as many ahead of end. It takes away and does not add, so that the greatest int as a place can't wrap round.
func (p *place) pass(n, end int) bool {
	if n > end-p.at {
		return false
	}
	p.at += n
	return true
}

// reader goes through bytes from its place on.
type reader struct {
	place
	bytes []byte
}

// take answers a piece of the bytes themselves: what leaves the package must be a copy of it.
func (r *reader) take(n int) ([]byte, api.Errno) {
	from := r.at
	if !r.pass(n, len(r.bytes)) {
		return nil, api.ErrEnd
	}
	return r.bytes[from:r.at], api.OK
}

func (r *reader) number(size int) (int, api.Errno) {
	b, e := r.take(size)
	if e != api.OK {
		return 0, e
	}
	n := 0
	for i, x := range b {
		n |= int(x) << (8 * i)
	}
	return n, api.OK
}

func (r *reader) text() (string, api.Errno) {
	size, e := r.number(textSize)
	if e != api.OK {
		return "", e
	}
	b, e := r.take(size)
	return string(b), e
}

func (r *reader) frame() (kind int, body []byte, e api.Errno) {
	from := r.at
	kind, size, e := r.head()
	if e != api.OK {
		return 0, nil, e
	}
	piece, e := r.take(size)
	if e != api.OK {
		return 0, nil, e
	}
	told := r.bytes[from:r.at]
	sum, e := r.number(sumSize)
	if e != api.OK {
		return 0, nil, e
	}
	if sum != int(Crc(told)) {
		return 0, nil, api.ErrSum
	}
	return kind, join(piece), api.OK
}

// head reads a frame's kind and its body's length. A length that no frame may have is told ahead of bytes that are missing behind it.
func (r *reader) head() (kind, size int, e api.Errno) {
	kind, e = r.number(kindSize)
	if e != api.OK {
		return 0, 0, e
	}
	size, e = r.number(bodySize)
	if e != api.OK {
		return 0, 0, e
	}
	if size > api.MaxBytes {
		return 0, 0, api.ErrForm
	}
	return kind, size, api.OK
}
