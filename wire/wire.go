// Package wire is layer 1: numbers, texts and frames as bytes, and their sum.
package wire

import "gazette/api"

const (
	kindSize = 1
	bodySize = 4
	headSize = kindSize + bodySize // what stands ahead of a frame's body
	sumSize  = 4
	textSize = 2 // the bytes that say how long a text is

	maxSize = 6 // the most bytes a number may have
	maxText = 1<<(8*textSize) - 1
	maxKind = 1<<(8*kindSize) - 1
)

// Put tells n in size bytes, the lowest first.
func Put(n, size int) ([]byte, api.Errno) {
	if !isSize(size) {
		return nil, api.ErrArg
	}
	if n < 0 || n >= 1<<(8*size) {
		return nil, api.ErrRange
	}
	return spell(n, size), api.OK
}

// Get reads the number of size bytes that stands in b from at on.
func Get(b []byte, at, size int) (n, to int, e api.Errno) {
	if !isSize(size) || at < 0 {
		return 0, 0, api.ErrArg
	}
	r := reader{place{at}, b}
	n, e = r.number(size)
	if e != api.OK {
		return 0, 0, e
	}
	return n, r.at, api.OK
}

// Text tells s, and ahead of it how many bytes it has.
func Text(s string) ([]byte, api.Errno) {
	if len(s) > maxText {
		return nil, api.ErrSize
	}
	return join(spell(len(s), textSize), []byte(s)), api.OK
}

// GetText reads the text that stands in b from at on.
func GetText(b []byte, at int) (s string, to int, e api.Errno) {
	if at < 0 {
		return "", 0, api.ErrArg
	}
	r := reader{place{at}, b}
	s, e = r.text()
	if e != api.OK {
		return "", 0, e
	}
	return s, r.at, api.OK
}

// Frame tells kind and body, with a sum by which Unframe sees whether they are still the same.
func Frame(kind int, body []byte) ([]byte, api.Errno) {
	if kind < 0 || kind > maxKind {
		return nil, api.ErrArg
	}
	if len(body) > api.MaxBytes {
		return nil, api.ErrSize
	}
	told := join(spell(kind, kindSize), spell(len(body), bodySize), body)
	return join(told, spell(int(Crc(told)), sumSize)), api.OK
}

// Unframe reads the frame that stands in b from at on.
func Unframe(b []byte, at int) (kind int, body []byte, to int, e api.Errno) {
	if at < 0 {
		return 0, nil, 0, api.ErrArg
	}
	r := reader{place{at}, b}
	kind, body, e = r.frame()
	if e != api.OK {
		return 0, nil, 0, e
	}
	return kind, body, r.at, api.OK
}

func isSize(size int) bool { return size >= 1 && size <= maxSize }

// spell takes only an n that has room in size bytes: its callers have looked.
func spell(n, size int) []byte {
	b := make([]byte, size)
	for i := range b {
		b[i] = byte(n >> (8 * i))
	}
	return b
}

// join answers new memory even for a single part: nothing that leaves the package may share its room with an argument.
func join(parts ...[]byte) []byte {
	size := 0
	for _, p := range parts {
		size += len(p)
	}
	all := make([]byte, 0, size)
	for _, p := range parts {
		all = append(all, p...)
	}
	return all
}
