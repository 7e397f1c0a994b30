package acceptor

import (
	"bytes"
	"slices"
	"testing"

	"gazette/api"
)

func mustAsk(t *testing.T, a *Acceptor, q Ask) {
	t.Helper()
	b, e := PutAsk(q)
	if e != api.OK {
		t.Fatalf("PutAsk(%v): %d", q, e)
	}
	if x, e := GetAnswer(a.Ask(b)); e != api.OK || x.E == api.ErrForm {
		t.Fatalf("Ask(%v): %v, %d", q, x, e)
	}
}

// keptBytes: all numbers here have one byte.
func keptBytes(version, promised, ballot, learned byte, value string) []byte {
	return append([]byte{version, 0, 0, 0, 0, 0, promised, 0, 0, 0, 0, 0, ballot, 0, 0, 0, 0, 0, learned}, value...)
}

// TestWhatIsKept looks into the store: a change is a place of its key's loglet, and what is no change is none.
func TestWhatIsKept(t *testing.T) {
	a, e := New(40)
	if e != api.OK {
		t.Fatalf("New: %d", e)
	}
	for _, q := range []Ask{
		{Kind: Query, Key: 7},
		{Kind: Prepare, Key: 7, Version: 1, Ballot: 5},
		{Kind: Prepare, Key: 7, Version: 1, Ballot: 5},
		{Kind: Accept, Key: 7, Version: 1, Ballot: 4, Value: []byte("a")},
		{Kind: Accept, Key: 7, Version: 1, Ballot: 6, Value: []byte("a")},
		{Kind: Accept, Key: 7, Version: 1, Ballot: 6, Value: []byte("a")},
		{Kind: Learn, Key: 3, Version: 9, Value: []byte("b")},
		{Kind: Learn, Key: 3, Version: 9, Value: []byte("c")},
		{Kind: Prepare, Key: 7, Version: 1, Ballot: 8},
		{Kind: Prepare, Key: 7, Version: 2, Ballot: 1},
		{Kind: Learn, Key: 7, Version: 1, Value: []byte("d")},
		{Kind: Accept, Key: 7, Version: 1, Ballot: 9, Value: []byte("d")},
		{Kind: Query, Key: 7},
	} {
		mustAsk(t, a, q)
	}
	want := map[int][][]byte{
		3: {keptBytes(9, 0, 1, 1, "b")},
		7: {
			keptBytes(1, 5, 0, 0, ""),
			keptBytes(1, 6, 6, 0, "a"),
			keptBytes(1, 8, 6, 0, "a"),
			keptBytes(2, 1, 0, 0, ""),
			keptBytes(1, 8, 6, 1, "d"),
		},
	}
	for range 2 {
		if got := a.store.Loglets(); !slices.Equal(got, []int{3, 7}) {
			t.Errorf("the store has the loglets %v", got)
		}
		for key, texts := range want {
			if got := a.store.Tail(key); got != len(texts) {
				t.Errorf("the key %d has %d places, not %d", key, got, len(texts))
			}
			for pos, text := range texts {
				if got, e := a.store.Get(key, pos); e != api.OK || !bytes.Equal(got, text) {
					t.Errorf("the key %d has at %d %x, %d, not %x", key, pos, got, e, text)
				}
			}
		}
		a.Stop()
		if e := a.Start(nil); e != api.OK {
			t.Fatalf("Start: %d", e)
		}
	}
}
