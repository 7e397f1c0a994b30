package producer

import (
	"iter"

	"gazette/api"
)

// window has a producer's last batches. It turns round: where it is full, the newest one takes the oldest one's place.
type window struct {
	batches [api.Window]Done
	oldest  int
	count   int
}

func (w *window) add(d Done) {
	w.batches[w.place(w.count)] = d
	if w.count < len(w.batches) {
		w.count++
	} else {
		w.oldest = w.place(1)
	}
}

// all goes through the batches, the oldest one first.
func (w *window) all() iter.Seq[Done] {
	return func(yield func(Done) bool) {
		for i := range w.count {
			if !yield(w.batches[w.place(i)]) {
				return
			}
		}
	}
}

// find looks for a batch by its first number, and by how many it has.
func (w *window) find(seq, length int) (Done, bool) {
	for d := range w.all() {
		if d.Seq == seq && d.Len == length {
			return d, true
		}
	}
	return Done{}, false
}

// place tells where the batch lies that came i behind the oldest one.
func (w *window) place(i int) int { return (w.oldest + i) % len(w.batches) }
