package assign

import (
	"cmp"
	"slices"
)

// deck has the cards that nobody has: they rise, and each of them is there once.
type deck[C cmp.Ordered] struct {
	cards []C
}

// partitions is a deck of all of them.
func partitions(parts int) *deck[int] {
	d := &deck[int]{}
	for part := range parts {
		d.cards = append(d.cards, part)
	}
	return d
}

// draw takes the n lowest cards: none, if n is below 0, and all, if there are fewer.
func (d *deck[C]) draw(n int) []C {
	n = min(max(n, 0), len(d.cards))
	drawn := slices.Clone(d.cards[:n])
	d.cards = d.cards[n:]
	return drawn
}

// pick takes those of the wanted cards that are still there, and answers them rising.
func (d *deck[C]) pick(wanted []C) []C {
	var picked []C
	for _, card := range wanted {
		if at, there := slices.BinarySearch(d.cards, card); there {
			d.cards = slices.Delete(d.cards, at, at+1)
			picked = append(picked, card)
		}
	}
	slices.Sort(picked)
	return picked
}
