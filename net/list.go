package net

import "slices"

// list keeps its members in the order in which they came, whichever are taken.
type list[T any] struct {
	members []T
}

func (l *list[T]) count() int { return len(l.members) }

func (l *list[T]) has(k int) bool { return k >= 0 && k < len(l.members) }

func (l *list[T]) at(k int) T { return l.members[k] }

func (l *list[T]) add(more ...T) { l.members = append(l.members, more...) }

// take moves the shorter side: most are taken at one of the ends, and a long list makes that no dearer.
func (l *list[T]) take(k int) T {
	x := l.members[k]
	if k < len(l.members)/2 {
		copy(l.members[1:], l.members[:k])
		clear(l.members[:1])
		l.members = l.members[1:]
	} else {
		l.members = slices.Delete(l.members, k, k+1)
	}
	return x
}
