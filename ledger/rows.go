package ledger

import (
	"cmp"
	"slices"
)

// choose answers those of list that stay, at most most of them, in new memory.
func choose[T any](list []T, most int, stays func(T) bool) []T {
	var chosen []T
	for _, x := range list {
		if len(chosen) == most {
			break
		}
		if stays(x) {
			chosen = append(chosen, x)
		}
	}
	return chosen
}

// staying tells which rows a Retain or a Compact leaves there.
func (l *Ledger) staying(x Entry) func(Row) bool {
	if x.Kind == Retain {
		return func(r Row) bool { return r.Offset >= x.N }
	}
	latest := map[string]int{}
	for _, r := range l.rows {
		if r.Offset < x.N && !l.isAborted(r) {
			latest[r.Record.Key] = r.Offset
		}
	}
	return func(r Row) bool {
		at, there := latest[r.Record.Key]
		return r.Offset >= x.N || there && at == r.Offset
	}
}

// rowsFrom answers a piece of the ledger's own rows: what leaves the package must be a copy of it.
func (l *Ledger) rowsFrom(offset int) []Row {
	at, _ := slices.BinarySearchFunc(l.rows, offset, func(r Row, offset int) int { return cmp.Compare(r.Offset, offset) })
	return l.rows[at:]
}

func isThere(Row) bool { return true }

func (l *Ledger) isCommitted(r Row) bool { return r.Offset < l.Stable() && !l.isAborted(r) }

func (l *Ledger) isAborted(r Row) bool {
	return r.InTxn && slices.ContainsFunc(l.aborted, func(g Gone) bool { return g.has(r) })
}

func (g Gone) has(r Row) bool {
	return r.Producer == g.Producer && r.Offset >= g.First && r.Offset <= g.Last
}
