package audit

import "iter"

// flow has the check of a workflow net: whether it is sound by its own behavior, and by that of its closed net.
type flow struct {
	own, closed bool
}

// sound yields 0 if the two disagree.
func (f flow) sound() iter.Seq[int] {
	return when(f.own != f.closed)
}
