package prefix

import (
	"container/heap"
	"slices"
	"sort"

	"petrinet/process"
)

// extension is a possible extension.
type extension struct {
	trans int
	pre   []int
	// causes has the causes of its event, but for this itself, and level is its level.
	causes process.Set
	level  int
	// key is compared lexicographically with those of other extensions.
	key []int
}

// order makes the key from the Foata form of the causes, whose levels it sorts. adequate.Compare compares the number of the events, the transitions, and then the lengths and the transitions of the levels: the key lists all of these, and at the end the pair of the extension.
func (x *extension) order(form [][]int) {
	transitions := slices.Concat(form...)
	slices.Sort(transitions)
	x.key = append([]int{len(transitions)}, transitions...)
	for _, level := range form {
		slices.Sort(level)
		x.key = append(append(x.key, len(level)), level...)
	}
	x.key = append(append(x.key, x.trans), x.pre...)
}

// extensions are ordered by their keys.
type extensions []extension

func (l extensions) Len() int           { return len(l) }
func (l extensions) Less(i, j int) bool { return slices.Compare(l[i].key, l[j].key) < 0 }
func (l extensions) Swap(i, j int)      { l[i], l[j] = l[j], l[i] }

// queue is a heap of extensions with the least one first.
type queue struct {
	extensions
	// needed bounds the number of extensions that will be taken out.
	needed int
}

// Push is called by package heap.
func (q *queue) Push(x any) {
	q.extensions = append(q.extensions, x.(extension))
}

// Pop is called by package heap.
func (q *queue) Pop() any {
	last := q.Len() - 1
	x := q.extensions[last]
	q.drop(last)
	return x
}

// drop drops the extensions from an index on.
func (q *queue) drop(from int) {
	clear(q.extensions[from:])
	q.extensions = q.extensions[:from]
}

// insert inserts an extension. Many conditions that are concurrent can have far more extensions than are needed.
func (q *queue) insert(x extension) {
	heap.Push(q, x)
	if q.Len() > 2*q.needed {
		// A sorted list is a heap.
		sort.Sort(q)
		q.drop(q.needed)
	}
}

// least takes out the least extension, of which there must be one.
func (q *queue) least() extension {
	return heap.Pop(q).(extension)
}
