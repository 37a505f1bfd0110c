// Package digraph is layer 7: directed graphs. See shared/doc/07-digraph.md.
package digraph

import (
	"container/heap"
	"slices"
)

// deepest bounds the depth of recursion: a graph may be one path of millions of vertices, and the stack is finite.
const deepest = 1 << 12

// Valid reports whether every element is a vertex and every list is in strictly ascending order.
func Valid(g [][]int) bool {
	for _, successors := range g {
		for i, w := range successors {
			if !isVertex(g, w) || i > 0 && successors[i-1] >= w {
				return false
			}
		}
	}
	return true
}

func isVertex(g [][]int, v int) bool {
	return 0 <= v && v < len(g)
}

// Reverse returns the lists of predecessors, each in strictly ascending order.
func Reverse(g [][]int) [][]int {
	back := make([][]int, len(g))
	for v, successors := range g {
		for _, w := range successors {
			if !isVertex(g, w) {
				continue
			}
			if n := len(back[w]); n == 0 || back[w][n-1] != v {
				back[w] = append(back[w], v)
			}
		}
	}
	return back
}

// Reach reports for each vertex whether there is a path to it from one of the given vertices.
func Reach(g [][]int, from ...int) []bool {
	seen := make([]bool, len(g))
	var later []int
	var visit func(v, depth int)
	visit = func(v, depth int) {
		if !isVertex(g, v) || seen[v] {
			return
		}
		if depth == deepest {
			later = append(later, v)
			return
		}
		seen[v] = true
		for _, w := range g[v] {
			visit(w, depth+1)
		}
	}
	for _, v := range from {
		visit(v, 0)
	}
	for len(later) > 0 {
		v := later[len(later)-1]
		later = later[:len(later)-1]
		visit(v, 0)
	}
	return seen
}

// Cyclic reports whether there is a path of length 1 or more from v to v.
func Cyclic(g [][]int, v int) bool {
	return isVertex(g, v) && Reach(g, g[v]...)[v]
}

// Components returns for each vertex the least vertex of its strongly connected component.
func Components(g [][]int) []int {
	least := make([]int, len(g))
	assigned := make([]bool, len(g))
	back := Reverse(g)
	for _, root := range slices.Backward(finished(g)) {
		if assigned[root] {
			continue
		}
		assigned[root] = true
		members := []int{root}
		for i := 0; i < len(members); i++ {
			for _, w := range back[members[i]] {
				if !assigned[w] {
					assigned[w] = true
					members = append(members, w)
				}
			}
		}
		leader := slices.Min(members)
		for _, v := range members {
			least[v] = leader
		}
	}
	return least
}

// finished returns the vertices in the order in which a depth-first search leaves them. It does not recurse, as the order would not survive a search that is cut into pieces.
func finished(g [][]int) []int {
	var order, path []int
	seen := make([]bool, len(g))
	next := make([]int, len(g))
	enter := func(v int) {
		seen[v] = true
		path = append(path, v)
	}
	for root := range g {
		if seen[root] {
			continue
		}
		enter(root)
	walk:
		for len(path) > 0 {
			v := path[len(path)-1]
			for next[v] < len(g[v]) {
				w := g[v][next[v]]
				next[v]++
				if isVertex(g, w) && !seen[w] {
					enter(w)
					continue walk
				}
			}
			path = path[:len(path)-1]
			order = append(order, v)
		}
	}
	return order
}

// Bottom returns the least vertices, in ascending order, of the components that no edge leaves.
func Bottom(g [][]int) []int {
	component := Components(g)
	left := make([]bool, len(g))
edges:
	for v, successors := range g {
		for _, w := range successors {
			if isVertex(g, w) && component[w] != component[v] {
				left[component[v]] = true
				continue edges
			}
		}
	}
	var bottom []int
	for v := range g {
		if component[v] == v && !left[v] {
			bottom = append(bottom, v)
		}
	}
	return bottom
}

// Topo returns all vertices in an order in which every edge leads forward, always the least possible vertex next; an empty slice and false if there is a cycle.
func Topo(g [][]int) ([]int, bool) {
	back := Reverse(g)
	missing := make([]int, len(g))
	free := &queue{}
	for v := range g {
		missing[v] = len(back[v])
		if missing[v] == 0 {
			heap.Push(free, v)
		}
	}
	// Reversed twice, the lists are rid of the elements that are ignored.
	followers := Reverse(back)
	var order []int
	for free.Len() > 0 {
		v := heap.Pop(free).(int)
		order = append(order, v)
		for _, w := range followers[v] {
			missing[w]--
			if missing[w] == 0 {
				heap.Push(free, w)
			}
		}
	}
	if len(order) < len(g) {
		return nil, false
	}
	return order, true
}

// queue is a heap of vertices with the least one first.
type queue []int

func (q queue) Len() int           { return len(q) }
func (q queue) Less(i, j int) bool { return q[i] < q[j] }
func (q queue) Swap(i, j int)      { q[i], q[j] = q[j], q[i] }

func (q *queue) Push(x any) {
	*q = append(*q, x.(int))
}

func (q *queue) Pop() any {
	last := len(*q) - 1
	v := (*q)[last]
	*q = (*q)[:last]
	return v
}

// Path returns the lexicographically least of the shortest paths from from to to, and true; an empty slice and false if there is none.
func Path(g [][]int, from, to int) ([]int, bool) {
	if !isVertex(g, from) || !isVertex(g, to) {
		return nil, false
	}
	distance := distances(g, to)
	if distance[from] < 0 {
		return nil, false
	}
	path := []int{from}
	for v := from; v != to; {
		next := len(g)
		for _, w := range g[v] {
			if isVertex(g, w) && distance[w] == distance[v]-1 {
				next = min(next, w)
			}
		}
		path = append(path, next)
		v = next
	}
	return path, true
}

// distances returns for each vertex the length of a shortest path to the vertex to, or -1 if there is none.
func distances(g [][]int, to int) []int {
	back := Reverse(g)
	distance := make([]int, len(g))
	for v := range distance {
		distance[v] = -1
	}
	distance[to] = 0
	reached := []int{to}
	for i := 0; i < len(reached); i++ {
		v := reached[i]
		for _, w := range back[v] {
			if distance[w] < 0 {
				distance[w] = distance[v] + 1
				reached = append(reached, w)
			}
		}
	}
	return distance
}
