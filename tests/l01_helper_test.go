package tests

import (
	"slices"
	"testing"

	"loop.example/g01169/impl"
)

// The helpers count bits, orders and sets in ways of their own, so that a
// mistake of the program is not repeated by what checks it.

// bitOf returns the bit of a pair, looked up in a list of all pairs that is
// written out in the order of the document.
func bitOf(i, j int64) uint32 {
	pairs := [][2]int64{{0, 1}, {0, 2}, {1, 2}, {0, 3}, {1, 3}, {2, 3}, {0, 4}, {1, 4}, {2, 4}, {3, 4}}
	if i > j {
		i, j = j, i
	}
	return 1 << slices.Index(pairs, [2]int64{i, j})
}

func bitsOf(n int64) int64 {
	return []int64{0, 0, 1, 3, 6, 10}[n]
}

func hasBit(g impl.Graph, i, j int64) bool {
	return g.Edges&bitOf(i, j) != 0
}

// everyGraph returns all graphs with n vertices, with every set of edges.
func everyGraph(n int64) []impl.Graph {
	var list []impl.Graph
	for edges := range uint32(1) << bitsOf(n) {
		list = append(list, impl.Graph{N: n, Edges: edges})
	}
	return list
}

// graphsUpTo returns everyGraph of all numbers of vertices up to n.
func graphsUpTo(n int64) []impl.Graph {
	var list []impl.Graph
	for k := range n + 1 {
		list = append(list, everyGraph(k)...)
	}
	return list
}

// listsWithout returns all lists of k different numbers less than n.
func listsWithout(n, k int64) [][]int64 {
	if k == 0 {
		return [][]int64{{}}
	}
	var lists [][]int64
	for _, list := range listsWithout(n, k-1) {
		for v := range n {
			if !slices.Contains(list, v) {
				lists = append(lists, append(slices.Clone(list), v))
			}
		}
	}
	return lists
}

// setsOfVertices returns those of listsWithout that are ascending.
func setsOfVertices(n, k int64) [][]int64 {
	var sets [][]int64
	for _, list := range listsWithout(n, k) {
		if slices.IsSorted(list) {
			sets = append(sets, list)
		}
	}
	return sets
}

// graphOn returns the graph on a list of vertices, pair by pair.
func graphOn(g impl.Graph, list []int64) impl.Graph {
	made := impl.Graph{N: int64(len(list))}
	for i := range list {
		for j := range i {
			if hasBit(g, list[i], list[j]) {
				made.Edges += bitOf(int64(i), int64(j))
			}
		}
	}
	return made
}

// renamings returns all graphs that g becomes by some order.
func renamings(g impl.Graph) map[impl.Graph]int64 {
	found := map[impl.Graph]int64{}
	for _, order := range listsWithout(g.N, g.N) {
		found[graphOn(g, order)]++
	}
	return found
}

func leastOf(g impl.Graph) impl.Graph {
	least := g
	for h := range renamings(g) {
		if h.Edges < least.Edges {
			least = h
		}
	}
	return least
}

// contains reports whether g has h as a part.
func contains(g, h impl.Graph) bool {
	if h.N > g.N {
		return false
	}
	for _, list := range listsWithout(g.N, h.N) {
		if part := graphOn(g, list); part.Edges&h.Edges == h.Edges {
			return true
		}
	}
	return false
}

func mustGraph(t *testing.T, n int64, pairs ...[2]int64) impl.Graph {
	t.Helper()
	g, code := impl.GraphOf(n, pairs)
	if code != impl.OK {
		t.Fatalf("GraphOf %d %v: code %d", n, pairs, code)
	}
	return g
}

// made returns the graph of a call that has to succeed.
func made(t *testing.T) func(g impl.Graph, code int64) impl.Graph {
	return func(g impl.Graph, code int64) impl.Graph {
		t.Helper()
		if code != impl.OK || !impl.ValidGraph(g) {
			t.Fatalf("got %v and code %d", g, code)
		}
		return g
	}
}

// badGraphs returns graphs that are not valid.
func badGraphs() []impl.Graph {
	return []impl.Graph{
		{N: -1}, {N: impl.MaxVertices + 1}, {N: -1 << 63}, {N: 1<<63 - 1}, {N: -1, Edges: 1},
		{N: 0, Edges: 1}, {N: 1, Edges: 1}, {N: 2, Edges: 2}, {N: 2, Edges: 3}, {N: 3, Edges: 8},
		{N: 4, Edges: 64}, {N: 5, Edges: 1024}, {N: 5, Edges: 1<<32 - 1}, {N: 3, Edges: 1 << 31},
	}
}

// times returns a list in which a graph comes some times.
func times(g impl.Graph, n int) []impl.Graph {
	return slices.Repeat([]impl.Graph{g}, n)
}
