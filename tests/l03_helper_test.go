package tests

import (
	"slices"
	"testing"

	"loop.example/g01169/impl"
)

// The helpers turn flags by lists of all vertices, of which they take those
// that begin with the labels, and find least flags among all flags.

// upTo returns the numbers 0 to n - 1.
func upTo(n int64) []int64 {
	list := []int64{}
	for v := range n {
		list = append(list, v)
	}
	return list
}

// withOthers returns a list, and behind it those of n vertices that it does not
// have, ascending.
func withOthers(n int64, list []int64) []int64 {
	all := slices.Clone(list)
	for v := range n {
		if !slices.Contains(list, v) {
			all = append(all, v)
		}
	}
	return all
}

// everyFlag returns all flags with n vertices, least or not.
func everyFlag(n int64) []impl.Flag {
	var list []impl.Flag
	for k := range min(n, 3) + 1 {
		for _, g := range everyGraph(n) {
			list = append(list, impl.Flag{Labels: k, Graph: g})
		}
	}
	return list
}

// flagsUpTo returns everyFlag of all numbers of vertices up to n.
func flagsUpTo(n int64) []impl.Flag {
	var list []impl.Flag
	for k := range n + 1 {
		list = append(list, everyFlag(k)...)
	}
	return list
}

// labelStayers returns the orders of n vertices that leave the first k where
// they are.
func labelStayers(n, k int64) [][]int64 {
	var orders [][]int64
	for _, order := range listsWithout(n, n) {
		if slices.Equal(order[:k], upTo(k)) {
			orders = append(orders, order)
		}
	}
	return orders
}

// turned returns all flags that f becomes by some order of its unlabelled
// vertices, and by how many.
func turned(f impl.Flag) map[impl.Flag]int64 {
	found := map[impl.Flag]int64{}
	for _, order := range labelStayers(f.Graph.N, f.Labels) {
		found[impl.Flag{Labels: f.Labels, Graph: graphOn(f.Graph, order)}]++
	}
	return found
}

func leastFlagOf(f impl.Flag) impl.Flag {
	least := f
	for g := range turned(f) {
		if g.Graph.Edges < least.Graph.Edges {
			least = g
		}
	}
	return least
}

// leastFlagsOf returns all least flags of a type with n vertices, by a walk
// through all graphs.
func leastFlagsOf(typ impl.Graph, n int64) []impl.Flag {
	var list []impl.Flag
	for _, g := range everyGraph(n) {
		f := impl.Flag{Labels: typ.N, Graph: g}
		if graphOn(g, upTo(typ.N)) == typ && leastFlagOf(f) == f {
			list = append(list, f)
		}
	}
	return list
}

// withoutParts returns those flags that have none of the parts.
func withoutParts(flags []impl.Flag, forbidden []impl.Graph) []impl.Flag {
	var free []impl.Flag
	for _, f := range flags {
		if !slices.ContainsFunc(forbidden, func(h impl.Graph) bool { return contains(f.Graph, h) }) {
			free = append(free, f)
		}
	}
	return free
}

// everyType returns all types with up to three vertices.
func everyType() []impl.Graph { return graphsUpTo(3) }

// flag reads a flag from its text, by ReadGraph alone.
func flag(t *testing.T, labels int64, text string) impl.Flag {
	t.Helper()
	return impl.Flag{Labels: labels, Graph: made(t)(impl.ReadGraph(text))}
}

// graph reads a graph from what follows the word in its text.
func graph(t *testing.T, text string) impl.Graph {
	t.Helper()
	return made(t)(impl.ReadGraph("graph " + text))
}

// badFlags returns flags that are not valid.
func badFlags() []impl.Flag {
	list := []impl.Flag{
		{Labels: 1}, {Labels: -1}, {Labels: -1, Graph: impl.Graph{N: 3}}, {Labels: 2, Graph: impl.Graph{N: 1}}, {Labels: 3, Graph: impl.Graph{N: 2, Edges: 1}},
		{Labels: 4, Graph: impl.Graph{N: 3}}, {Labels: 4, Graph: impl.Graph{N: 4}}, {Labels: 4, Graph: impl.Graph{N: 5, Edges: 1023}}, {Labels: 5, Graph: impl.Graph{N: 5}},
		{Labels: -1 << 63, Graph: impl.Graph{N: 5}}, {Labels: 1<<63 - 1, Graph: impl.Graph{N: 5}}, {Labels: 1 << 32, Graph: impl.Graph{N: 5}},
	}
	for _, g := range badGraphs() {
		list = append(list, impl.Flag{Graph: g}, impl.Flag{Labels: 1, Graph: g}, impl.Flag{Labels: 3, Graph: g})
	}
	return list
}

// checkFlag fails unless a call has returned a flag, or the zero flag with a
// code that is not OK.
func checkFlag(t *testing.T, call string, got impl.Flag, code int64, want impl.Flag, wantCode int64) {
	t.Helper()
	if got != want || code != wantCode {
		t.Errorf("%s: %v, code %d, want %v, code %d", call, got, code, want, wantCode)
	}
}

// checkFlags does so for a list of flags.
func checkFlags(t *testing.T, call string, got []impl.Flag, code int64, want []impl.Flag, wantCode int64) {
	t.Helper()
	if !slices.Equal(got, want) || code != wantCode {
		t.Errorf("%s: %d flags %v, code %d, want %d flags %v, code %d", call, len(got), got, code, len(want), want, wantCode)
	}
}

// forbiddenLists returns lists of parts that can be forbidden, from none to
// MaxForbidden of them.
func forbiddenLists(t *testing.T) [][]impl.Graph {
	t.Helper()
	triangle, star := graph(t, "3 0-1 0-2 1-2"), graph(t, "5 0-1 0-2 0-3 0-4")
	square, path := graph(t, "4 0-1 1-2 0-3 2-3"), graph(t, "5 0-2 1-2 1-3 0-4")
	return [][]impl.Graph{
		nil, {}, {{}}, {{N: 1}}, {{N: 2}}, {{N: 5}}, {{N: 2, Edges: 1}}, {{N: 3, Edges: 1}}, {{N: 3, Edges: 4}}, {triangle}, {square}, {star}, {path}, {square, triangle}, {triangle, triangle},
		{{N: 5, Edges: 1023}}, {graph(t, "5 0-1 0-2 1-2 0-3 0-4")}, {graph(t, "5 0-1 0-2 1-2 0-3 1-3 0-4"), graph(t, "5 0-1 1-2 0-3 2-3 0-4 1-4")},
		{{N: 5, Edges: 1023}, {N: 4, Edges: 63}, star, path, square, triangle}, times(star, impl.MaxForbidden),
	}
}
