package tests

import (
	"fmt"
	"slices"
	"strings"
	"sync"
	"testing"

	"loop.example/g01169/impl"
)

// Promise 1, for chapter 1: every function returns for all arguments, modifies
// no argument, and returns equal results for equal arguments.

// calls1 calls every function of chapter 1, and returns all results.
func calls1(g, h impl.Graph, n, m int64, list []int64, pairs [][2]int64, forbidden []impl.Graph, text string) []any {
	var out []any
	add := func(results ...any) { out = append(out, results...) }
	add(impl.CodeName(n), impl.ValidGraph(g), impl.GraphText(g))
	two := func(value any, code int64) { add(value, code) }
	edge, code := impl.HasEdge(g, n, m)
	two(edge, code)
	for _, f := range []func() (impl.Graph, int64){
		func() (impl.Graph, int64) { return impl.WithEdge(g, n, m, true) },
		func() (impl.Graph, int64) { return impl.WithEdge(g, n, m, false) },
		func() (impl.Graph, int64) { return impl.GraphOf(n, pairs) },
		func() (impl.Graph, int64) { return impl.CompleteGraph(n) },
		func() (impl.Graph, int64) { return impl.CycleGraph(n) },
		func() (impl.Graph, int64) { return impl.PathGraph(n) },
		func() (impl.Graph, int64) { return impl.StarGraph(n) },
		func() (impl.Graph, int64) { return impl.OppositeGraph(g) },
		func() (impl.Graph, int64) { return impl.RenameGraph(g, list) },
		func() (impl.Graph, int64) { return impl.InducedOn(g, list) },
		func() (impl.Graph, int64) { return impl.LeastGraph(g) },
		func() (impl.Graph, int64) { return impl.ReadGraph(text) },
	} {
		graph, code := f()
		two(graph, code)
	}
	found, code := impl.PairsOf(g)
	two(found, code)
	degrees, code := impl.DegreesOf(g)
	two(degrees, code)
	alike, code := impl.AreAlike(g, h)
	two(alike, code)
	self, code := impl.CountSelf(g)
	two(self, code)
	all, code := impl.AllGraphs(n)
	two(all, code)
	index, code := impl.IndexOfGraph(g)
	two(index, code)
	copies, code := impl.CountCopies(h, g)
	two(copies, code)
	part, code := impl.HasPart(g, h)
	two(part, code)
	is, code := impl.IsFree(g, forbidden)
	two(is, code)
	free, code := impl.FreeGraphs(n, forbidden)
	two(free, code)
	return out
}

// withRoom returns a copy of a list, and the memory behind it: the copy, and
// some more elements in the unused capacity.
func withRoom[T any](list []T, more T) (part, whole []T) {
	whole = append(slices.Clone(list), more, more, more)
	return whole[:len(list)], whole
}

func TestCallsModifyNothingAndRepeat(t *testing.T) {
	graphs := append(badGraphs(), impl.Graph{}, impl.Graph{N: 1}, impl.Graph{N: 3, Edges: 5}, impl.Graph{N: 4, Edges: 63}, impl.Graph{N: 5, Edges: 0b1001101011})
	lists := [][]int64{nil, {0}, {2, 0, 1}, {3, 1, 0, 2}, {4, 3, 2, 1, 0}, {0, 0}, {-1}}
	pairs := [][][2]int64{nil, {{2, 1}, {0, 1}, {2, 1}}, {{0, 0}}, {{4, 0}, {3, 1}}}
	forbidden := [][]impl.Graph{nil, {{N: 3, Edges: 7}}, {{N: 3, Edges: 4}, {N: 2}}, times(impl.Graph{N: 4, Edges: 63}, 7), {{N: -1}}}
	texts := []string{"", "graph 3 1-2 0-1", "graph 3 0-1 1-2", "graph 5 3-4"}
	for i, g := range graphs {
		for n := int64(-1); n < 7; n++ {
			h, list, some := graphs[(i+int(n)+1)%len(graphs)], lists[(i+int(n)+1)%len(lists)], pairs[(i+int(n)+1)%len(pairs)]
			list, wholeList := withRoom(list, 77)
			some, wholePairs := withRoom(some, [2]int64{7, 7})
			without, wholeWithout := withRoom(forbidden[(i+int(n)+1)%len(forbidden)], impl.Graph{N: 7, Edges: 7})
			text := texts[(i+int(n)+1)%len(texts)]
			before := fmt.Sprint(wholeList, wholePairs, wholeWithout)
			first := fmt.Sprint(calls1(g, h, n, n/2, list, some, without, text))
			second := fmt.Sprint(calls1(g, h, n, n/2, list, some, without, text))
			if after := fmt.Sprint(wholeList, wholePairs, wholeWithout); before != after {
				t.Fatalf("arguments %s became %s", before, after)
			}
			if first != second {
				t.Fatalf("two results for %v: %s and %s", g, first, second)
			}
		}
	}
}

// Results are overwritten, to the end of their capacity: later ones do not
// change by it.
func TestResultsAreNewMemory(t *testing.T) {
	g := impl.Graph{N: 5, Edges: 0b1001101011}
	none := []impl.Graph{{N: 3, Edges: 7}}
	results := func() ([][2]int64, []int64, []impl.Graph, []impl.Graph) {
		pairs, _ := impl.PairsOf(g)
		degrees, _ := impl.DegreesOf(g)
		all, _ := impl.AllGraphs(4)
		free, _ := impl.FreeGraphs(4, none)
		return pairs, degrees, all, free
	}
	pairs, degrees, all, free := results()
	before := fmt.Sprint(results())
	overwrite(pairs, [2]int64{9, 9})
	overwrite(degrees, 99)
	overwrite(all, impl.Graph{N: 9})
	overwrite(free, impl.Graph{N: 8})
	if after := fmt.Sprint(results()); before != after {
		t.Errorf("results %s became %s", before, after)
	}
}

func overwrite[T any](list []T, with T) {
	list = list[:cap(list)]
	for i := range list {
		list[i] = with
	}
}

func TestCallsOfSeveralGoroutines(t *testing.T) {
	g, h, none := impl.Graph{N: 5, Edges: 0b1001101011}, impl.Graph{N: 3, Edges: 5}, []impl.Graph{{N: 3, Edges: 7}}
	checkGoroutines(t, func() string {
		return fmt.Sprint(calls1(g, h, 4, 2, []int64{4, 3, 2, 1, 0}, [][2]int64{{3, 0}}, none, "graph 2 0-1"))
	})
}

// checkGoroutines fails unless several goroutines get the result that one gets.
func checkGoroutines(t *testing.T, call func() string) {
	t.Helper()
	want := call()
	var group sync.WaitGroup
	for range 8 {
		group.Go(func() {
			if got := call(); got != want {
				t.Errorf("got %s, want %s", got, want)
			}
		})
	}
	group.Wait()
}

// The greatest arguments for which every function has to return.
func TestCallsOfGreatArguments(t *testing.T) {
	const many = 1000000
	g := impl.Graph{N: 5, Edges: 1023}
	if h, code := impl.GraphOf(5, slices.Repeat([][2]int64{{4, 3}}, many)); code != impl.OK || h.Edges != 512 {
		t.Errorf("GraphOf one pair many times: %v, code %d", h, code)
	}
	if h, code := impl.GraphOf(5, append(slices.Repeat([][2]int64{{4, 3}}, many-1), [2]int64{4, 4})); code != impl.ErrRange || h != (impl.Graph{}) {
		t.Errorf("GraphOf many pairs, the last one of one vertex: %v, code %d", h, code)
	}
	list := make([]int64, many)
	for i := range list {
		list[i] = int64(i)
	}
	if h, code := impl.RenameGraph(g, list); code != impl.ErrRange || h != (impl.Graph{}) {
		t.Errorf("RenameGraph by many: %v, code %d", h, code)
	}
	if h, code := impl.InducedOn(g, list); code != impl.ErrRange || h != (impl.Graph{}) {
		t.Errorf("InducedOn many: %v, code %d", h, code)
	}
	forbidden := times(g, many)
	if free, code := impl.IsFree(g, forbidden); code != impl.ErrLimit || free {
		t.Errorf("IsFree of many: %v, code %d", free, code)
	}
	forbidden[many-1].N = -1
	if free, code := impl.FreeGraphs(5, forbidden); code != impl.ErrInvalid || len(free) > 0 {
		t.Errorf("FreeGraphs of many, the last one not valid: %v, code %d", free, code)
	}
	for _, text := range []string{
		strings.Repeat(" ", many), "graph 3" + strings.Repeat(" 0-1", many/4), "graph " + strings.Repeat("0", many) + "3",
		"graph 3 " + strings.Repeat("-", many), "graph 3 0-1" + strings.Repeat("9", many), strings.Repeat("graph 3 ", many/8),
	} {
		if h, code := impl.ReadGraph(text); code != impl.ErrSyntax || h != (impl.Graph{}) {
			t.Errorf("ReadGraph of %d bytes: %v, code %d", len(text), h, code)
		}
	}
}
