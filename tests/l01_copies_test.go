package tests

import (
	"slices"
	"testing"

	"loop.example/g01169/impl"
)

// Promise 3: the copies of all graphs of a size are all sets of vertices; free
// graphs have none of the parts.

func TestCopiesOfAllGraphsAreAllSets(t *testing.T) {
	for _, g := range graphsUpTo(5) {
		for k := range int64(6) {
			all, code := impl.AllGraphs(k)
			if code != impl.OK {
				t.Fatalf("AllGraphs %d: code %d", k, code)
			}
			want := map[impl.Graph]int64{}
			for _, set := range setsOfVertices(g.N, k) {
				want[leastOf(graphOn(g, set))]++
			}
			var sum int64
			for _, h := range all {
				got, code := impl.CountCopies(h, g)
				if code != impl.OK || got != want[h] {
					t.Fatalf("CountCopies %v in %v: %d, code %d, want %d", h, g, got, code, want[h])
				}
				sum += got
			}
			if sum != int64(len(setsOfVertices(g.N, k))) {
				t.Fatalf("%v has %d copies of graphs with %d vertices", g, sum, k)
			}
		}
	}
}

// The sets are counted from a table here, so that the sum above cannot go
// wrong together with the list of sets.
func TestNumbersOfSets(t *testing.T) {
	rows := [][]int64{{1}, {1, 1}, {1, 2, 1}, {1, 3, 3, 1}, {1, 4, 6, 4, 1}, {1, 5, 10, 10, 5, 1}}
	for n, row := range rows {
		for k := range 6 {
			var want int64
			if k < len(row) {
				want = row[k]
			}
			empty, one := impl.CountCopies(impl.Graph{N: int64(k)}, impl.Graph{N: int64(n)})
			full, two := impl.CountCopies(made(t)(impl.CompleteGraph(int64(k))), made(t)(impl.CompleteGraph(int64(n))))
			if empty != want || full != want || one != impl.OK || two != impl.OK {
				t.Errorf("%d vertices in %d: %d and %d copies, codes %d %d, want %d", k, n, empty, full, one, two, want)
			}
		}
	}
}

func TestCopiesDoNotDependOnTheNames(t *testing.T) {
	cycle := made(t)(impl.CycleGraph(5))
	for h := range renamings(made(t)(impl.PathGraph(3))) {
		for g := range renamings(cycle) {
			if got, code := impl.CountCopies(h, g); code != impl.OK || got != 5 {
				t.Errorf("CountCopies %v in %v: %d, code %d, want 5", h, g, got, code)
			}
		}
	}
	triangle := made(t)(impl.CompleteGraph(3))
	if got, code := impl.CountCopies(made(t)(impl.PathGraph(3)), triangle); code != impl.OK || got != 0 {
		t.Errorf("paths in a triangle: %d, code %d: copies have no other edges", got, code)
	}
}

func TestParts(t *testing.T) {
	for _, g := range graphsUpTo(4) {
		for _, h := range graphsUpTo(4) {
			if got, code := impl.HasPart(g, h); code != impl.OK || got != contains(g, h) {
				t.Fatalf("HasPart %v in %v: %v, code %d, want %v", h, g, got, code, contains(g, h))
			}
		}
	}
	all, _ := impl.AllGraphs(5)
	for _, g := range all {
		for _, h := range append(slices.Clone(all), everyGraph(3)...) {
			if got, code := impl.HasPart(g, h); code != impl.OK || got != contains(g, h) {
				t.Fatalf("HasPart %v in %v: %v, code %d, want %v", h, g, got, code, contains(g, h))
			}
		}
	}
	if got, code := impl.HasPart(made(t)(impl.CompleteGraph(5)), made(t)(impl.CycleGraph(4))); code != impl.OK || !got {
		t.Errorf("the complete graph has the cycle as a part, others may be joined, too: %v, code %d", got, code)
	}
	if got, code := impl.HasPart(impl.Graph{N: 3}, impl.Graph{N: 4}); code != impl.OK || got {
		t.Errorf("a part has no more vertices: %v, code %d", got, code)
	}
}

func TestFreeGraphsHaveNoneOfTheParts(t *testing.T) {
	triangle, path := made(t)(impl.CompleteGraph(3)), made(t)(impl.PathGraph(4))
	star, edge := made(t)(impl.StarGraph(4)), made(t)(impl.CompleteGraph(2))
	square, large := made(t)(impl.CycleGraph(4)), made(t)(impl.CycleGraph(5))
	for _, forbidden := range [][]impl.Graph{
		nil, {}, {triangle}, {triangle, triangle}, {path}, {star}, {edge}, {square, triangle}, {large}, {path, star}, {{N: 1}}, {{}}, {{N: 5}}, {{N: 4}, large},
		{{N: 3, Edges: 4}}, {large, square, star, path, {N: 5, Edges: 1023}, triangle},
	} {
		for n := range int64(6) {
			checkFree(t, n, forbidden)
		}
	}
}

func checkFree(t *testing.T, n int64, forbidden []impl.Graph) {
	t.Helper()
	all, _ := impl.AllGraphs(n)
	var want []impl.Graph
	for _, g := range all {
		free := !slices.ContainsFunc(forbidden, func(h impl.Graph) bool { return contains(g, h) })
		if got, code := impl.IsFree(g, forbidden); code != impl.OK || got != free {
			t.Errorf("IsFree %v of %v: %v, code %d, want %v", g, forbidden, got, code, free)
		}
		if free {
			want = append(want, g)
		}
	}
	if got, code := impl.FreeGraphs(n, forbidden); code != impl.OK || !slices.Equal(got, want) {
		t.Errorf("FreeGraphs %d of %v: %v, code %d, want %v", n, forbidden, got, code, want)
	}
}

func TestNumbersOfFreeGraphs(t *testing.T) {
	triangle := made(t)(impl.CompleteGraph(3))
	for n, want := range []int{1, 1, 2, 3, 7, 14} {
		if free, code := impl.FreeGraphs(int64(n), []impl.Graph{triangle}); code != impl.OK || len(free) != want {
			t.Errorf("%d graphs with %d vertices are free of triangles, code %d, want %d", len(free), n, code, want)
		}
	}
	for n := range int64(6) {
		if free, code := impl.FreeGraphs(n, []impl.Graph{{}}); code != impl.OK || len(free) > 0 {
			t.Errorf("every graph has the part without vertices: %v, code %d", free, code)
		}
	}
}

func TestErrorsOfForbiddenLists(t *testing.T) {
	good, edge := impl.Graph{N: 3, Edges: 1}, impl.Graph{N: 2, Edges: 1}
	most, over := times(edge, impl.MaxForbidden), times(edge, impl.MaxForbidden+1)
	if free, code := impl.IsFree(impl.Graph{N: 3}, most); code != impl.OK || !free {
		t.Errorf("IsFree of %d parts: %v, code %d", len(most), free, code)
	}
	if free, code := impl.FreeGraphs(3, most); code != impl.OK || len(free) != 1 {
		t.Errorf("FreeGraphs of %d parts: %v, code %d", len(most), free, code)
	}
	if free, code := impl.IsFree(impl.Graph{N: 3}, over); code != impl.ErrLimit || free {
		t.Errorf("IsFree of %d parts: %v, code %d, want ErrLimit", len(over), free, code)
	}
	for _, n := range []int64{3, -1, 6} {
		if free, code := impl.FreeGraphs(n, over); code != impl.ErrLimit || len(free) > 0 {
			t.Errorf("FreeGraphs %d of %d parts: %v, code %d, want ErrLimit", n, len(over), free, code)
		}
	}
	for _, n := range []int64{-1, 6, -1 << 63, 1<<63 - 1} {
		if free, code := impl.FreeGraphs(n, most); code != impl.ErrRange || len(free) > 0 {
			t.Errorf("FreeGraphs %d: %v, code %d, want ErrRange", n, free, code)
		}
	}
	for _, bad := range badGraphs() {
		for _, list := range [][]impl.Graph{{bad}, {edge, bad}, append(slices.Clone(over), bad)} {
			if free, code := impl.IsFree(good, list); code != impl.ErrInvalid || free {
				t.Errorf("IsFree of %v: %v, code %d, want ErrInvalid", list, free, code)
			}
			if free, code := impl.FreeGraphs(-1, list); code != impl.ErrInvalid || len(free) > 0 {
				t.Errorf("FreeGraphs -1 of %v: %v, code %d, want ErrInvalid", list, free, code)
			}
		}
		if free, code := impl.IsFree(bad, over); code != impl.ErrInvalid || free {
			t.Errorf("IsFree of %v: %v, code %d, want ErrInvalid", bad, free, code)
		}
	}
}

func TestCopiesOfInvalidGraphs(t *testing.T) {
	for _, bad := range badGraphs() {
		for _, pair := range [][2]impl.Graph{{bad, {N: 2}}, {{N: 2}, bad}, {bad, bad}} {
			if n, code := impl.CountCopies(pair[0], pair[1]); code != impl.ErrInvalid || n != 0 {
				t.Errorf("CountCopies %v: %d, code %d, want ErrInvalid", pair, n, code)
			}
			if has, code := impl.HasPart(pair[0], pair[1]); code != impl.ErrInvalid || has {
				t.Errorf("HasPart %v: %v, code %d, want ErrInvalid", pair, has, code)
			}
		}
	}
}
