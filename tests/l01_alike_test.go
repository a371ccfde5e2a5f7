package tests

import (
	"slices"
	"testing"

	"loop.example/g01169/impl"
)

// Promise 2, the second half: graphs are alike just if their least graphs are
// the same.

func TestRenaming(t *testing.T) {
	for _, g := range graphsUpTo(4) {
		for _, order := range listsWithout(g.N, g.N) {
			if got, code := impl.RenameGraph(g, order); code != impl.OK || got != graphOn(g, order) {
				t.Fatalf("RenameGraph %v %v: %v, code %d, want %v", g, order, got, code, graphOn(g, order))
			}
		}
	}
	// An order that is not its own reverse tells old numbers from new ones.
	path := mustGraph(t, 4, [2]int64{0, 1}, [2]int64{1, 2}, [2]int64{2, 3})
	want := mustGraph(t, 4, [2]int64{0, 1}, [2]int64{0, 2}, [2]int64{1, 3})
	if got, code := impl.RenameGraph(path, []int64{1, 2, 0, 3}); code != impl.OK || got != want {
		t.Errorf("RenameGraph by 1 2 0 3: %v, code %d, want %v", got, code, want)
	}
}

func TestRenamingRefuses(t *testing.T) {
	g := impl.Graph{N: 3, Edges: 5}
	for _, order := range [][]int64{
		nil, {}, {0}, {0, 1}, {0, 1, 2, 3}, {0, 1, 2, 2}, {0, 1, 1}, {0, 0, 0}, {0, 1, 3}, {-1, 0, 1}, {0, 1, -1}, {0, 1, 1 << 62}, {-1 << 63, 1, 2}, {0, 1, 2, 3, 4, 5},
	} {
		if h, code := impl.RenameGraph(g, order); code != impl.ErrRange || h != (impl.Graph{}) {
			t.Errorf("RenameGraph by %v: %v, code %d, want ErrRange", order, h, code)
		}
	}
	if h, code := impl.RenameGraph(impl.Graph{}, []int64{0}); code != impl.ErrRange || h != (impl.Graph{}) {
		t.Errorf("RenameGraph without vertices by 0: %v, code %d, want ErrRange", h, code)
	}
	if h, code := impl.RenameGraph(impl.Graph{}, nil); code != impl.OK || h != (impl.Graph{}) {
		t.Errorf("RenameGraph without vertices: %v, code %d", h, code)
	}
	for _, bad := range badGraphs() {
		for _, order := range [][]int64{nil, {0}, {0, 0, 9}} {
			one, first := impl.RenameGraph(bad, order)
			two, second := impl.InducedOn(bad, order)
			if first != impl.ErrInvalid || second != impl.ErrInvalid || one != (impl.Graph{}) || two != one {
				t.Errorf("%v by %v: codes %d and %d, want ErrInvalid", bad, order, first, second)
			}
		}
	}
}

func TestInduced(t *testing.T) {
	for _, g := range []impl.Graph{{N: 5, Edges: 0b1001101011}, {N: 5, Edges: 1023}, {N: 4, Edges: 0b110101}, {N: 1}, {}} {
		for k := range g.N + 1 {
			for _, list := range listsWithout(g.N, k) {
				if got, code := impl.InducedOn(g, list); code != impl.OK || got != graphOn(g, list) {
					t.Fatalf("InducedOn %v %v: %v, code %d, want %v", g, list, got, code, graphOn(g, list))
				}
			}
		}
	}
	for _, list := range [][]int64{{3}, {-1}, {0, 0}, {2, 1, 2}, {0, 1, 2, 0}, {0, 1, 2, 3}, {1 << 40}, {0, -1 << 63}} {
		if h, code := impl.InducedOn(impl.Graph{N: 3, Edges: 5}, list); code != impl.ErrRange || h != (impl.Graph{}) {
			t.Errorf("InducedOn %v: %v, code %d, want ErrRange", list, h, code)
		}
	}
	if h, code := impl.InducedOn(impl.Graph{}, []int64{0}); code != impl.ErrRange || h != (impl.Graph{}) {
		t.Errorf("InducedOn 0 without vertices: %v, code %d, want ErrRange", h, code)
	}
}

func TestLeastGraphsAndSelves(t *testing.T) {
	for _, g := range graphsUpTo(5) {
		same := renamings(g)
		if got, code := impl.LeastGraph(g); code != impl.OK || got != leastOf(g) {
			t.Fatalf("LeastGraph %v: %v, code %d, want %v", g, got, code, leastOf(g))
		}
		if got, code := impl.CountSelf(g); code != impl.OK || got != same[g] {
			t.Fatalf("CountSelf %v: %d, code %d, want %d", g, got, code, same[g])
		}
	}
	for n, want := range []int64{1, 1, 2, 6, 24, 120} {
		for _, g := range []impl.Graph{{N: int64(n)}, made(t)(impl.CompleteGraph(int64(n)))} {
			if got, code := impl.CountSelf(g); code != impl.OK || got != want {
				t.Errorf("CountSelf %v: %d, code %d, want %d", g, got, code, want)
			}
		}
	}
}

func TestAlikeJustIfLeastGraphsAreTheSame(t *testing.T) {
	for _, g := range graphsUpTo(4) {
		same := renamings(g)
		for _, h := range graphsUpTo(4) {
			checkAlike(t, g, h, same[h] > 0)
		}
	}
	var least []impl.Graph
	for _, g := range everyGraph(5) {
		if leastOf(g) == g {
			least = append(least, g)
		}
	}
	for _, h := range least {
		same := renamings(h)
		for _, g := range everyGraph(5) {
			checkAlike(t, g, h, same[g] > 0)
		}
	}
}

func checkAlike(t *testing.T, g, h impl.Graph, want bool) {
	t.Helper()
	alike, one := impl.AreAlike(g, h)
	first, two := impl.LeastGraph(g)
	second, three := impl.LeastGraph(h)
	if one != impl.OK || two != impl.OK || three != impl.OK || alike != want || want != (first == second) {
		t.Fatalf("%v and %v: AreAlike %v, least graphs %v and %v, codes %d %d %d, want alike %v", g, h, alike, first, second, one, two, three, want)
	}
}

func TestAlikeOfInvalidGraphs(t *testing.T) {
	for _, bad := range badGraphs() {
		for _, pair := range [][2]impl.Graph{{bad, {}}, {{}, bad}, {bad, bad}} {
			if alike, code := impl.AreAlike(pair[0], pair[1]); alike || code != impl.ErrInvalid {
				t.Errorf("AreAlike %v: %v, code %d, want ErrInvalid", pair, alike, code)
			}
		}
		if h, code := impl.LeastGraph(bad); code != impl.ErrInvalid || h != (impl.Graph{}) {
			t.Errorf("LeastGraph %v: %v, code %d, want ErrInvalid", bad, h, code)
		}
		if n, code := impl.CountSelf(bad); code != impl.ErrInvalid || n != 0 {
			t.Errorf("CountSelf %v: %d, code %d, want ErrInvalid", bad, n, code)
		}
		if n, code := impl.IndexOfGraph(bad); code != impl.ErrInvalid || n != 0 {
			t.Errorf("IndexOfGraph %v: %d, code %d, want ErrInvalid", bad, n, code)
		}
	}
}

func TestLeastGraphsAreListedOnce(t *testing.T) {
	for n, count := range []int{1, 1, 2, 4, 11, 34} {
		all, code := impl.AllGraphs(int64(n))
		if code != impl.OK || len(all) != count {
			t.Fatalf("AllGraphs %d has %d graphs, code %d, want %d", n, len(all), code, count)
		}
		for i, g := range all {
			if g.N != int64(n) || leastOf(g) != g || i > 0 && all[i-1].Edges >= g.Edges {
				t.Errorf("AllGraphs %d has %v at %d", n, g, i)
			}
		}
		for _, g := range everyGraph(int64(n)) {
			if got, code := impl.IndexOfGraph(g); code != impl.OK || got != int64(slices.Index(all, leastOf(g))) {
				t.Errorf("IndexOfGraph %v: %d, code %d", g, got, code)
			}
		}
	}
	for _, n := range []int64{-1, 6, -1 << 63, 1<<63 - 1} {
		if all, code := impl.AllGraphs(n); code != impl.ErrRange || len(all) > 0 {
			t.Errorf("AllGraphs %d: %v, code %d, want ErrRange", n, all, code)
		}
	}
}
