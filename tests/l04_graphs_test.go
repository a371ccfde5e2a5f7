package tests

import (
	"fmt"
	"math/big"
	"slices"
	"testing"

	"loop.example/g01169/impl"
)

// Promise 7, for graphs: their densities add up to 1, and are the same through
// every size.

func TestGraphDensityIsTheShareOfAllChoices(t *testing.T) {
	for _, g := range graphsUpTo(5) {
		if g.N == 5 && leastOf(g) != g && g.Edges%61 != 0 {
			continue
		}
		for n := range g.N + 1 {
			sum, found := new(big.Rat), shares(plain(g), n)
			var want []impl.Fraction
			for _, f := range flagsWith(impl.Graph{}, n) {
				share := shareFor(found, f)
				got, code := impl.GraphDensity(backwards(f).Graph, g)
				checkFraction(t, fmt.Sprint("GraphDensity ", f.Graph, g), got, code, share, impl.OK)
				sum.Add(sum, rat(got))
				want = append(want, share)
			}
			got, code := impl.GraphDensities(n, g)
			if code != impl.OK || !slices.Equal(got, want) || sum.Cmp(big.NewRat(1, 1)) != 0 {
				t.Fatalf("GraphDensities %d %v: %v, code %d, want %v with the sum 1, not %v", n, g, got, code, want, sum)
			}
		}
	}
}

// The densities are the copies divided by the sets of vertices, and those of
// the flags without labels.
func TestGraphDensityIsThatOfCopiesAndOfFlags(t *testing.T) {
	graphs := leastGraphs()
	for _, g := range graphs {
		for _, h := range graphs {
			if h.N > g.N {
				continue
			}
			got := valueOf(t)(impl.GraphDensity(h, g))
			copies, code := impl.CountCopies(h, g)
			sets := int64(len(setsOfVertices(g.N, h.N)))
			if code != impl.OK || got.Cmp(big.NewRat(copies, sets)) != 0 {
				t.Errorf("GraphDensity %v %v: %v, want %d of %d", h, g, got, copies, sets)
			}
			if of := valueOf(t)(impl.FlagDensity(plain(h), plain(g))); of.Cmp(got) != 0 {
				t.Errorf("GraphDensity %v %v: %v, and as flags %v", h, g, got, of)
			}
		}
	}
}

func TestGraphDensityThroughEverySize(t *testing.T) {
	graphs := leastGraphs()
	for _, g := range graphs {
		for n := range g.N + 1 {
			between, code := impl.GraphDensities(n, g)
			if code != impl.OK {
				t.Fatalf("GraphDensities %d %v: code %d", n, g, code)
			}
			all, _ := impl.AllGraphs(n)
			for _, h := range graphs {
				if h.N > n {
					continue
				}
				sum := new(big.Rat)
				for i, m := range all {
					sum.Add(sum, new(big.Rat).Mul(valueOf(t)(impl.GraphDensity(h, m)), rat(between[i])))
				}
				if want := valueOf(t)(impl.GraphDensity(h, g)); sum.Cmp(want) != 0 {
					t.Fatalf("GraphDensity %v %v: %v, through the size %d %v", h, g, want, n, sum)
				}
			}
		}
	}
}

func TestGraphDensityOfGraphsThatAreWrittenOut(t *testing.T) {
	cycle, line := graph(t, "5 0-1 1-2 2-3 0-4 3-4"), impl.Graph{N: 2, Edges: 1}
	for _, c := range []struct {
		h, g impl.Graph
		want string
	}{
		{line, impl.Graph{N: 3, Edges: 3}, "2/3"}, {line, cycle, "1/2"}, {impl.Graph{N: 2}, cycle, "1/2"}, {graph(t, "3 0-1 1-2"), cycle, "1/2"}, {graph(t, "3 0-2"), cycle, "1/2"}, {impl.Graph{N: 3}, cycle, "0"},
		{impl.Graph{N: 3, Edges: 7}, impl.Graph{N: 5, Edges: 1023}, "1"}, {graph(t, "4 0-1 1-2 2-3"), cycle, "1"}, {cycle, graph(t, "5 0-2 0-3 1-3 1-4 2-4"), "1"},
		{impl.Graph{}, impl.Graph{}, "1"}, {impl.Graph{}, cycle, "1"}, {impl.Graph{N: 1}, cycle, "1"}, {impl.Graph{N: 1}, impl.Graph{N: 1}, "1"}, {line, impl.Graph{N: 2}, "0"}, {line, line, "1"}, {impl.Graph{N: 5}, cycle, "0"},
	} {
		got, code := impl.GraphDensity(c.h, c.g)
		checkFraction(t, fmt.Sprint("GraphDensity ", c.h, c.g), got, code, fr(c.want), impl.OK)
	}
	four := slices.Repeat(frs("0"), 11)
	at, _ := impl.IndexOfGraph(graph(t, "4 0-1 1-2 2-3"))
	four[at] = fr("1")
	for n, want := range [][]impl.Fraction{frs("1"), frs("1"), frs("1/2 1/2"), frs("0 1/2 1/2 0"), four} {
		if got, code := impl.GraphDensities(int64(n), cycle); code != impl.OK || !slices.Equal(got, want) {
			t.Errorf("GraphDensities %d of the cycle: %v, code %d, want %v", n, got, code, want)
		}
	}
}

func TestEdgeDensity(t *testing.T) {
	line := impl.Graph{N: 2, Edges: 1}
	for _, g := range graphsUpTo(5) {
		got, code := impl.EdgeDensity(g)
		if g.N < 2 {
			isRefused(t, fmt.Sprint("EdgeDensity ", g), isZero(got), code, impl.ErrRange)
			continue
		}
		edges := int64(0)
		for _, pair := range setsOfVertices(g.N, 2) {
			if hasBit(g, pair[0], pair[1]) {
				edges++
			}
		}
		checkFraction(t, fmt.Sprint("EdgeDensity ", g), got, code, ofRat(big.NewRat(edges, bitsOf(g.N))), impl.OK)
		if of := valueOf(t)(impl.GraphDensity(line, g)); of.Cmp(rat(got)) != 0 {
			t.Errorf("EdgeDensity %v: %v, GraphDensity of an edge %v", g, got, of)
		}
	}
	for _, c := range []struct {
		g    impl.Graph
		want string
	}{{impl.Graph{N: 2}, "0"}, {line, "1"}, {impl.Graph{N: 3, Edges: 3}, "2/3"}, {impl.Graph{N: 5, Edges: 1 << 9}, "1/10"}, {impl.Graph{N: 5, Edges: 1023}, "1"}, {impl.Graph{N: 4, Edges: 0b101001}, "1/2"}} {
		got, code := impl.EdgeDensity(c.g)
		checkFraction(t, fmt.Sprint("EdgeDensity ", c.g), got, code, fr(c.want), impl.OK)
	}
}
