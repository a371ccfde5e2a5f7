package tests

import (
	"fmt"
	"slices"
	"testing"

	"loop.example/g01169/impl"
)

// Promise 14, its second half: the best weights are the best.

// landings returns how many of the maps that make a graph take how many vertices
// to each part.
func landings(p impl.Pattern, h impl.Graph) map[[4]int64]int64 {
	found := map[[4]int64]int64{}
	for _, list := range mapsTo(p.Graph.N, h.N) {
		if graphFrom(p, list) == h {
			var sizes [4]int64
			for _, part := range list {
				sizes[part]++
			}
			found[sizes]++
		}
	}
	return found
}

// grids returns all lists of so many numbers from 0 on that make up a grid, in
// their order.
func grids(parts, grid int64) [][]int64 {
	if parts == 1 {
		return [][]int64{{grid}}
	}
	var lists [][]int64
	for first := range grid + 1 {
		for _, rest := range grids(parts-1, grid-first) {
			lists = append(lists, append([]int64{first}, rest...))
		}
	}
	return lists
}

// wantBest returns what BestWeights has to return, from whole numbers alone: a
// density is so many parts of the grid to the power of the vertices.
func wantBest(p impl.Pattern, h impl.Graph, grid int64, found map[[4]int64]int64) (impl.Pattern, impl.Fraction) {
	best, most := []int64(nil), int64(-1)
	for _, list := range grids(p.Graph.N, grid) {
		sum := int64(0)
		for sizes, count := range found {
			for part, size := range sizes {
				for range size {
					count *= list[part]
				}
			}
			sum += count
		}
		if sum > most {
			best, most = list, sum
		}
	}
	all := int64(1)
	for range h.N {
		all *= grid
	}
	p.Weights = nil
	for _, number := range best {
		p.Weights = append(p.Weights, fr(fmt.Sprint(number, "/", grid)))
	}
	return p, fr(fmt.Sprint(most*waysOf(h), "/", all))
}

// checkBest holds BestWeights against all weights of some grids.
func checkBest(t *testing.T, s shape, h impl.Graph, list ...int64) {
	t.Helper()
	p := s.with(nil)
	found := landings(p, h)
	for _, grid := range list {
		want, density := wantBest(p, h, grid, found)
		q, a, code := impl.BestWeights(s.graph, s.loops, h, grid)
		what := fmt.Sprint("BestWeights ", s, h, grid)
		checkPattern(t, what, q, code, want, impl.OK)
		checkFraction(t, what, a, code, density, impl.OK)
		if a != mustDensity(t, q, h) {
			t.Fatalf("%s: %v, which is not the density in %v", what, a, q)
		}
	}
}

func TestBestWeightsAreTheBest(t *testing.T) {
	for _, s := range shapesUpTo(2) {
		for n := range int64(5) {
			for _, h := range everyGraph(n) {
				checkBest(t, s, h, 1, 2, 3, 4, 5, 6, 7, 8, 9, 10, 11, 12)
			}
		}
	}
	for i, s := range shapesWith(3) {
		for n := range int64(6) {
			for _, h := range freeOf(n, nil) {
				checkBest(t, s, h, 1, 3, int64(1+i%12))
			}
		}
	}
	random := seeded(97)
	four, graphs := shapesWith(4), slices.Concat(everyGraph(3), everyGraph(4), freeOf(5, nil))
	for range 300 {
		s, h := four[random.IntN(len(four))], graphs[random.IntN(len(graphs))]
		checkBest(t, s, h, 1, 2+random.Int64N(10), 12)
	}
}

// No other weights of the grid have a greater density, and those ahead of the
// best ones have a lesser one: found by DensityIn, one pattern after the other.
func TestOtherWeightsAreNotBetter(t *testing.T) {
	random := seeded(98)
	shapes, graphs := shapesUpTo(4), slices.Concat(everyGraph(2), everyGraph(3), freeOf(4, nil))
	for range 40 {
		s, h, grid := shapes[random.IntN(len(shapes))], graphs[random.IntN(len(graphs))], 1+random.Int64N(8)
		best, most, code := impl.BestWeights(s.graph, s.loops, h, grid)
		if code != impl.OK {
			t.Fatalf("BestWeights %v, %v, %d: code %d", s, h, grid, code)
		}
		behind := false
		for _, list := range grids(s.graph.N, grid) {
			var weights []impl.Fraction
			for _, number := range list {
				weights = append(weights, fr(fmt.Sprint(number, "/", grid)))
			}
			behind = behind || slices.Equal(weights, best.Weights)
			order := rat(mustDensity(t, s.with(weights), h)).Cmp(rat(most))
			if order > 0 || order == 0 && !behind {
				t.Fatalf("BestWeights %v, %v, %d: %v, but %v ahead", s, h, grid, best, weights)
			}
		}
		if !behind {
			t.Fatalf("BestWeights %v, %v, %d: %v is none of them", s, h, grid, best)
		}
	}
}

func TestBestWeightsThatAreWrittenOut(t *testing.T) {
	const edge, triangle = "2 0-1", "3 0-1 0-2 1-2"
	for _, c := range []struct {
		graph   string
		loops   uint32
		h       string
		grid    int64
		weights string
		density string
	}{
		{edge, 0, edge, 4, "1/2 1/2", "1/2"}, {edge, 0, edge, 3, "1/3 2/3", "4/9"}, {edge, 0, edge, 1, "0 1", "0"}, {triangle, 0, triangle, 12, "1/3 1/3 1/3", "2/9"}, {triangle, 0, edge, 2, "0 1/2 1/2", "1/2"}, {triangle, 0, triangle, 4, "1/4 1/4 1/2", "3/16"},
		// Where all weights, or none, make the graph, the first ones are taken.
		{"4", 0, "5", 12, "0 0 0 1", "1"}, {"4", 0, edge, 12, "0 0 0 1", "0"}, {"1", 0, edge, 12, "1", "0"}, {"1", 1, edge, 12, "1", "1"}, {edge, 0, "0", 5, "0 1", "1"}, {edge, 0, "1", 5, "0 1", "1"}, {edge, 3, edge, 7, "0 1", "1"}, {"2", 3, edge, 7, "0 1", "1"}, {"2", 1, edge, 7, "1 0", "1"}, {"2", 2, edge, 7, "0 1", "1"}, {edge, 0, "2", 7, "0 1", "1"}, {edge, 1, "3", 7, "0 1", "1"}, {edge, 2, "3", 7, "1 0", "1"},
		{edge, 1, "3 0-1 1-2", 12, "1/3 2/3", "4/9"}, {"2", 3, "3 0-1", 12, "1/2 1/2", "3/4"}, {edge, 0, "5 0-1 0-2 0-3 0-4", 12, "1/4 3/4", "105/256"}, {edge, 0, "5 0-1 0-2 0-3 0-4", 10, "1/5 4/5", "52/125"},
	} {
		want := pattern(t, c.graph, c.loops, c.weights)
		h := graph(t, c.h)
		checkBest(t, shape{want.Graph, c.loops}, h, c.grid)
		q, a, code := impl.BestWeights(want.Graph, c.loops, h, c.grid)
		what := fmt.Sprint("BestWeights ", c)
		checkPattern(t, what, q, code, want, impl.OK)
		checkFraction(t, what, a, code, fr(c.density), impl.OK)
	}
}

func TestBestWeightsThatAreRefused(t *testing.T) {
	edge := impl.Graph{N: 2, Edges: 1}
	check := func(g impl.Graph, loops uint32, h impl.Graph, grid, want int64) {
		t.Helper()
		q, a, code := impl.BestWeights(g, loops, h, grid)
		isRefused(t, fmt.Sprint("BestWeights ", g, loops, h, grid), noPattern(q) && isZero(a), code, want)
	}
	for _, grid := range []int64{-1 << 63, -1, 0, 13, 1 << 32, 1<<32 + 1, 1<<63 - 1} {
		check(edge, 0, edge, grid, impl.ErrRange)
		check(impl.Graph{}, 0, edge, grid, impl.ErrRange)
	}
	for _, grid := range []int64{0, 1, 12, 13} {
		for _, bad := range badGraphs() {
			for _, loops := range []uint32{0, 3, 4, 1 << 31} {
				check(bad, loops, edge, grid, impl.ErrInvalid)
				check(edge, loops, bad, grid, impl.ErrInvalid)
				check(impl.Graph{}, loops, bad, grid, impl.ErrInvalid)
			}
		}
		for _, g := range []impl.Graph{{}, {N: 5}, {N: 5, Edges: 1023}} {
			check(g, 0, edge, grid, impl.ErrRange)
			check(g, 1, g, grid, impl.ErrRange)
		}
		for n := int64(1); n < 5; n++ {
			for _, more := range []uint32{1 << n, 1 << 31, ^uint32(0)} {
				check(impl.Graph{N: n}, more, edge, grid, impl.ErrRange)
			}
		}
	}
}
