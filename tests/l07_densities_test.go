package tests

import (
	"fmt"
	"math/big"
	"testing"

	"loop.example/g01169/impl"
)

// Promise 13, its first half: the densities of all graphs of a size are those of
// all maps, and add up to 1.

// checkDensity holds ChanceIn and DensityIn against the chances that have been
// reckoned for all graphs with as many vertices.
func checkDensity(t *testing.T, p impl.Pattern, h impl.Graph, found map[impl.Graph]*chance) {
	t.Helper()
	want, wantCode := found[h].times(1)
	got, code := impl.ChanceIn(p, h)
	checkFraction(t, fmt.Sprint("ChanceIn ", p, h), got, code, want, wantCode)
	want, wantCode = found[h].times(waysOf(h))
	got, code = impl.DensityIn(p, h)
	checkFraction(t, fmt.Sprint("DensityIn ", p, h), got, code, want, wantCode)
}

// checkDensities holds DensitiesIn, and the functions for one graph, against all
// maps, and reports whether there are densities.
func checkDensities(t *testing.T, p impl.Pattern, n int64) bool {
	t.Helper()
	found, wantCode := chancesIn(p, n), int64(impl.OK)
	list, code := impl.DensitiesIn(p, n)
	sum := new(big.Rat)
	for i, h := range freeOf(n, nil) {
		want, limit := found[h].times(waysOf(h))
		if limit != impl.OK {
			wantCode = limit
			continue
		}
		if code == impl.OK {
			checkFraction(t, fmt.Sprint("DensitiesIn ", p, n, " at ", i), list[i], code, want, limit)
		}
		sum.Add(sum, rat(want))
		checkDensity(t, p, h, found)
	}
	if code != wantCode || code == impl.OK && len(list) != len(freeOf(n, nil)) || code != impl.OK && len(list) > 0 {
		t.Fatalf("DensitiesIn %v, %d: %v, code %d, want code %d", p, n, list, code, wantCode)
	}
	if code == impl.OK && sum.Cmp(big.NewRat(1, 1)) != 0 {
		t.Fatalf("DensitiesIn %v, %d: %v make %v", p, n, list, sum)
	}
	return code == impl.OK
}

func TestDensitiesOfAllPatterns(t *testing.T) {
	random := seeded(83)
	totals := []int64{1, 2, 3, 7, 12, 60}
	for round, s := range shapesUpTo(4) {
		p := s.with(someWeights(random, s.graph.N, totals[round%6]))
		for n := range int64(5) {
			if !checkDensities(t, p, n) {
				t.Fatalf("no densities of %d vertices in %v", n, p)
			}
		}
		if round < 74 || round%16 == 0 {
			checkDensities(t, p, 5)
		}
	}
}

// Graphs need not be least: those that are alike have the same density, and as
// long as no fraction is too large the same chance.
func TestChancesOfAllGraphs(t *testing.T) {
	random := seeded(84)
	for range 60 {
		p := somePattern(random, 4, 1+random.Int64N(12))
		for n := range int64(5) {
			found := chancesIn(p, n)
			for _, h := range everyGraph(n) {
				checkDensity(t, p, h, found)
				one, _ := impl.ChanceIn(p, h)
				other, _ := impl.ChanceIn(p, leastOf(h))
				if one != other {
					t.Fatalf("ChanceIn %v, %v is %v, and %v for the least graph", p, h, one, other)
				}
			}
		}
	}
}

// The density is the probability that so many vertices, of which some lie in
// each part, make a graph: BlowUp tells which one.
func TestDensitiesAreThoseOfBlowUps(t *testing.T) {
	random := seeded(85)
	for range 150 {
		p := somePattern(random, 4, 1+random.Int64N(12))
		for n := range int64(6) {
			sums := map[impl.Graph]*big.Rat{}
			for _, sizes := range mapsTo(n+1, p.Graph.N) {
				share, all := big.NewRat(fallingProduct(n, n), 1), int64(0)
				for part, size := range sizes {
					all += size
					share.Quo(share, big.NewRat(fallingProduct(size, size), 1))
					for range size {
						share.Mul(share, rat(p.Weights[part]))
					}
				}
				if all == n {
					g := made(t)(impl.BlowUp(p, sizes))
					addTo(sums, leastOf(g), share)
				}
			}
			list, code := impl.DensitiesIn(p, n)
			for i, h := range freeOf(n, nil) {
				checkFraction(t, fmt.Sprint("DensitiesIn ", p, n, " at ", i), list[i], code, shareFor(sums, h), impl.OK)
			}
		}
	}
}

// A vertex, and no vertex, are in every pattern.
func TestDensitiesOfTheLeastGraphs(t *testing.T) {
	random := seeded(86)
	for _, total := range []int64{1, 5, 31623, 1000000000} {
		for range 20 {
			p := somePattern(random, 4, total)
			for n := range int64(2) {
				h, one := impl.Graph{N: n}, fr("1")
				chance, code := impl.ChanceIn(p, h)
				checkFraction(t, fmt.Sprint("ChanceIn ", p, h), chance, code, one, impl.OK)
				density, code := impl.DensityIn(p, h)
				checkFraction(t, fmt.Sprint("DensityIn ", p, h), density, code, one, impl.OK)
				list, code := impl.DensitiesIn(p, n)
				if code != impl.OK || len(list) != 1 || list[0] != one {
					t.Errorf("DensitiesIn %v, %d: %v, code %d", p, n, list, code)
				}
			}
		}
	}
}

// Densities that are told one by one, with the example of the document.
func TestDensitiesThatAreWrittenOut(t *testing.T) {
	const edge, triangle, path, none = "2 0-1", "3 0-1 0-2 1-2", "3 0-1 1-2", "3"
	const pentagon, square = "5 0-1 1-2 2-3 0-4 3-4", "4 0-1 1-2 0-3 2-3"
	for _, c := range []struct {
		graph   string
		loops   uint32
		weights string
		h       string
		chance  string
		density string
	}{
		{edge, 0, "1/2 1/2", edge, "1/2", "1/2"}, {edge, 0, "1/2 1/2", triangle, "0", "0"}, {edge, 0, "1/2 1/2", path, "1/4", "3/4"}, {edge, 0, "1/2 1/2", none, "1/4", "1/4"},
		{"1", 1, "1", triangle, "1", "1"}, {"1", 1, "1", "5 0-1 0-2 1-2 0-3 1-3 2-3 0-4 1-4 2-4 3-4", "1", "1"}, {"1", 1, "1", none, "0", "0"}, {"1", 0, "1", none, "1", "1"}, {"1", 0, "1", edge, "0", "0"},
		// A part with a loop and one without, joined or not.
		{"2", 1, "1/3 2/3", edge, "1/9", "1/9"}, {"2", 2, "1/3 2/3", edge, "4/9", "4/9"}, {edge, 1, "1/3 2/3", edge, "5/9", "5/9"}, {edge, 2, "1/3 2/3", edge, "8/9", "8/9"}, {edge, 3, "1/3 2/3", edge, "1", "1"}, {"2", 3, "1/3 2/3", edge, "5/9", "5/9"}, {"2", 3, "1/3 2/3", path, "0", "0"}, {"2", 3, "1/2 1/2", triangle, "1/4", "1/4"},
		{edge, 1, "1/3 2/3", path, "4/27", "4/9"}, {edge, 1, "1/3 2/3", triangle, "7/27", "7/27"}, {edge, 1, "1/3 2/3", none, "8/27", "8/27"},
		{triangle, 0, "1/3 1/3 1/3", triangle, "2/9", "2/9"}, {triangle, 0, "1/2 1/2 0", triangle, "0", "0"}, {"4 0-1 0-2 1-2 0-3 1-3 2-3", 0, "1/4 1/4 1/4 1/4", triangle, "3/8", "3/8"}, {"4 0-1 0-2 1-2 0-3 1-3 2-3", 0, "1/4 1/4 1/4 1/4", "4 0-1 0-2 1-2 0-3 1-3 2-3", "3/32", "3/32"},
		{edge, 0, "1/2 1/2", square, "1/8", "3/8"}, {edge, 0, "1/2 1/2", pentagon, "0", "0"}, {edge, 0, "1/3 2/3", "5 0-1 0-2 0-3 0-4", "2/27", "10/27"}, {"4 0-1 1-2 2-3", 0, "1/4 1/4 1/4 1/4", "4 0-1 1-2 2-3", "1/128", "3/32"},
	} {
		p, h := pattern(t, c.graph, c.loops, c.weights), graph(t, c.h)
		got, code := impl.ChanceIn(p, h)
		checkFraction(t, fmt.Sprint("ChanceIn ", p, h), got, code, fr(c.chance), impl.OK)
		got, code = impl.DensityIn(p, h)
		checkFraction(t, fmt.Sprint("DensityIn ", p, h), got, code, fr(c.density), impl.OK)
	}
}
