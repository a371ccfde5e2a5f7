package tests

import (
	"fmt"
	"slices"
	"testing"

	"loop.example/g01169/impl"
)

// Promise 13 where fractions become too large on the way: which of them are
// made, and in which order.

// checkChance holds the codes of ChanceIn and DensityIn against one that is told,
// and their results against all maps.
func checkChance(t *testing.T, p impl.Pattern, h impl.Graph, want int64) {
	t.Helper()
	checkDensity(t, p, h, chancesIn(p, h.N))
	chance, code := impl.ChanceIn(p, h)
	isRefused(t, fmt.Sprint("ChanceIn ", p, h), isZero(chance) == (want != impl.OK), code, want)
	density, code := impl.DensityIn(p, h)
	isRefused(t, fmt.Sprint("DensityIn ", p, h), isZero(density) == (want != impl.OK), code, want)
}

func TestChancesThatAreTooLarge(t *testing.T) {
	random := seeded(87)
	refused := 0
	for _, total := range []int64{31, 63, 64, 177, 178, 999, 1000, 1001, 31622, 31623, 1000000000} {
		for range 60 {
			p := somePattern(random, 4, total)
			for n := range int64(5) {
				if !checkDensities(t, p, n) {
					refused++
				}
			}
		}
		p := somePattern(random, 3, total)
		if !checkDensities(t, p, 5) {
			refused++
		}
		for _, h := range everyGraph(3) {
			checkDensity(t, p, h, chancesIn(p, 3))
		}
	}
	if refused < 300 || refused > 3000 {
		t.Errorf("%d times there are no densities", refused)
	}
}

// Products and sums at the limit, and one beyond it.
func TestChancesAtTheLimit(t *testing.T) {
	const ok, limit = impl.OK, impl.ErrLimit
	const halves = "1/356 177/356 1/358 89/179"
	for _, c := range []struct {
		edges   string
		loops   uint32
		weights string
		h       string
		want    int64
	}{
		// 31622 * 31622 is at most 1000000000, and 31623 * 31623 is not.
		{"2 0-1", 0, "1/31622 31621/31622", "2 0-1", ok}, {"2 0-1", 0, "1/31623 31622/31623", "2 0-1", limit}, {"2 0-1", 0, "1/31623 31622/31623", "2", limit}, {"2 0-1", 3, "1/31623 31622/31623", "2", ok},
		{"2", 0, "1/1000 999/1000", "3", ok}, {"2", 0, "1/1001 1000/1001", "3", limit}, {"2", 3, "1/1001 1000/1001", "3 0-1 1-2", ok}, {"2 0-1", 0, "1/1001 1000/1001", "3 0-1 1-2", limit}, {"2 0-1", 0, "1/1001 1000/1001", "3 0-1 0-2 1-2", ok},
		{"1", 1, "1", "5", ok}, {"2 0-1", 1, "1/1000000000 999999999/1000000000", "1", ok}, {"2 0-1", 1, "1/1000000000 999999999/1000000000", "0", ok}, {"2 0-1", 1, "0 1", "5", ok}, {"2 0-1", 0, "0 1", "5 0-1", ok},
		// Each product is small enough, and so are the sums of those of two
		// parts, but not the sum of both of these.
		{"4 0-1", 0, halves, "2 0-1", ok}, {"4 2-3", 0, halves, "2 0-1", ok}, {"4 0-1 2-3", 0, halves, "2 0-1", limit}, {"4", 3, halves, "2 0-1", ok}, {"4", 12, halves, "2 0-1", ok}, {"4", 5, halves, "2 0-1", limit}, {"4 0-1 2-3", 15, halves, "2 0-1", ok},
		{"3 0-1 0-2", 0, "1/2 1/63442 15860/31721", "2 0-1", ok}, {"3 1-2", 0, "1/2 1/63442 15860/31721", "2 0-1", limit},
	} {
		checkChance(t, pattern(t, c.edges, c.loops, c.weights), graph(t, c.h), c.want)
	}
}

// A weight of 0 makes a product 0, but only from its vertex on: what is made
// ahead of it may be too large.
func TestProductsAreMadeFromTheFirstVertexOn(t *testing.T) {
	const edges, weights = "4 0-1 0-2 0-3", "0 1/40000 1/40000 19999/20000"
	p := pattern(t, edges, 0, weights)
	for _, c := range []struct {
		h    string
		want int64
	}{
		{"3 0-1 0-2", impl.OK}, {"3 0-1 1-2", impl.OK}, {"3 0-2 1-2", impl.ErrLimit}, {"2 0-1", impl.OK}, {"2", impl.ErrLimit},
		{"4 0-1 0-2 0-3", impl.OK}, {"4 0-1 1-2 1-3", impl.OK}, {"4 0-2 1-2 2-3", impl.ErrLimit}, {"4 0-3 1-3 2-3", impl.ErrLimit}, {"3 0-1 0-2 1-2", impl.OK},
	} {
		checkChance(t, p, graph(t, c.h), c.want)
	}
	// The sum of products that are 0 is 0.
	density, code := impl.DensityIn(p, graph(t, "3 0-1 0-2"))
	checkFraction(t, "DensityIn of a star", density, code, fr("0"), impl.OK)
	// One graph that is too large is enough for all of its size.
	list, code := impl.DensitiesIn(p, 2)
	isRefused(t, "DensitiesIn 2", len(list) == 0, code, impl.ErrLimit)
}

// The order of the maps decides which sums are made.
func TestSumsAreMadeInTheOrderOfTheMaps(t *testing.T) {
	random := seeded(88)
	weights, point := frs(wideSums), impl.Graph{N: 1}
	for _, order := range listsWithout(4, 4) {
		var turned []impl.Fraction
		for _, i := range order {
			turned = append(turned, weights[i])
		}
		p := impl.Pattern{Graph: impl.Graph{N: 4, Edges: random.Uint32N(64)}, Loops: random.Uint32N(16), Weights: turned}
		if impl.ValidPattern(p) {
			checkChance(t, p, point, impl.OK)
		}
	}
	// The products of joined parts are small, but there are sums of them that
	// are too large, in an order of the parts and not in another one.
	codes := map[int64]int{}
	for _, total := range []int64{178, 211, 420, 997, 5000, 31622} {
		for range 300 {
			list := slices.Concat(someWeights(random, 2, total), someWeights(random, 2, total+1))
			for i := range list {
				list[i], _ = impl.MulFractions(list[i], fr("1/2"))
			}
			p := impl.Pattern{Graph: impl.Graph{N: 4, Edges: random.Uint32N(64)}, Loops: random.Uint32N(16), Weights: list}
			if !impl.ValidPattern(p) {
				continue
			}
			h := impl.Graph{N: 2, Edges: random.Uint32N(2)}
			checkDensity(t, p, h, chancesIn(p, 2))
			_, code := impl.ChanceIn(p, h)
			codes[code]++
		}
	}
	if codes[impl.OK] < 100 || codes[impl.ErrLimit] < 100 {
		t.Errorf("codes %v", codes)
	}
}
