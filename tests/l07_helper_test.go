package tests

import (
	"fmt"
	"math/big"
	"math/rand/v2"
	"slices"
	"strings"
	"testing"

	"loop.example/g01169/impl"
)

// The helpers walk through all maps of vertices to parts, and reckon with
// math/big.

// shape is what patterns have in common that differ in their weights alone.
type shape struct {
	graph impl.Graph
	loops uint32
}

// with returns the pattern of a shape with some weights.
func (s shape) with(weights []impl.Fraction) impl.Pattern {
	return impl.Pattern{Graph: s.graph, Loops: s.loops, Weights: weights}
}

// shapesWith returns all shapes with so many parts.
func shapesWith(parts int64) []shape {
	var list []shape
	for _, g := range everyGraph(parts) {
		for loops := range uint32(1) << parts {
			list = append(list, shape{g, loops})
		}
	}
	return list
}

// shapesUpTo returns all shapes with 1 to so many parts.
func shapesUpTo(parts int64) []shape {
	var list []shape
	for k := range parts {
		list = append(list, shapesWith(k+1)...)
	}
	return list
}

// pattern returns the pattern with a graph, loops and weights that are told by
// words.
func pattern(t *testing.T, edges string, loops uint32, weights string) impl.Pattern {
	t.Helper()
	p := impl.Pattern{Graph: graph(t, edges), Loops: loops, Weights: frs(weights)}
	if !impl.ValidPattern(p) {
		t.Fatalf("not valid: %v", p)
	}
	return p
}

// someWeights returns n weights that are multiples of 1 / total.
func someWeights(random *rand.Rand, n, total int64) []impl.Fraction {
	cuts := []int64{0, total}
	for range n - 1 {
		cuts = append(cuts, random.Int64N(total+1))
	}
	slices.Sort(cuts)
	var list []impl.Fraction
	for i := range n {
		list = append(list, ofRat(big.NewRat(cuts[i+1]-cuts[i], total)))
	}
	return list
}

// somePattern returns a pattern with up to so many parts, with weights that are
// multiples of 1 / total.
func somePattern(random *rand.Rand, parts, total int64) impl.Pattern {
	list := shapesWith(1 + random.Int64N(parts))
	s := list[random.IntN(len(list))]
	return s.with(someWeights(random, s.graph.N, total))
}

// meet reports whether vertices of two parts are joined.
func meet(p impl.Pattern, a, b int64) bool {
	if a == b {
		return p.Loops/(1<<a)%2 == 1
	}
	return hasBit(p.Graph, a, b)
}

// graphFrom returns the graph whose vertices lie in the parts of a list.
func graphFrom(p impl.Pattern, list []int64) impl.Graph {
	g := impl.Graph{N: int64(len(list))}
	for i := range list {
		for j := range i {
			if meet(p, list[i], list[j]) {
				g.Edges += bitOf(int64(i), int64(j))
			}
		}
	}
	return g
}

// mapsTo returns all lists of parts of n vertices, in their order.
func mapsTo(parts, n int64) [][]int64 {
	return mapLists([2]int64{parts, n})
}

var mapLists = remembered(func(of [2]int64) [][]int64 {
	lists := [][]int64{{}}
	for range of[1] {
		var longer [][]int64
		for _, list := range lists {
			for part := range of[0] {
				longer = append(longer, append(slices.Clone(list), part))
			}
		}
		lists = longer
	}
	return lists
})

// chance is the chance of a graph, as it is reckoned.
type chance struct {
	reckoner
	sum *big.Rat
}

// chancesIn returns the chances of those graphs with n vertices, in every order
// of them, that some map makes.
func chancesIn(p impl.Pattern, n int64) map[impl.Graph]*chance {
	found := map[impl.Graph]*chance{}
	for _, list := range mapsTo(p.Graph.N, n) {
		g := graphFrom(p, list)
		if found[g] == nil {
			found[g] = &chance{sum: new(big.Rat)}
		}
		c, product := found[g], big.NewRat(1, 1)
		for _, part := range list {
			product = c.mul(product, rat(p.Weights[part]))
		}
		c.sum = c.add(c.sum, product)
	}
	return found
}

// times returns so many times the chance, and the code, which tells whether a
// fraction has been too large; nil is the chance of a graph that no map makes.
func (c *chance) times(n int64) (impl.Fraction, int64) {
	if c == nil {
		return fr("0"), impl.OK
	}
	product := c.mul(c.sum, big.NewRat(n, 1))
	if c.tooLarge {
		return impl.Fraction{}, impl.ErrLimit
	}
	return ofRat(product), impl.OK
}

// waysOf returns as how many graphs the vertices of a set can be alike g.
func waysOf(g impl.Graph) int64 { return int64(len(renamings(g))) }

// mustDensity returns a density that has to be found.
func mustDensity(t *testing.T, p impl.Pattern, h impl.Graph) impl.Fraction {
	t.Helper()
	a, code := impl.DensityIn(p, h)
	if code != impl.OK {
		t.Fatalf("DensityIn %v, %v: code %d", p, h, code)
	}
	return a
}

// samePatterns compares patterns without the program's SamePattern.
func samePatterns(p, q impl.Pattern) bool {
	return p.Graph == q.Graph && p.Loops == q.Loops && slices.Equal(p.Weights, q.Weights)
}

func noPattern(p impl.Pattern) bool { return samePatterns(p, impl.Pattern{}) }

// checkPattern fails unless a call has returned a pattern, which has to be
// valid, or nothing with a code that is not OK.
func checkPattern(t *testing.T, what string, got impl.Pattern, code int64, want impl.Pattern, wantCode int64) {
	t.Helper()
	if code != wantCode || !samePatterns(got, want) || code == impl.OK && !impl.ValidPattern(got) {
		t.Fatalf("%s: %v, code %d, want %v, code %d", what, got, code, want, wantCode)
	}
}

// Four weights, with 1006285283 as the product of both odd numbers: the sum of
// the first of these and of the third one is too large, and in the order of
// wideSums no sum is.
const (
	wideSums = "1/63442 15860/31721 1/63446 15861/31723"
	tooWide  = "1/63442 1/63446 15860/31721 15861/31723"
)

// badPatterns returns patterns that are not valid.
func badPatterns() []impl.Pattern {
	one, two, four := impl.Graph{N: 1}, impl.Graph{N: 2, Edges: 1}, impl.Graph{N: 4, Edges: 41}
	list := []impl.Pattern{{}, {Weights: frs("1")}, {Loops: 1, Weights: frs("1")}, {Graph: one}, {Graph: impl.Graph{N: 5}, Weights: frs("1/5 1/5 1/5 1/5 1/5")}, {Graph: impl.Graph{N: 5}, Weights: frs("1/4 1/4 1/4 1/4")}, {Graph: impl.Graph{N: 5, Edges: 1023}, Loops: 31, Weights: frs("1/5 1/5 1/5 1/5 1/5")}}
	for _, weights := range []string{"", "0", "1/2", "-1", "2", "1 0", "0 1", "999999999/1000000000"} {
		list = append(list, impl.Pattern{Graph: one, Weights: frs(weights)})
	}
	for _, weights := range []string{"", "1", "1/2", "0 0", "1/2 1/3", "1/2 2/3", "1 1", "-1 2", "2 -1", "3/2 -1/2", "-1/2 3/2", "1/2 1/2 0", "1/3 1/3 1/3", "1000000000 -999999999", "1/1000000000 999999998/1000000000", "1/65536 1/65537"} {
		list = append(list, impl.Pattern{Graph: two, Weights: frs(weights)})
	}
	for _, weights := range []string{tooWide, "1/4 1/4 1/4", "1/4 1/4 1/4 1/4 0", "1/4 1/4 1/4 1/2", "1/2 1/2 1/2 -1/2", "0 0 0 0", "1/65537 1/65536 1/65539 1/2"} {
		list = append(list, impl.Pattern{Graph: four, Weights: frs(weights)})
	}
	for parts := range int64(4) {
		for _, loops := range []uint32{2 << parts, 2<<parts | 1, 1 << 31, 1<<32 - 1} {
			weights := slices.Repeat([]impl.Fraction{fr(fmt.Sprint("1/", parts+1))}, int(parts)+1)
			list = append(list, impl.Pattern{Graph: impl.Graph{N: parts + 1}, Loops: loops, Weights: weights})
		}
	}
	for _, g := range badGraphs() {
		for _, weights := range []string{"1", "1/2 1/2", "1/3 1/3 1/3", "1/4 1/4 1/4 1/4", ""} {
			list = append(list, impl.Pattern{Graph: g, Weights: frs(weights)})
		}
	}
	for _, bad := range badFractions() {
		list = append(list, impl.Pattern{Graph: one, Weights: []impl.Fraction{bad}}, impl.Pattern{Graph: two, Weights: []impl.Fraction{fr("1"), bad}}, impl.Pattern{Graph: four, Loops: 9, Weights: append(frs("1/2 1/2 0"), bad)})
	}
	return list
}

// textOfPattern writes a pattern as the document tells, with the texts of its
// parts.
func textOfPattern(p impl.Pattern) string {
	loops, weights := []string{"loops"}, []string{"weights"}
	for part, weight := range p.Weights {
		if meet(p, int64(part), int64(part)) {
			loops = append(loops, fmt.Sprint(part))
		}
		weights = append(weights, impl.FractionText(weight))
	}
	return "pattern " + impl.GraphText(p.Graph) + "\n" + strings.Join(loops, " ") + "\n" + strings.Join(weights, " ") + "\n"
}
