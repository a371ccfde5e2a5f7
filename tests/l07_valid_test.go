package tests

import (
	"fmt"
	"slices"
	"testing"

	"loop.example/g01169/impl"
)

// Promises 13 and 14 begin with valid patterns, and with those that are made of
// graphs.

func TestValidPatterns(t *testing.T) {
	random := seeded(81)
	for _, s := range shapesUpTo(4) {
		for _, total := range []int64{1, 2, 12, 1000000000} {
			if p := s.with(someWeights(random, s.graph.N, total)); !impl.ValidPattern(p) {
				t.Fatalf("not valid: %v", p)
			}
		}
	}
	for _, weights := range []string{wideSums, "0 0 0 1", "1 0 0 0", "1/1000000000 0 999999999/1000000000 0"} {
		if p := (impl.Pattern{Graph: impl.Graph{N: 4}, Weights: frs(weights)}); !impl.ValidPattern(p) {
			t.Errorf("not valid: %v", p)
		}
	}
	for _, p := range badPatterns() {
		if impl.ValidPattern(p) {
			t.Errorf("valid: %v", p)
		}
	}
}

// The sum is made from the first weight on: the order of the weights decides
// whether it is too large.
func TestOrdersOfWeights(t *testing.T) {
	weights := frs(wideSums)
	valid := 0
	for _, order := range listsWithout(4, 4) {
		var turned []impl.Fraction
		for _, i := range order {
			turned = append(turned, weights[i])
		}
		var r reckoner
		sum := r.add(r.add(rat(turned[0]), rat(turned[1])), rat(turned[2]))
		want := r.code(impl.OK) == impl.OK && r.add(sum, rat(turned[3])).Cmp(rat(fr("1"))) == 0
		got := impl.ValidPattern(impl.Pattern{Graph: impl.Graph{N: 4, Edges: 5}, Loops: 6, Weights: turned})
		if got != want {
			t.Errorf("with the weights %v: %t", turned, got)
		}
		if got {
			valid++
		}
	}
	if valid != 8 {
		t.Errorf("%d of the orders are valid", valid)
	}
}

func TestEvenPatterns(t *testing.T) {
	for _, s := range shapesUpTo(4) {
		want := s.with(slices.Repeat([]impl.Fraction{fr(fmt.Sprint("1/", s.graph.N))}, int(s.graph.N)))
		p, code := impl.EvenPattern(s.graph, s.loops)
		checkPattern(t, fmt.Sprint("EvenPattern ", s), p, code, want, impl.OK)
		for _, more := range []uint32{1 << s.graph.N, 16, 1 << 31, ^(1<<s.graph.N - 1)} {
			p, code := impl.EvenPattern(s.graph, s.loops|more)
			isRefused(t, fmt.Sprint("EvenPattern ", s, " and loops ", more), noPattern(p), code, impl.ErrRange)
		}
	}
	for _, g := range append(everyGraph(5), impl.Graph{}) {
		for _, loops := range []uint32{0, 1, 31, 32} {
			p, code := impl.EvenPattern(g, loops)
			isRefused(t, fmt.Sprint("EvenPattern ", g, loops), noPattern(p), code, impl.ErrRange)
		}
	}
	for _, g := range badGraphs() {
		for _, loops := range []uint32{0, 1, 1 << 31} {
			p, code := impl.EvenPattern(g, loops)
			isRefused(t, fmt.Sprint("EvenPattern ", g, loops), noPattern(p), code, impl.ErrInvalid)
		}
	}
}

func TestPartsPatterns(t *testing.T) {
	for k, weights := range []string{"", "1", "1/2 1/2", "1/3 1/3 1/3", "1/4 1/4 1/4 1/4"} {
		p, code := impl.PartsPattern(int64(k))
		if k == 0 {
			isRefused(t, "PartsPattern 0", noPattern(p), code, impl.ErrRange)
			continue
		}
		all := impl.Graph{N: int64(k), Edges: uint32(1)<<bitsOf(int64(k)) - 1}
		checkPattern(t, fmt.Sprint("PartsPattern ", k), p, code, impl.Pattern{Graph: all, Weights: frs(weights)}, impl.OK)
	}
	for _, k := range []int64{-1 << 63, -1, 5, 6, 1 << 32, 1<<32 + 1, 1<<63 - 1} {
		p, code := impl.PartsPattern(k)
		isRefused(t, fmt.Sprint("PartsPattern ", k), noPattern(p), code, impl.ErrRange)
	}
}

// In the opposite pattern, just the other vertices are joined, so that opposite
// graphs have the same densities.
func TestOppositePatterns(t *testing.T) {
	random := seeded(82)
	for round, s := range shapesUpTo(4) {
		p := s.with(someWeights(random, s.graph.N, 12))
		q, code := impl.OppositePattern(p)
		if code != impl.OK || !impl.ValidPattern(q) || q.Graph.N != p.Graph.N || !slices.Equal(q.Weights, p.Weights) {
			t.Fatalf("OppositePattern %v: %v, code %d", p, q, code)
		}
		for a := range p.Graph.N {
			for b := range p.Graph.N {
				if meet(p, a, b) == meet(q, a, b) {
					t.Fatalf("OppositePattern %v is %v: parts %d and %d", p, q, a, b)
				}
			}
		}
		again, code := impl.OppositePattern(q)
		checkPattern(t, fmt.Sprint("OppositePattern ", q), again, code, p, impl.OK)
		for _, h := range freeOf(int64(round%5), nil) {
			opposite := impl.Graph{N: h.N, Edges: uint32(1)<<bitsOf(h.N) - 1 - h.Edges}
			if one, other := mustDensity(t, p, h), mustDensity(t, q, opposite); one != other {
				t.Fatalf("%v has the density %v in %v, and %v has %v in the opposite", h, one, p, opposite, other)
			}
		}
	}
	for _, bad := range badPatterns() {
		q, code := impl.OppositePattern(bad)
		isRefused(t, fmt.Sprint("OppositePattern ", bad), noPattern(q), code, impl.ErrInvalid)
	}
}

// Each two of these are different, although most differ from the first one in
// just one place; they need not be valid.
func TestSamePatterns(t *testing.T) {
	var list []impl.Pattern
	change := func(by func(p *impl.Pattern)) {
		p := impl.Pattern{Graph: impl.Graph{N: 2, Edges: 1}, Loops: 2, Weights: frs("1/2 1/2")}
		by(&p)
		list = append(list, p)
	}
	change(func(p *impl.Pattern) {})
	change(func(p *impl.Pattern) { *p = impl.Pattern{} })
	change(func(p *impl.Pattern) { p.Graph.N = 3 })
	change(func(p *impl.Pattern) { p.Graph.Edges = 0 })
	change(func(p *impl.Pattern) { p.Loops = 1 })
	change(func(p *impl.Pattern) { p.Loops = 1 << 31 })
	change(func(p *impl.Pattern) { p.Weights = nil })
	change(func(p *impl.Pattern) { p.Weights = p.Weights[:1] })
	change(func(p *impl.Pattern) { p.Weights = frs("1/2 1/2 0") })
	change(func(p *impl.Pattern) { p.Weights[0].P = -1 })
	change(func(p *impl.Pattern) { p.Weights[1].Q = 0 })
	change(func(p *impl.Pattern) { p.Weights[1] = impl.Fraction{P: 2, Q: 4} })
	for i, p := range list {
		for j, q := range list {
			q.Weights = slices.Clone(q.Weights)
			if impl.SamePattern(p, q) != (i == j) {
				t.Errorf("SamePattern %v, %v: %t", p, q, i != j)
			}
		}
	}
	if !impl.SamePattern(impl.Pattern{}, impl.Pattern{Weights: []impl.Fraction{}}) {
		t.Error("nil and empty weights make different patterns")
	}
}
