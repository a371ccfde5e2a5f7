package tests

import (
	"fmt"
	"math/big"
	"slices"
	"testing"

	"loop.example/g01169/impl"
)

// Promise 11: a statement is proved just if it has no fault, up to its best
// bound.

func TestProofs(t *testing.T) {
	random := seeded(65)
	counts := map[string]int{}
	for round := range 450 {
		s, c := someCase(t, random, someFractionsOf(random)[round%3])
		p := checkProof(t, s, c)
		counts[fmt.Sprint("fault ", p.fault, " code ", p.faultCode)]++
		counts[fmt.Sprint("best ", p.bestCode)]++
		// The same certificate with the bound at its best, and just below it.
		if p.bestCode == impl.OK {
			s.Bound = p.best
			counts[fmt.Sprint("at the best ", checkProof(t, s, c).provedCode)]++
		}
	}
	for _, what := range []string{"fault 1 code 0", "fault 2 code 0", "fault 0 code 3", "fault 0 code 6", "best 0", "best 3", "best 6", "best 8", "at the best 0"} {
		if counts[what] < 15 {
			t.Errorf("too few of %q: %v", what, counts)
		}
	}
}

// With positive matrices, the best bound is proved, and no lesser one; tight are
// the graphs that keep it from being less.
func TestBestBoundsAreProvedAndNoLesserOnes(t *testing.T) {
	random, checked := seeded(66), 0
	for checked < 60 {
		s, c := someCase(t, random, someFractionsOf(random)[0])
		c.Blocks = nil
		for range random.IntN(3) {
			kinds := kindsInRoom(c.Size)
			c.Blocks = append(c.Blocks, squareOn(random, kinds[random.IntN(len(kinds))]))
		}
		best, code := impl.BestBound(s, c)
		if code == impl.ErrNotFound {
			continue
		}
		x := valueOf(t)(best, code)
		checked++
		for _, step := range []string{"-1/2", "-1/997", "0", "1/997", "1/2"} {
			s.Bound = ofRat(new(big.Rat).Add(x, rat(fr(step))))
			if proved, code := impl.IsProved(s, c); code != impl.OK || proved != (step[0] != '-') {
				t.Fatalf("IsProved %v, %v: %t, code %d, and the best bound is %v", s, c, proved, code, best)
			}
			again, code := impl.BestBound(s, c)
			checkFraction(t, fmt.Sprint("BestBound ", s, c), again, code, best, impl.OK)
			tight, code := impl.TightGraphs(s, c)
			if step == "0" && len(tight) == 0 || step[0] == '1' && len(tight) > 0 || code != impl.OK {
				t.Fatalf("TightGraphs %v, %v: %v, code %d, and the best bound is %v", s, c, tight, code, best)
			}
		}
	}
}

// What is proved holds in each graph with as many vertices: the value of the
// target, and of all blocks, is at most the bound. Here it is a sum of densities
// of graphs, added up anew.
func TestProvedStatementsHoldInGraphs(t *testing.T) {
	s, c := mantel("1/2"), certified()
	for _, g := range everyGraph(3) {
		if contains(g, s.Forbidden[0]) {
			continue
		}
		edges := valueOf(t)(impl.EdgeDensity(g))
		value := valueOf(t)(impl.BlockValue(c.Blocks[0], g))
		if new(big.Rat).Add(edges, value).Cmp(big.NewRat(1, 2)) > 0 {
			t.Errorf("%v has the edges %v and the block %v", g, edges, value)
		}
	}
}

func TestProofsThatAreWrittenOut(t *testing.T) {
	none, wedge := impl.Graph{}, impl.Graph{N: 3, Edges: 3}
	goodman := impl.Statement{Target: inOrder(none, 3, "-1 0 0 -1"), Bound: fr("-1/4")}
	for _, c := range []struct {
		s            impl.Statement
		c            impl.Certificate
		slacks, best string
		tight        []impl.Graph
		fault, at    int64
		codeOfFault  int64
		codeOfBest   int64
		codeOfTight  int64
		proved       bool
	}{
		{mantel("1/2"), certified(), "0 1/3 0", "1/2", []impl.Graph{{N: 3}, wedge}, 0, 0, impl.ErrNotFound, impl.OK, impl.OK, true},
		{mantel("1/3"), certified(), "-1/6 1/6 -1/6", "1/2", nil, impl.FtSlack, 0, impl.OK, impl.OK, impl.OK, false},
		{mantel("2/3"), certificateOf(3), "2/3 1/3 0", "2/3", []impl.Graph{wedge}, 0, 0, impl.ErrNotFound, impl.OK, impl.OK, true},
		{mantel("1/2"), certificateOf(3), "1/2 1/6 -1/6", "2/3", nil, impl.FtSlack, 2, impl.OK, impl.OK, impl.OK, false},
		{mantel("1/2"), certificateOf(2), "1/2 -1/2", "1", nil, impl.FtSlack, 1, impl.OK, impl.OK, impl.OK, false},
		{mantel("1/2"), certificateOf(3, blockOn(pair, "1/2 1/2;1/2 1/2")), "0 -1/3 -2/3", "7/6", []impl.Graph{{N: 3}}, impl.FtSlack, 1, impl.OK, impl.OK, impl.OK, false},
		{mantel("1/2"), certificateOf(3, blockOn(pair, "1/2 -1/2;-1/2 1/3")), "0 1/3 1/18", "1/2", []impl.Graph{{N: 3}}, impl.FtMatrix, 0, impl.OK, impl.ErrProof, impl.ErrProof, false},
		{goodman, certificateOf(3, blockOn(pair, "3/4 -3/4;-3/4 3/4")), "0 0 0 0", "-1/4", []impl.Graph{{N: 3}, {N: 3, Edges: 1}, wedge, {N: 3, Edges: 7}}, 0, 0, impl.ErrNotFound, impl.OK, impl.OK, true},
		{goodman, certificateOf(3), "3/4 -1/4 -1/4 3/4", "0", nil, impl.FtSlack, 1, impl.OK, impl.OK, impl.OK, false},
		{impl.Statement{Bound: fr("0")}, impl.Certificate{}, "0", "0", []impl.Graph{{}}, 0, 0, impl.ErrNotFound, impl.OK, impl.OK, true},
		{impl.Statement{Forbidden: []impl.Graph{{}}, Bound: fr("-1")}, certificateOf(5), "", "", nil, 0, 0, impl.ErrNotFound, impl.ErrNotFound, impl.OK, true},
		{impl.Statement{Forbidden: []impl.Graph{{N: 1}}, Bound: fr("-1")}, certificateOf(1, blockOn(kind{none, 0}, "2")), "", "", nil, 0, 0, impl.ErrNotFound, impl.ErrNotFound, impl.OK, true},
		{impl.Statement{Forbidden: []impl.Graph{{N: 1}}, Bound: fr("-1")}, impl.Certificate{}, "-1", "0", nil, impl.FtSlack, 0, impl.OK, impl.OK, impl.OK, false},
		{impl.Statement{Forbidden: []impl.Graph{{N: 1}}, Bound: fr("-1")}, certificateOf(1, blockOn(kind{none, 0}, "-2")), "", "", nil, impl.FtMatrix, 0, impl.OK, impl.ErrProof, impl.ErrProof, false},
	} {
		checkProof(t, c.s, c.c)
		slacks, code := impl.SlacksOf(c.s, c.c)
		if !slices.Equal(slacks, frs(c.slacks)) || code != impl.OK {
			t.Errorf("SlacksOf %v, %v: %v, code %d, want %s", c.s, c.c, slacks, code, c.slacks)
		}
		fault, at, code := impl.FirstFault(c.s, c.c)
		if fault != c.fault || at != c.at || code != c.codeOfFault {
			t.Errorf("FirstFault %v, %v: %d at %d, code %d", c.s, c.c, fault, at, code)
		}
		if proved, code := impl.IsProved(c.s, c.c); proved != c.proved || code != impl.OK {
			t.Errorf("IsProved %v, %v: %t, code %d", c.s, c.c, proved, code)
		}
		want := impl.Fraction{}
		if c.codeOfBest == impl.OK {
			want = fr(c.best)
		}
		best, code := impl.BestBound(c.s, c.c)
		checkFraction(t, fmt.Sprint("BestBound ", c.s, c.c), best, code, want, c.codeOfBest)
		if c.codeOfTight != impl.OK {
			c.tight = nil
		}
		tight, code := impl.TightGraphs(c.s, c.c)
		if !slices.Equal(tight, c.tight) || code != c.codeOfTight {
			t.Errorf("TightGraphs %v, %v: %v, code %d", c.s, c.c, tight, code)
		}
	}
}

// A slack that is just less than 0 is a fault, one that is 0 is none, in each
// graph alone.
func TestSlacksJustLessThanZero(t *testing.T) {
	none := impl.Graph{}
	for size := range int64(6) {
		graphs := flagsOf(kind{none, size})
		for i, f := range graphs {
			s := impl.Statement{Target: impl.FlagSum{Type: none, Size: size, Terms: []impl.Term{{Flag: f, By: fr("1")}}}, Bound: fr("1")}
			if p := checkProof(t, s, certificateOf(size)); !p.proved || len(p.tight) != 1 {
				t.Fatalf("%v is tight in %v", s, p.tight)
			}
			s.Bound = fr("999999999/1000000000")
			if p := checkProof(t, s, certificateOf(size)); p.proved || p.at != int64(i) || p.fault != impl.FtSlack || len(p.tight) > 0 {
				t.Fatalf("%v has the fault %d at %d", s, p.fault, p.at)
			}
			// Without this graph, there is no fault.
			if g := f.Graph; g.Edges == 1<<bitsOf(size)-1 {
				s.Forbidden = []impl.Graph{g}
				if p := checkProof(t, s, certificateOf(size)); !p.proved || len(p.slacks) != len(graphs)-1 {
					t.Fatalf("%v has the fault %d at %d", s, p.fault, p.at)
				}
			}
		}
	}
}

// The second of two blocks has a fault, or the first one, or both.
func TestFaultsOfLaterBlocks(t *testing.T) {
	good, bad, zero := blockOn(pair, "1/2 -1/2;-1/2 1/2"), blockOn(pair, "1/2 -1/2;-1/2 1/3"), blockOn(pair, "0 0;0 0")
	for n := range impl.MaxBlocks {
		for m := range impl.MaxBlocks {
			c := certificateOf(3, good, zero, good, zero, good, zero)
			c.Blocks[n], c.Blocks[m] = bad, bad
			p := checkProof(t, mantel("10"), c)
			if p.fault != impl.FtMatrix || p.at != int64(min(n, m)) {
				t.Errorf("blocks %d and %d: the fault %d at %d", n, m, p.fault, p.at)
			}
		}
	}
}
