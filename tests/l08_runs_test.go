package tests

import (
	"math/big"
	"math/rand/v2"
	"slices"
	"testing"

	"loop.example/g01169/impl"
)

// Promise 17: what is proved is true in each pattern without forbidden parts;
// whatever is lost, the verdict is the proof.

// lossyDeeds returns up to n deeds by which tasks are given and worked at, while
// packets are lost, copied and come in again, and the desk crashes.
func lossyDeeds(random *rand.Rand, m *model, n int) []impl.Deed {
	var list []impl.Deed
	do := func(kind, a, b int64) {
		if len(list) < n {
			list = append(list, impl.Deed{Kind: kind, A: a, B: b})
			m.do(list[len(list)-1])
		}
	}
	for len(list) < n {
		worker := random.Int64N(m.workers)
		do(impl.DdGive, worker, random.Int64N(m.tasks()+1))
		for range random.IntN(3) {
			at := random.Int64N(int64(len(m.wire)) + 1)
			do([]int64{impl.DdDeliver, impl.DdDeliver, impl.DdCopy, impl.DdDrop}[random.IntN(4)], at, 0)
		}
		do(impl.DdWork, worker, 0)
		switch random.IntN(14) {
		case 0:
			do(impl.DdCrash, 0, 0)
		case 1, 2:
			do(impl.DdSave, 0, 0)
		}
	}
	return list
}

// provedCase returns a case whose matrices are positive, with its best bound, and
// whether there is one.
func provedCase(t *testing.T, random *rand.Rand) (impl.Case, bool) {
	t.Helper()
	s, c := someCase(t, random, someFractionsOf(random)[0])
	c.Blocks = nil
	for range random.IntN(4) {
		kinds := kindsInRoom(c.Size)
		c.Blocks = append(c.Blocks, squareOn(random, kinds[random.IntN(len(kinds))]))
	}
	best, code := impl.BestBound(s, c)
	s.Bound = best
	made := caseOf(s, c, 1+random.Int64N(3))
	return made, code == impl.OK && impl.ValidCase(made)
}

// known is a case that is proved, and a pattern that reaches its bound.
type known struct {
	c    impl.Case
	best impl.Pattern
}

// knownCases returns Mantel's bound, Goodman's, and that at most all pairs are
// edges.
func knownCases(t *testing.T) []known {
	t.Helper()
	goodman := impl.Statement{Target: inOrder(impl.Graph{}, 3, "-1 0 0 -1"), Bound: fr("-1/4")}
	all := impl.Statement{Target: edgeSum(), Bound: fr("1")}
	return []known{
		{mantelCase("1/2", 2), pattern(t, "2 0-1", 0, "1/2 1/2")},
		{caseOf(goodman, certificateOf(3, blockOn(pair, "3/4 -3/4;-3/4 3/4")), 3), pattern(t, "2", 3, "1/2 1/2")},
		{caseOf(all, certificateOf(4), 1), pattern(t, "1", 1, "1")},
	}
}

// checkTrue fails if the value of the sum of a statement in a pattern is greater
// than the bound; it returns how much it is less.
func checkTrue(t *testing.T, s impl.Statement, p impl.Pattern) *big.Rat {
	t.Helper()
	value := new(big.Rat)
	for _, term := range s.Target.Terms {
		value.Add(value, new(big.Rat).Mul(rat(term.By), rat(mustDensity(t, p, term.Flag.Graph))))
	}
	if value.Cmp(rat(s.Bound)) > 0 {
		t.Fatalf("%v is proved, but has the value %v in %v", s, value, p)
	}
	return value.Sub(rat(s.Bound), value)
}

// checkRun does deeds on lossy lines, from the beginning of a desk on, and those
// of FinishDeeds; the verdict is that of FirstFault. It reports whether the
// statement is proved.
func checkRun(t *testing.T, random *rand.Rand, c impl.Case, start *model, n int) bool {
	t.Helper()
	m := start.again()
	before := lossyDeeds(random, m, min(n, 300-9-4*len(m.values)))
	checkDeeds(t, c, before, m)
	verdict := checkFinished(t, c, start, before)
	proved, code := impl.IsProved(c.Statement, c.Certificate)
	if code != impl.OK || proved != (verdict[0] == impl.VdProved) {
		t.Fatalf("IsProved %v: %t, code %d, but the verdict is %v", c, proved, code, verdict)
	}
	return proved
}

// Cases of all kinds: with faults of matrices and of slacks, and without.
func TestWholeRuns(t *testing.T) {
	random := seeded(130)
	counts := map[int64]int{}
	for round := range 120 {
		c := someDeskCase(t, random)
		if round < 36 {
			c = deskCases()[round%12]
		}
		start := modelOf(t, c)
		for _, n := range []int{0, 20, 130, 291} {
			checkRun(t, random, c, start, n)
		}
		fault, _, _ := impl.FirstFault(c.Statement, c.Certificate)
		counts[fault]++
	}
	for _, fault := range []int64{0, impl.FtMatrix, impl.FtSlack} {
		if counts[fault] < 20 {
			t.Errorf("too few faults of the kind %d: %v", fault, counts)
		}
	}
}

// What is proved at the end of a run is true in each free pattern.
func TestWhatIsProvedIsTrueInFreePatterns(t *testing.T) {
	random := seeded(131)
	checked, tight, blocks := 0, 0, 0
	for checked < 1500 {
		c, found := provedCase(t, random)
		if !found {
			continue
		}
		if !checkRun(t, random, c, modelOf(t, c), 60) {
			t.Fatalf("not proved: %v", c)
		}
		for range 25 {
			p := somePattern(random, 4, 1+random.Int64N(12))
			if free, code := impl.IsPatternFree(p, c.Statement.Forbidden); code != impl.OK || !free {
				continue
			}
			checked++
			blocks += len(c.Certificate.Blocks)
			if checkTrue(t, c.Statement, p).Sign() == 0 {
				tight++
			}
		}
	}
	if tight < 30 || blocks < 600 {
		t.Errorf("%d of %d patterns reach the bound, with %d blocks", tight, checked, blocks)
	}
}

// The bounds that are known are reached, and a lesser one is not proved.
func TestKnownBounds(t *testing.T) {
	random := seeded(132)
	for _, of := range knownCases(t) {
		c, best := of.c, of.best
		if !checkRun(t, random, c, modelOf(t, c), 200) {
			t.Errorf("not proved: %v", c)
		}
		if free, code := impl.IsPatternFree(best, c.Statement.Forbidden); code != impl.OK || !free || checkTrue(t, c.Statement, best).Sign() != 0 {
			t.Errorf("%v does not reach the bound of %v", best, c)
		}
		free := 0
		for _, s := range shapesUpTo(3) {
			p := s.with(someWeights(random, s.graph.N, 12))
			if is, _ := impl.IsPatternFree(p, c.Statement.Forbidden); is {
				free++
				checkTrue(t, c.Statement, p)
			}
		}
		if free < 10 {
			t.Errorf("only %d patterns are free", free)
		}
		bound := new(big.Rat).Sub(rat(c.Statement.Bound), big.NewRat(1, 1000))
		c.Statement.Bound = ofRat(bound)
		if checkRun(t, random, c, modelOf(t, c), 200) {
			t.Errorf("proved: %v", c)
		}
	}
}

// A pattern that refutes a statement keeps every certificate from proving it.
func TestWhatIsNotTrueIsNotProved(t *testing.T) {
	random := seeded(133)
	two := pattern(t, "2 0-1", 0, "1/2 1/2")
	for round := range 60 {
		s := mantel("1/2")
		s.Bound = ofRat(big.NewRat(random.Int64N(500), 1000))
		c := impl.Certificate{Size: 2 + int64(round)%4}
		for range random.IntN(4) {
			c.Blocks = append(c.Blocks, someBlock(random, c.Size, someFractionsOf(random)[0]))
		}
		made := caseOf(s, c, 2)
		if !impl.ValidCase(made) {
			continue
		}
		if checkRun(t, random, made, modelOf(t, made), 100) {
			t.Errorf("proved, but not true in %v: %v", two, made)
		}
	}
}

// All runs of a case end with the same results, also with other workers.
func TestRunsEndAlike(t *testing.T) {
	random := seeded(134)
	for _, c := range deskCases() {
		var first []impl.Result
		for round := range 8 {
			c.Workers = 1 + int64(round)%3
			m := modelOf(t, c)
			before := lossyDeeds(random, m, 100)
			plan, code := impl.FinishDeeds(c, before)
			d, _, codeOfDesk := impl.DeskAfter(c, append(before, plan...))
			if code != impl.OK || codeOfDesk != impl.OK || int64(len(d.Benches)) != c.Workers {
				t.Fatalf("%v after %v: code %d, code %d", c, before, code, codeOfDesk)
			}
			if round == 0 {
				first = d.Results
			}
			if !slices.Equal(d.Results, first) || !slices.Equal(d.Saved, first) {
				t.Fatalf("%v ends with %v, and an earlier run with %v", c, d, first)
			}
		}
	}
}
