package tests

import (
	"fmt"
	"slices"
	"strings"
	"testing"

	"loop.example/g01169/impl"
)

// Promise 1, for chapter 7: every function returns for all arguments, modifies
// no argument, and returns equal results for equal arguments.

// calls7 calls every function of chapter 7, and returns all results.
func calls7(p, q impl.Pattern, h impl.Graph, n, m int64, share impl.Fraction, forbidden []impl.Graph, sizes []int64, text string) []any {
	out := []any{impl.ValidPattern(p), impl.SamePattern(p, q), impl.PatternText(p)}
	add := func(results ...any) { out = append(out, results...) }
	for _, f := range []func() (impl.Pattern, int64){
		func() (impl.Pattern, int64) { return impl.EvenPattern(p.Graph, p.Loops) },
		func() (impl.Pattern, int64) { return impl.PartsPattern(n) },
		func() (impl.Pattern, int64) { return impl.OppositePattern(p) },
		func() (impl.Pattern, int64) { return impl.SplitPart(p, n, share) },
		func() (impl.Pattern, int64) { return impl.JoinParts(p, n, m) },
		func() (impl.Pattern, int64) { return impl.ReadPattern(text) },
	} {
		made, code := f()
		add(made, code)
	}
	value, code := impl.ChanceIn(p, h)
	add(value, code)
	value, code = impl.DensityIn(p, h)
	add(value, code)
	list, code := impl.DensitiesIn(p, n)
	add(list, code)
	free, code := impl.IsPatternFree(p, forbidden)
	add(free, code)
	first, code := impl.FirstMapOf(p, h)
	add(first, code)
	g, code := impl.BlowUp(p, sizes)
	add(g, code)
	best, most, code := impl.BestWeights(p.Graph, p.Loops, h, m)
	add(best, most, code)
	return out
}

func TestPatternCallsModifyNothingAndRepeat(t *testing.T) {
	random := seeded(100)
	badP, badG, badF := badPatterns(), badGraphs(), badFractions()
	lists := forbiddenLists(t)
	texts := []string{"", "pattern graph 1\nloops 0\nweights 1\n", "pattern graph 2 0-1\nloops\nweights 1/2 1/2\n", "pattern graph 1\nloops\n", "statement 1\n"}
	for round := range 600 {
		p, q := somePattern(random, 4, 12), somePattern(random, 4, []int64{12, 31623, 1000000000}[round%3])
		h, share, forbidden := impl.Graph{N: 3, Edges: random.Uint32N(8)}, someWeights(random, 2, 7)[0], lists[random.IntN(len(lists))]
		switch round % 12 {
		case 8:
			p = badP[random.IntN(len(badP))]
		case 9:
			h = badG[random.IntN(len(badG))]
		case 10:
			share = badF[random.IntN(len(badF))]
		case 11:
			p, forbidden = q, append(times(h, 6), badG[random.IntN(len(badG))])
		}
		var sizes []int64
		for range len(p.Weights) {
			sizes = append(sizes, random.Int64N(3))
		}
		more := fr("77/78")
		weights, wholeP := withRoom(p.Weights, more)
		others, wholeQ := withRoom(q.Weights, more)
		p.Weights, q.Weights = weights, others
		forbidden, wholeForbidden := withRoom(forbidden, impl.Graph{N: 7})
		sizes, wholeSizes := withRoom(sizes, 7)
		n, m, text := random.Int64N(7)-1, random.Int64N(15)-1, texts[round%5]
		before := fmt.Sprint(wholeP, wholeQ, wholeForbidden, wholeSizes)
		first := fmt.Sprint(calls7(p, q, h, n, m, share, forbidden, sizes, text))
		second := fmt.Sprint(calls7(p, q, h, n, m, share, forbidden, sizes, text))
		if after := fmt.Sprint(wholeP, wholeQ, wholeForbidden, wholeSizes); before != after {
			t.Fatalf("arguments %s became %s", before, after)
		}
		if first != second {
			t.Fatalf("two results for %v and %v: %s and %s", p, h, first, second)
		}
	}
}

func TestPatternCallsTakeNilAndEmptyAlike(t *testing.T) {
	none, one := impl.Graph{}, fr("1")
	first := fmt.Sprint(calls7(impl.Pattern{}, impl.Pattern{}, none, 0, 0, one, nil, nil, ""))
	empty := impl.Pattern{Weights: []impl.Fraction{}}
	second := fmt.Sprint(calls7(empty, empty, none, 0, 0, one, []impl.Graph{}, []int64{}, ""))
	if first != second {
		t.Errorf("%s with nil, and %s with empty slices", first, second)
	}
	p := pattern(t, "1", 0, "1")
	first = fmt.Sprint(calls7(p, p, none, 0, 0, one, nil, nil, ""))
	second = fmt.Sprint(calls7(p, p, none, 0, 0, one, []impl.Graph{}, []int64{}, ""))
	if first != second {
		t.Errorf("%s with nil, and %s with empty slices", first, second)
	}
}

// Results are overwritten, to the end of their capacity: neither arguments nor
// later results change by it.
func TestPatternResultsAreNewMemory(t *testing.T) {
	p, h := pattern(t, "3 0-1 1-2", 2, "1/3 1/3 1/3"), impl.Graph{N: 3, Edges: 3}
	sizes, forbidden := []int64{1, 1, 2}, times(h, 2)
	results := func() []any {
		text := impl.PatternText(p)
		return slices.Concat(calls7(p, p, h, 0, 2, fr("1/2"), forbidden, sizes, text), calls7(p, p, h, 3, 12, fr("0"), forbidden, sizes, text), calls7(p, p, h, 2, 1, fr("1"), forbidden, sizes, text))
	}
	before := fmt.Sprint(results(), p, sizes, forbidden)
	patterns := 0
	for _, result := range results() {
		switch result := result.(type) {
		case impl.Pattern:
			overwrite(result.Weights, fr("77/78"))
			if len(result.Weights) > 0 {
				patterns++
			}
		case []impl.Fraction:
			overwrite(result, fr("77/78"))
		case []int64:
			overwrite(result, 77)
		}
	}
	if after := fmt.Sprint(results(), p, sizes, forbidden); before != after {
		t.Errorf("results %s became %s", before, after)
	}
	if patterns < 15 {
		t.Errorf("only %d patterns are made", patterns)
	}
}

func TestPatternCallsOfSeveralGoroutines(t *testing.T) {
	p, q := pattern(t, "4 0-1 1-2 2-3", 5, "1/4 1/4 1/3 1/6"), pattern(t, "2 0-1", 0, "1/31623 31622/31623")
	pentagon, forbidden := graph(t, "5 0-1 1-2 2-3 0-4 3-4"), []impl.Graph{{N: 3, Edges: 7}}
	checkGoroutines(t, func() string {
		return fmt.Sprint(calls7(p, q, pentagon, 4, 12, fr("1/2"), forbidden, []int64{1, 2, 1, 1}, impl.PatternText(q)), calls7(q, p, pentagon, 1, 0, fr("1/31623"), forbidden, []int64{2, 2}, impl.PatternText(p)))
	})
}

// The workers that find the best weights are done in whichever order.
func TestBestWeightsRepeat(t *testing.T) {
	h := graph(t, "4 0-1 1-2 0-3 2-3")
	for _, s := range []shape{{impl.Graph{N: 4, Edges: 63}, 0}, {impl.Graph{N: 4, Edges: 41}, 10}, {impl.Graph{N: 4}, 0}, {impl.Graph{N: 4, Edges: 63}, 15}} {
		checkGoroutines(t, func() string {
			text := ""
			for range 20 {
				q, a, code := impl.BestWeights(s.graph, s.loops, h, 12)
				text = fmt.Sprint(q, a, code)
			}
			return text
		})
	}
}

// The greatest arguments for which every function has to return.
func TestPatternCallsOfGreatArguments(t *testing.T) {
	const many, greatest, least = 1000000, 1<<63 - 1, -1 << 63
	p := pattern(t, "2 0-1", 1, "1/2 1/2")
	triangle := impl.Graph{N: 3, Edges: 7}
	forbidden, sizes := times(triangle, many), make([]int64, many)
	long := impl.Pattern{Graph: p.Graph, Weights: slices.Repeat(frs("0"), many)}
	for _, g := range []impl.Graph{triangle, {N: least}, {N: greatest, Edges: 1<<32 - 1}} {
		for _, n := range []int64{least, least + 1, -1, 0, 1, 12, greatest - 1, greatest} {
			for _, share := range []impl.Fraction{fr("1/2"), {P: least, Q: greatest}, {P: greatest, Q: greatest}} {
				for _, text := range []string{strings.Repeat(" ", many), strings.Repeat("\n", many), "pattern graph 1\nloops " + strings.Repeat("0 ", many/2), "pattern graph 2\nloops\nweights " + strings.Repeat("0 ", many/2)} {
					calls7(p, long, g, n, n, share, forbidden[:7], sizes[:3], text)
					calls7(long, p, g, n, greatest-n, share, nil, nil, text)
				}
			}
		}
	}
	q, code := impl.OppositePattern(long)
	isRefused(t, "OppositePattern of many weights", noPattern(q), code, impl.ErrInvalid)
	free, code := impl.IsPatternFree(p, forbidden)
	isRefused(t, "IsPatternFree of many", !free, code, impl.ErrLimit)
	forbidden[many-1].N = -1
	free, code = impl.IsPatternFree(p, forbidden)
	isRefused(t, "IsPatternFree of many, the last one not valid", !free, code, impl.ErrInvalid)
	g, code := impl.BlowUp(p, sizes)
	isRefused(t, "BlowUp of many sizes", g == impl.Graph{}, code, impl.ErrRange)
	if impl.ValidPattern(long) || impl.SamePattern(long, p) || !impl.SamePattern(long, impl.Pattern{Graph: p.Graph, Weights: slices.Clone(long.Weights)}) {
		t.Error("a pattern with many weights is valid, or not the same")
	}
}
