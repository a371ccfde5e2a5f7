package tests

import (
	"fmt"
	"slices"
	"testing"

	"loop.example/g01169/impl"
)

// Promise 1, for chapter 4: every function returns for all arguments, modifies
// no argument, and returns equal results for equal arguments.

// calls4 calls every function of chapter 4, and returns all results.
func calls4(f, h, g impl.Flag, n int64, flags []impl.Flag) []any {
	var out []any
	add := func(results ...any) { out = append(out, results...) }
	count, code := impl.CountFlag(f, g)
	add(count, code)
	for _, call := range []func() (impl.Fraction, int64){
		func() (impl.Fraction, int64) { return impl.FlagDensity(f, g) },
		func() (impl.Fraction, int64) { return impl.JointDensity(f, h, g) },
		func() (impl.Fraction, int64) { return impl.ThroughSize(f, g, n) },
		func() (impl.Fraction, int64) { return impl.GraphDensity(f.Graph, g.Graph) },
		func() (impl.Fraction, int64) { return impl.EdgeDensity(g.Graph) },
		func() (impl.Fraction, int64) { return impl.AverageFactor(g) },
		func() (impl.Fraction, int64) { return impl.AverageDensity(f, g.Graph) },
		func() (impl.Fraction, int64) { return impl.FarthestFlags(f, h) },
	} {
		value, code := call()
		add(value, code)
	}
	list, code := impl.FlagDensities(n, g)
	add(list, code)
	list, code = impl.GraphDensities(n, g.Graph)
	add(list, code)
	table, code := impl.PairTable(flags, g)
	add(table, code)
	table, code = impl.PairAverages(flags, g.Graph)
	add(table, code)
	return out
}

func TestDensityCallsModifyNothingAndRepeat(t *testing.T) {
	some := append(badFlags()[:14], impl.Flag{}, flag(t, 1, "graph 1"), flag(t, 1, "graph 2 0-1"), flag(t, 1, "graph 3 0-2"), flag(t, 1, "graph 5 0-2 1-3"), flag(t, 2, "graph 2 0-1"), flag(t, 2, "graph 4 0-1 0-3"), flag(t, 3, "graph 3 0-1"), flag(t, 3, "graph 5 0-1 2-3 1-4"), flag(t, 0, "graph 4 2-3"), flag(t, 0, "graph 2"))
	for i, f := range some {
		for j, g := range some {
			h, n := some[(i+2*j)%len(some)], int64((i+j)%8)-1
			flags, whole := withRoom([]impl.Flag{f, h}[:1+(i+j)%2], impl.Flag{Labels: 7})
			before := fmt.Sprint(whole)
			first := fmt.Sprint(calls4(f, h, g, n, flags))
			second := fmt.Sprint(calls4(f, h, g, n, flags))
			if after := fmt.Sprint(whole); before != after {
				t.Fatalf("arguments %s became %s", before, after)
			}
			if first != second {
				t.Fatalf("two results for %v, %v, %v and %d: %s and %s", f, h, g, n, first, second)
			}
		}
	}
}

func TestDensityCallsTakeNilAndEmptyAlike(t *testing.T) {
	for _, f := range []impl.Flag{{}, flag(t, 0, "graph 3 0-2"), flag(t, 2, "graph 4 1-3")} {
		first, second := fmt.Sprint(calls4(f, f, f, 2, nil)), fmt.Sprint(calls4(f, f, f, 2, []impl.Flag{}))
		if first != second {
			t.Errorf("%v: %s with nil, and %s with an empty slice", f, first, second)
		}
	}
}

// Results are overwritten, to the end of their capacity: neither arguments nor
// other rows, nor later results, change by it.
func TestDensityResultsAreNewMemory(t *testing.T) {
	g := flag(t, 1, "graph 4 0-1 1-2 0-3")
	flags := []impl.Flag{flag(t, 1, "graph 2"), flag(t, 1, "graph 2 0-1")}
	results := func() [][]impl.Fraction {
		ofFlags, _ := impl.FlagDensities(3, g)
		ofGraphs, _ := impl.GraphDensities(3, g.Graph)
		table, _ := impl.PairTable(flags, g)
		averages, _ := impl.PairAverages(flags, g.Graph)
		return slices.Concat([][]impl.Fraction{ofFlags, ofGraphs}, table, averages)
	}
	lists := results()
	before := fmt.Sprint(lists, flags)
	for i, list := range lists {
		others := fmt.Sprint(lists[:i], lists[i+1:])
		kept := slices.Clone(list)
		overwrite(list, impl.Fraction{P: 77, Q: 78})
		if after := fmt.Sprint(lists[:i], lists[i+1:]); others != after {
			t.Errorf("%s became %s with the list %d", others, after, i)
		}
		copy(list, kept)
	}
	for _, list := range lists {
		overwrite(list, impl.Fraction{P: 77, Q: 78})
	}
	if after := fmt.Sprint(results(), flags); before != after {
		t.Errorf("results %s became %s", before, after)
	}
}

func TestDensityCallsOfSeveralGoroutines(t *testing.T) {
	call := func() string {
		edge, gap := impl.Flag{Labels: 1, Graph: impl.Graph{N: 2, Edges: 1}}, impl.Flag{Labels: 1, Graph: impl.Graph{N: 2}}
		g := impl.Flag{Labels: 1, Graph: impl.Graph{N: 4, Edges: 0b101100}}
		return fmt.Sprint(calls4(edge, gap, g, 3, []impl.Flag{edge, gap}), calls4(impl.Flag{}, impl.Flag{}, impl.Flag{Graph: g.Graph}, 2, nil))
	}
	checkGoroutines(t, call)
}

// The greatest arguments for which every function has to return.
func TestDensityCallsOfGreatArguments(t *testing.T) {
	const many = 1000000
	g := flag(t, 3, "graph 5 0-1 1-2 0-4")
	flags := copiesOf(flag(t, 3, "graph 4 0-1 1-2 0-3"), many)
	checkTables(t, flags, g, impl.ErrLimit, impl.ErrLimit)
	flags[many-1].Labels = 2
	checkTables(t, flags, g, impl.ErrLimit, impl.ErrLimit)
	flags[many-1].Labels = 4
	checkTables(t, flags, g, impl.ErrInvalid, impl.ErrInvalid)
	for _, n := range []int64{-1 << 63, 1<<63 - 1, 1 << 32, -1 << 32} {
		calls4(g, g, g, n, flags[:impl.MaxMatrix])
		for _, f := range badFlags() {
			calls4(f, f, f, n, []impl.Flag{f})
			calls4(f, g, g, n, []impl.Flag{g, f})
			calls4(g, f, g, n, []impl.Flag{f, g})
		}
	}
}
