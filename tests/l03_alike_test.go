package tests

import (
	"fmt"
	"slices"
	"testing"

	"loop.example/g01169/impl"
)

// Promise 6, the first half: flags are alike just if their least flags are the
// same.

func TestLimitsOfFlags(t *testing.T) {
	if impl.MaxLabels != 3 || impl.MaxFlags != 64 {
		t.Errorf("MaxLabels %d and MaxFlags %d, want 3 and 64", impl.MaxLabels, impl.MaxFlags)
	}
}

func TestValidFlags(t *testing.T) {
	for _, g := range graphsUpTo(5) {
		for labels := int64(-2); labels < 8; labels++ {
			f := impl.Flag{Labels: labels, Graph: g}
			if got, want := impl.ValidFlag(f), labels >= 0 && labels <= 3 && labels <= g.N; got != want {
				t.Errorf("ValidFlag %v: %v, want %v", f, got, want)
			}
		}
	}
	for _, f := range badFlags() {
		if impl.ValidFlag(f) {
			t.Errorf("%v is valid", f)
		}
	}
}

func TestTypesAndSizes(t *testing.T) {
	for _, f := range flagsUpTo(5) {
		if got, code := impl.TypeOf(f); code != impl.OK || got != graphOn(f.Graph, upTo(f.Labels)) {
			t.Fatalf("TypeOf %v: %v, code %d, want %v", f, got, code, graphOn(f.Graph, upTo(f.Labels)))
		}
		if got, code := impl.SizeOf(f); code != impl.OK || got != f.Graph.N {
			t.Fatalf("SizeOf %v: %d, code %d", f, got, code)
		}
	}
	for _, bad := range badFlags() {
		if got, code := impl.TypeOf(bad); code != impl.ErrInvalid || got != (impl.Graph{}) {
			t.Errorf("TypeOf %v: %v, code %d, want ErrInvalid", bad, got, code)
		}
		if got, code := impl.SizeOf(bad); code != impl.ErrInvalid || got != 0 {
			t.Errorf("SizeOf %v: %d, code %d, want ErrInvalid", bad, got, code)
		}
	}
}

func TestFlagsOfGraphs(t *testing.T) {
	for _, g := range graphsUpTo(5) {
		plain, code := impl.PlainFlag(g)
		checkFlag(t, fmt.Sprint("PlainFlag ", g), plain, code, impl.Flag{Graph: g}, impl.OK)
		if g.N == 5 && g.Edges%17 != 0 {
			continue
		}
		for k := range min(g.N, 3) + 1 {
			for _, labels := range listsWithout(g.N, k) {
				got, code := impl.FlagOf(g, labels)
				want := impl.Flag{Labels: k, Graph: graphOn(g, withOthers(g.N, labels))}
				checkFlag(t, fmt.Sprint("FlagOf ", g, labels), got, code, want, impl.OK)
			}
		}
	}
	// The edges 0-1, 1-2, 2-3 with the labels at 2 and 0, behind which 1 and 3
	// follow: the flag is not turned into the least one.
	path := graph(t, "4 0-1 1-2 2-3")
	got, code := impl.FlagOf(path, []int64{2, 0})
	checkFlag(t, "FlagOf a path at 2 and 0", got, code, flag(t, 2, "graph 4 0-2 1-2 0-3"), impl.OK)
	got, code = impl.FlagOf(graph(t, "3 0-2"), []int64{0})
	checkFlag(t, "FlagOf an edge at 0", got, code, flag(t, 1, "graph 3 0-2"), impl.OK)
}

func TestFlagsOfGraphsRefuse(t *testing.T) {
	for _, g := range []impl.Graph{{}, {N: 1}, {N: 2, Edges: 1}, {N: 3, Edges: 5}, {N: 5, Edges: 1023}} {
		for _, labels := range [][]int64{{g.N}, {-1}, {0, 0}, {0, g.N}, {g.N - 1, g.N - 1}, {0, 1, 1}, {0, 1, 0}, {0, 1, 2, 3}, {0, 1, 2, 3, 4}, {0, 0, 0, 0}, {1 << 62}, {-1 << 63}, {0, 1<<63 - 1}} {
			got, code := impl.FlagOf(g, labels)
			checkFlag(t, fmt.Sprint("FlagOf ", g, labels), got, code, impl.Flag{}, impl.ErrRange)
		}
	}
	for _, bad := range badGraphs() {
		for _, labels := range [][]int64{nil, {0}, {-1}, {0, 0}, {0, 1, 2, 3}} {
			got, code := impl.FlagOf(bad, labels)
			checkFlag(t, fmt.Sprint("FlagOf ", bad, labels), got, code, impl.Flag{}, impl.ErrInvalid)
		}
		got, code := impl.PlainFlag(bad)
		checkFlag(t, fmt.Sprint("PlainFlag ", bad), got, code, impl.Flag{}, impl.ErrInvalid)
	}
}

func TestLeastFlagsAndSelves(t *testing.T) {
	for _, f := range flagsUpTo(5) {
		same := turned(f)
		least := f
		for g := range same {
			if g.Graph.Edges < least.Graph.Edges {
				least = g
			}
		}
		if got, code := impl.LeastFlag(f); code != impl.OK || got != least {
			t.Fatalf("LeastFlag %v: %v, code %d, want %v", f, got, code, least)
		}
		if got, code := impl.CountSelfFlag(f); code != impl.OK || got != same[f] {
			t.Fatalf("CountSelfFlag %v: %d, code %d, want %d", f, got, code, same[f])
		}
	}
	for labels, want := range []int64{120, 24, 6, 2} {
		for _, g := range []impl.Graph{{N: 5}, {N: 5, Edges: 1023}} {
			if got, code := impl.CountSelfFlag(impl.Flag{Labels: int64(labels), Graph: g}); code != impl.OK || got != want {
				t.Errorf("CountSelfFlag %v with %d labels: %d, code %d, want %d", g, labels, got, code, want)
			}
		}
	}
}

// Flags without labels are alike as their graphs are.
func TestFlagsWithoutLabels(t *testing.T) {
	for _, g := range graphsUpTo(4) {
		least, one := impl.LeastFlag(impl.Flag{Graph: g})
		self, two := impl.CountSelfFlag(impl.Flag{Graph: g})
		want, _ := impl.LeastGraph(g)
		count, _ := impl.CountSelf(g)
		if least != (impl.Flag{Graph: want}) || self != count || one != impl.OK || two != impl.OK {
			t.Errorf("%v without labels: %v and %d, codes %d %d, want %v and %d", g, least, self, one, two, want, count)
		}
	}
}

func TestFlagsAlikeJustIfLeastFlagsAreTheSame(t *testing.T) {
	for _, f := range flagsUpTo(4) {
		if f.Graph.N == 4 && f.Graph.Edges%5 != 0 {
			continue
		}
		same := turned(f)
		for _, g := range flagsUpTo(4) {
			checkAlikeFlags(t, f, g, same[g] > 0)
		}
	}
	for _, f := range everyFlag(5) {
		if f.Graph.Edges%97 != 5 {
			continue
		}
		same := turned(f)
		for _, g := range everyFlag(5) {
			checkAlikeFlags(t, f, g, same[g] > 0)
		}
	}
}

func checkAlikeFlags(t *testing.T, f, g impl.Flag, want bool) {
	t.Helper()
	alike, one := impl.AreAlikeFlags(f, g)
	first, two := impl.LeastFlag(f)
	second, three := impl.LeastFlag(g)
	if one != impl.OK || two != impl.OK || three != impl.OK || alike != want || want != (first == second) {
		t.Fatalf("%v and %v: AreAlikeFlags %v, least flags %v and %v, codes %d %d %d, want alike %v", f, g, alike, first, second, one, two, three, want)
	}
}

// Labels stay: flags can be alike as graphs, and even have types that are
// alike, and not be alike.
func TestFlagsThatAreAlikeAsGraphsOnly(t *testing.T) {
	for _, pair := range [][2]impl.Flag{
		{flag(t, 1, "graph 3 0-1 0-2"), flag(t, 1, "graph 3 0-1 1-2")},
		{flag(t, 2, "graph 3 0-2"), flag(t, 2, "graph 3 1-2")},
		{flag(t, 2, "graph 4 0-1 0-2 2-3"), flag(t, 2, "graph 4 0-1 1-2 2-3")},
		{flag(t, 3, "graph 3 0-1"), flag(t, 3, "graph 3 1-2")},
		{flag(t, 0, "graph 2 0-1"), flag(t, 1, "graph 2 0-1")},
		{flag(t, 1, "graph 2 0-1"), flag(t, 2, "graph 2 0-1")},
		{flag(t, 0, "graph 5"), flag(t, 3, "graph 5")},
	} {
		if alike, code := impl.AreAlike(pair[0].Graph, pair[1].Graph); !alike || code != impl.OK {
			t.Errorf("the graphs of %v are not alike", pair)
		}
		checkAlikeFlags(t, pair[0], pair[1], false)
		checkAlikeFlags(t, pair[1], pair[0], false)
	}
	checkAlikeFlags(t, flag(t, 2, "graph 4 0-2"), flag(t, 2, "graph 4 0-3"), true)
	checkAlikeFlags(t, flag(t, 1, "graph 3 0-2"), flag(t, 1, "graph 3 0-1"), true)
}

func TestAlikeOfInvalidFlags(t *testing.T) {
	good := impl.Flag{Labels: 1, Graph: impl.Graph{N: 1}}
	for _, bad := range badFlags() {
		for _, pair := range [][2]impl.Flag{{bad, good}, {good, bad}, {bad, bad}} {
			if alike, code := impl.AreAlikeFlags(pair[0], pair[1]); alike || code != impl.ErrInvalid {
				t.Errorf("AreAlikeFlags %v: %v, code %d, want ErrInvalid", pair, alike, code)
			}
		}
		least, code := impl.LeastFlag(bad)
		checkFlag(t, fmt.Sprint("LeastFlag ", bad), least, code, impl.Flag{}, impl.ErrInvalid)
		if n, code := impl.CountSelfFlag(bad); code != impl.ErrInvalid || n != 0 {
			t.Errorf("CountSelfFlag %v: %d, code %d, want ErrInvalid", bad, n, code)
		}
	}
}

func TestIndexOfFlags(t *testing.T) {
	flags := flagsUpTo(3)
	list := slices.Concat(flags, flags)
	for _, f := range flags {
		same := turned(f)
		first := slices.IndexFunc(list, func(g impl.Flag) bool { return same[g] > 0 })
		if got, code := impl.IndexOfFlag(f, list); code != impl.OK || got != int64(first) {
			t.Errorf("IndexOfFlag %v: %d, code %d, want %d", f, got, code, first)
		}
		others := slices.DeleteFunc(slices.Clone(list), func(g impl.Flag) bool { return same[g] > 0 })
		if got, code := impl.IndexOfFlag(f, others); code != impl.ErrNotFound || got != 0 {
			t.Errorf("IndexOfFlag %v in others: %d, code %d, want ErrNotFound", f, got, code)
		}
		for _, none := range [][]impl.Flag{nil, {}} {
			if got, code := impl.IndexOfFlag(f, none); code != impl.ErrNotFound || got != 0 {
				t.Errorf("IndexOfFlag %v in none: %d, code %d, want ErrNotFound", f, got, code)
			}
		}
	}
	five := flag(t, 2, "graph 5 0-1 0-2 2-3 3-4")
	for i, g := range []impl.Flag{flag(t, 2, "graph 5 0-1 1-2 2-3 3-4"), flag(t, 2, "graph 5 0-1 2-3 0-4 3-4"), flag(t, 2, "graph 5 0-1 0-3 2-3 3-4")} {
		got, code := impl.IndexOfFlag(five, []impl.Flag{{}, g})
		if want := []int64{impl.ErrNotFound, impl.OK, impl.ErrNotFound}[i]; code != want || got != int64(i%2) {
			t.Errorf("IndexOfFlag %v in a list with %v: %d, code %d, want code %d", five, g, got, code, want)
		}
	}
}

func TestIndexOfInvalidFlags(t *testing.T) {
	good, other := impl.Flag{Labels: 1, Graph: impl.Graph{N: 1}}, impl.Flag{Graph: impl.Graph{N: 1}}
	for _, bad := range badFlags() {
		for _, list := range [][]impl.Flag{nil, {bad}, {good}, {other}} {
			if got, code := impl.IndexOfFlag(bad, list); code != impl.ErrInvalid || got != 0 {
				t.Errorf("IndexOfFlag %v: %d, code %d, want ErrInvalid", bad, got, code)
			}
		}
		// Also behind the index that would be found.
		for _, list := range [][]impl.Flag{{bad}, {good, bad}, {bad, good}, {other, bad}, {other, bad, good}} {
			if got, code := impl.IndexOfFlag(good, list); code != impl.ErrInvalid || got != 0 {
				t.Errorf("IndexOfFlag in %v: %d, code %d, want ErrInvalid", list, got, code)
			}
		}
	}
}
