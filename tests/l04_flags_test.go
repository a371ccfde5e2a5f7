package tests

import (
	"fmt"
	"math/big"
	"slices"
	"testing"

	"loop.example/g01169/impl"
)

// Promise 7: densities of flags add up to 1, and are the same through every
// size; and each of them is the share of the sets of vertices that it tells.

// checkCount holds CountFlag and FlagDensity against the share of all choices.
func checkCount(t *testing.T, f, g impl.Flag, want impl.Fraction) {
	t.Helper()
	what := fmt.Sprint("FlagDensity ", f, g)
	got, code := impl.FlagDensity(f, g)
	checkFraction(t, what, got, code, want, impl.OK)
	count, code := impl.CountFlag(f, g)
	sets := int64(len(setsOfVertices(g.Graph.N-g.Labels, f.Graph.N-f.Labels)))
	if code != impl.OK || count*want.Q != want.P*sets {
		t.Fatalf("CountFlag %v %v: %d, code %d, of %d sets, want %v", f, g, count, code, sets, want)
	}
}

// All flags in all flags of their types, and turned in turned ones.
func TestFlagDensityIsTheShareOfAllChoices(t *testing.T) {
	for _, typ := range everyType() {
		flags := flagsOfType(typ)
		for _, g := range flags {
			for n := typ.N; n <= g.Graph.N; n++ {
				found := shares(g, n-typ.N)
				for i, f := range flagsWith(typ, n) {
					want := shareFor(found, f)
					checkCount(t, f, g, want)
					if i%5 == 0 {
						checkCount(t, backwards(f), backwards(g), want)
					}
				}
			}
		}
	}
}

// The numbers are written out here, so that the choices above cannot go wrong
// together with the program.
func TestFlagDensityOfFlagsThatAreWrittenOut(t *testing.T) {
	edge, gap := flag(t, 1, "graph 2 0-1"), flag(t, 1, "graph 2")
	middle, end := flag(t, 1, "graph 3 0-1 0-2"), flag(t, 1, "graph 3 0-1 1-2")
	house := flag(t, 0, "graph 5 0-1 0-2 1-2 1-3 2-4 3-4")
	both := flag(t, 2, "graph 3 0-2 1-2")
	for _, c := range []struct {
		f, g    impl.Flag
		count   int64
		density string
	}{
		{edge, middle, 2, "1"}, {gap, middle, 0, "0"}, {edge, end, 1, "1/2"}, {gap, end, 1, "1/2"}, {middle, end, 0, "0"}, {end, flag(t, 1, "graph 3 0-2 1-2"), 1, "1"},
		{impl.Flag{}, impl.Flag{}, 1, "1"}, {impl.Flag{}, house, 1, "1"}, {plain(impl.Graph{N: 1}), house, 5, "1"}, {flag(t, 0, "graph 2 0-1"), house, 6, "3/5"},
		{flag(t, 0, "graph 3 0-1 0-2 1-2"), house, 1, "1/10"}, {flag(t, 0, "graph 3 0-1"), house, 3, "3/10"}, {flag(t, 0, "graph 3 0-2 1-2"), house, 6, "3/5"}, {flag(t, 0, "graph 4 0-1 1-2 0-3 2-3"), house, 1, "1/5"},
		{flag(t, 1, "graph 1"), middle, 1, "1"}, {edge, flag(t, 1, "graph 5 0-1 0-3 1-3"), 2, "1/2"}, {end, flag(t, 1, "graph 5 0-1 1-2 1-3 1-4"), 3, "1/2"}, {house, house, 1, "1"},
		{both, flag(t, 2, "graph 5 0-2 1-2 0-3 1-3 0-4"), 2, "2/3"}, {flag(t, 2, "graph 3 0-2"), flag(t, 2, "graph 5 0-2 1-2 0-3 1-3 0-4"), 1, "1/3"}, {flag(t, 2, "graph 3 1-2"), flag(t, 2, "graph 5 0-2 1-2 0-3 1-3 0-4"), 0, "0"},
		{flag(t, 3, "graph 3 0-2"), flag(t, 3, "graph 5 0-2 0-3 3-4"), 1, "1"}, {flag(t, 3, "graph 4 0-2 0-3"), flag(t, 3, "graph 5 0-2 0-3 3-4"), 1, "1/2"}, {flag(t, 3, "graph 4 0-2 1-3"), flag(t, 3, "graph 5 0-2 0-3 3-4"), 0, "0"},
	} {
		checkCount(t, c.f, c.g, fr(c.density))
		if count, code := impl.CountFlag(c.f, c.g); count != c.count || code != impl.OK {
			t.Errorf("CountFlag %v %v: %d, code %d, want %d", c.f, c.g, count, code, c.count)
		}
	}
}

// FlagDensities of all sizes: in the order of all flags, adding up to 1, and
// refused just where there are more than MaxFlags of them.
func TestFlagDensitiesAddUpToOne(t *testing.T) {
	for _, typ := range everyType() {
		lists := map[int64][]impl.Flag{}
		for n := typ.N; n <= 5; n++ {
			lists[n] = flagsWith(typ, n)
		}
		for _, g := range flagsOfType(typ) {
			for n := typ.N; n <= g.Graph.N; n++ {
				got, code := impl.FlagDensities(n, backwards(g))
				if len(lists[n]) > impl.MaxFlags {
					isRefused(t, fmt.Sprint("FlagDensities ", n, g), len(got) == 0, code, impl.ErrLimit)
					continue
				}
				sum, found := new(big.Rat), shares(g, n-typ.N)
				var want []impl.Fraction
				for _, f := range lists[n] {
					want = append(want, shareFor(found, f))
				}
				for _, a := range got {
					sum.Add(sum, rat(a))
				}
				if code != impl.OK || !slices.Equal(got, want) || sum.Cmp(big.NewRat(1, 1)) != 0 {
					t.Fatalf("FlagDensities %d %v: %v with the sum %v, code %d, want %v", n, g, got, sum, code, want)
				}
			}
		}
	}
}

// There are 34 flags with 5 vertices without labels, and 90, 120 and 72 with 1,
// 2 and 3 labels: more than MaxFlags.
func TestDensitiesOfTypesWithTooManyFlags(t *testing.T) {
	for k, want := range []int64{impl.OK, impl.ErrLimit, impl.ErrLimit, impl.ErrLimit} {
		g := flag(t, int64(k), "graph 5 0-1 0-2 1-3 3-4")
		list, code := impl.FlagDensities(5, g)
		isRefused(t, fmt.Sprint("FlagDensities 5 ", g), want == impl.OK || len(list) == 0, code, want)
		for n := int64(k); n <= 5; n++ {
			f := impl.Flag{Labels: int64(k), Graph: graphOn(g.Graph, upTo(n))}
			value, code := impl.ThroughSize(f, g, 5)
			isRefused(t, fmt.Sprint("ThroughSize ", f, g), want == impl.OK || isZero(value), code, want)
			// The density itself is there.
			if got, code := impl.FlagDensity(f, g); code != impl.OK || got.P <= 0 {
				t.Errorf("FlagDensity %v %v: %v, code %d", f, g, got, code)
			}
		}
	}
}

func TestDensitiesAreTheSameThroughEverySize(t *testing.T) {
	for _, typ := range everyType() {
		flags := flagsOfType(typ)
		for j, g := range flags {
			for i, f := range flags {
				if f.Graph.N > g.Graph.N || g.Graph.N == 5 && (i+j)%7 > 0 {
					continue
				}
				want, code := impl.FlagDensity(f, g)
				if code != impl.OK {
					t.Fatalf("FlagDensity %v %v: code %d", f, g, code)
				}
				for size := f.Graph.N; size <= g.Graph.N; size++ {
					through, code := impl.ThroughSize(backwards(f), g, size)
					if size == 5 && typ.N > 0 {
						isRefused(t, fmt.Sprint("ThroughSize ", f, g, size), isZero(through), code, impl.ErrLimit)
					} else {
						checkFraction(t, fmt.Sprint("ThroughSize ", f, g, size), through, code, want, impl.OK)
					}
				}
			}
		}
	}
}

// JointDensity of all flags for which there is room, in all flags; together
// they add up to 1.
func TestJointDensityIsTheShareOfAllChoices(t *testing.T) {
	for _, typ := range everyType() {
		for i, g := range flagsOfType(typ) {
			if typ.N < 2 && g.Graph.N == 5 && i%3 > 0 {
				continue
			}
			room := g.Graph.N - typ.N
			for first := range room + 1 {
				for second := range room - first + 1 {
					checkJoint(t, g, flagsWith(typ, typ.N+first), flagsWith(typ, typ.N+second))
				}
			}
		}
	}
}

// checkJoint holds JointDensity of the flags of two sizes in another one
// against all choices.
func checkJoint(t *testing.T, g impl.Flag, ones, others []impl.Flag) {
	t.Helper()
	found := jointShares(g, ones[0].Graph.N-g.Labels, others[0].Graph.N-g.Labels)
	sum := new(big.Rat)
	for i, f := range ones {
		for j, h := range others {
			want := shareFor(found, [2]impl.Flag{f, h})
			one, other := f, h
			if (i+j)%3 == 0 {
				one, other = backwards(f), backwards(h)
			}
			got, code := impl.JointDensity(one, other, g)
			checkFraction(t, fmt.Sprint("JointDensity ", one, other, g), got, code, want, impl.OK)
			sum.Add(sum, rat(got))
		}
	}
	if sum.Cmp(big.NewRat(1, 1)) != 0 {
		t.Fatalf("the joint densities of %d and %d flags in %v add up to %v", len(ones), len(others), g, sum)
	}
}

func TestJointDensityOfFlagsThatAreWrittenOut(t *testing.T) {
	edge, gap, dot := flag(t, 1, "graph 2 0-1"), flag(t, 1, "graph 2"), flag(t, 1, "graph 1")
	middle, end := flag(t, 1, "graph 3 0-1 0-2"), flag(t, 1, "graph 3 0-1 1-2")
	line, vertex := flag(t, 0, "graph 2 0-1"), flag(t, 0, "graph 1")
	fan := flag(t, 1, "graph 5 0-1 0-2 1-2 0-3 3-4")
	for _, c := range []struct {
		f, h, g impl.Flag
		want    string
	}{
		{edge, edge, middle, "1"}, {edge, edge, end, "0"}, {edge, gap, end, "1/2"}, {gap, edge, end, "1/2"}, {gap, gap, end, "0"}, {dot, edge, end, "1/2"}, {dot, dot, dot, "1"}, {middle, dot, middle, "1"},
		{edge, edge, fan, "1/2"}, {edge, gap, fan, "1/4"}, {gap, gap, fan, "0"}, {middle, gap, fan, "1/6"}, {middle, edge, fan, "1/6"}, {end, flag(t, 1, "graph 3 0-1 0-2 1-2"), fan, "1/6"},
		{line, line, flag(t, 0, "graph 4 0-1 1-2 2-3"), "1/3"}, {line, line, flag(t, 0, "graph 4 0-1 0-2 0-3"), "0"}, {line, flag(t, 0, "graph 3 0-1 1-2"), flag(t, 0, "graph 5 0-1 1-2 2-3 0-4 3-4"), "1/2"},
		{line, vertex, flag(t, 0, "graph 3 0-1 1-2"), "2/3"}, {vertex, vertex, flag(t, 0, "graph 5 0-1"), "1"}, {impl.Flag{}, impl.Flag{}, impl.Flag{}, "1"}, {impl.Flag{}, line, line, "1"}, {line, impl.Flag{}, flag(t, 0, "graph 5 0-1"), "1/10"},
		{flag(t, 3, "graph 4 0-3"), flag(t, 3, "graph 4 1-3"), flag(t, 3, "graph 5 0-3 1-4"), "1/2"}, {flag(t, 3, "graph 4 0-3"), flag(t, 3, "graph 4 0-3"), flag(t, 3, "graph 5 0-3 1-4"), "0"}, {flag(t, 3, "graph 4 1-3"), flag(t, 3, "graph 3"), flag(t, 3, "graph 5 0-3 1-4"), "1/2"},
		// What is joined between both sets does not matter.
		{edge, edge, flag(t, 1, "graph 3 0-1 0-2 1-2"), "1"}, {line, line, flag(t, 0, "graph 4 0-1 0-2 1-2 0-3 1-3 2-3"), "1"},
	} {
		got, code := impl.JointDensity(c.f, c.h, c.g)
		checkFraction(t, fmt.Sprint("JointDensity ", c.f, c.h, c.g), got, code, fr(c.want), impl.OK)
	}
}

// FarthestFlags of all flags with up to four vertices.
func TestFarthestFlags(t *testing.T) {
	for _, typ := range everyType() {
		var small []impl.Flag
		for n := typ.N; n <= 4; n++ {
			small = append(small, flagsWith(typ, n)...)
		}
		var found []map[impl.Flag]*big.Rat
		for _, g := range flagsWith(typ, 4) {
			all := map[impl.Flag]*big.Rat{}
			for count := range 4 - typ.N + 1 {
				for f, share := range shares(g, count) {
					all[f] = share
				}
			}
			found = append(found, all)
		}
		for _, f := range small {
			for _, h := range small {
				greatest := new(big.Rat)
				for _, all := range found {
					difference := new(big.Rat).Sub(rat(shareFor(all, f)), rat(shareFor(all, h)))
					if difference.Abs(difference).Cmp(greatest) > 0 {
						greatest = difference
					}
				}
				got, code := impl.FarthestFlags(backwards(f), h)
				checkFraction(t, fmt.Sprint("FarthestFlags ", f, h), got, code, ofRat(greatest), impl.OK)
			}
		}
	}
}

func TestFarthestFlagsThatAreWrittenOut(t *testing.T) {
	line, triangle := flag(t, 0, "graph 2 0-1"), flag(t, 0, "graph 3 0-1 0-2 1-2")
	edge, dot := flag(t, 1, "graph 2 0-1"), flag(t, 1, "graph 1")
	for _, c := range []struct {
		f, h impl.Flag
		want string
	}{
		{line, line, "0"}, {line, triangle, "2/3"}, {triangle, line, "2/3"}, {line, flag(t, 0, "graph 2"), "1"}, {impl.Flag{}, impl.Flag{}, "0"}, {impl.Flag{}, line, "1"}, {impl.Flag{}, flag(t, 0, "graph 1"), "0"},
		{edge, dot, "1"}, {edge, flag(t, 1, "graph 3 0-1 0-2"), "1"}, {flag(t, 1, "graph 3 0-1 0-2"), flag(t, 1, "graph 3 0-1 0-2 1-2"), "1"}, {flag(t, 0, "graph 3 0-1"), flag(t, 0, "graph 3 0-1 1-2"), "1"}, {flag(t, 1, "graph 3 0-1 1-2"), flag(t, 1, "graph 4 0-1 1-2"), "2/3"},
		{flag(t, 3, "graph 3 0-2"), flag(t, 3, "graph 4 0-2 1-3"), "1"}, {flag(t, 3, "graph 4 0-2"), flag(t, 3, "graph 4 0-2"), "0"}, {flag(t, 2, "graph 4 0-2 1-3"), flag(t, 2, "graph 4 1-2 0-3"), "0"},
	} {
		got, code := impl.FarthestFlags(c.f, c.h)
		checkFraction(t, fmt.Sprint("FarthestFlags ", c.f, c.h), got, code, fr(c.want), impl.OK)
	}
}
