package tests

import (
	"fmt"
	"slices"
	"testing"

	"loop.example/g01169/impl"
)

// Promises 7 and 8 where there is no density: each function returns the error
// that the document names first, and nothing else.

// checkParts calls the functions that look for f, or for f and h, in g.
func checkParts(t *testing.T, f, h, g impl.Flag, alone, joint int64) {
	t.Helper()
	what := fmt.Sprint(f, h, g)
	count, code := impl.CountFlag(f, g)
	isRefused(t, "CountFlag "+what, alone == impl.OK || count == 0, code, alone)
	value, code := impl.FlagDensity(f, g)
	isRefused(t, "FlagDensity "+what, alone == impl.OK || isZero(value), code, alone)
	value, code = impl.JointDensity(f, h, g)
	isRefused(t, "JointDensity "+what, joint == impl.OK || isZero(value), code, joint)
	value, code = impl.JointDensity(h, f, g)
	isRefused(t, "JointDensity turned round "+what, joint == impl.OK || isZero(value), code, joint)
}

func TestFlagsThatAreNotValidHaveNoDensity(t *testing.T) {
	dot, edge := flag(t, 1, "graph 1"), flag(t, 1, "graph 2 0-1")
	great, other := flag(t, 1, "graph 5 0-1"), flag(t, 2, "graph 5 0-1")
	for _, bad := range badFlags() {
		checkParts(t, bad, edge, great, impl.ErrInvalid, impl.ErrInvalid)
		checkParts(t, bad, bad, bad, impl.ErrInvalid, impl.ErrInvalid)
		checkParts(t, bad, other, edge, impl.ErrInvalid, impl.ErrInvalid)
		checkParts(t, edge, dot, bad, impl.ErrInvalid, impl.ErrInvalid)
		checkParts(t, great, other, bad, impl.ErrInvalid, impl.ErrInvalid)
		checkParts(t, edge, bad, great, impl.OK, impl.ErrInvalid)
		checkParts(t, other, bad, great, impl.ErrState, impl.ErrInvalid)
		for _, p := range [][2]impl.Flag{{bad, edge}, {edge, bad}, {bad, bad}, {other, bad}, {bad, other}, {great, bad}, {bad, great}} {
			for _, size := range []int64{-1, 0, 1, 2, 5, 6} {
				value, code := impl.ThroughSize(p[0], p[1], size)
				isRefused(t, fmt.Sprint("ThroughSize ", p, size), isZero(value), code, impl.ErrInvalid)
			}
			value, code := impl.FarthestFlags(p[0], p[1])
			isRefused(t, fmt.Sprint("FarthestFlags ", p), isZero(value), code, impl.ErrInvalid)
		}
		for _, size := range []int64{-1 << 63, -1, 0, 1, 2, 5, 6} {
			list, code := impl.FlagDensities(size, bad)
			isRefused(t, fmt.Sprint("FlagDensities ", size, bad), len(list) == 0, code, impl.ErrInvalid)
		}
		value, code := impl.AverageFactor(bad)
		isRefused(t, fmt.Sprint("AverageFactor ", bad), isZero(value), code, impl.ErrInvalid)
	}
}

// Types differ by their labels, by their edges, and also where they are alike
// as graphs; that comes before the sizes.
func TestFlagsOfDifferentTypesHaveNoDensity(t *testing.T) {
	none, one, two := flag(t, 0, "graph 2 0-1"), flag(t, 1, "graph 2 0-1"), flag(t, 2, "graph 2 0-1")
	apart, left, right := flag(t, 2, "graph 3 0-2"), flag(t, 3, "graph 3 0-1"), flag(t, 3, "graph 3 0-2")
	for _, pair := range [][2]impl.Flag{{none, one}, {one, two}, {none, two}, {two, apart}, {left, right}, {apart, right}, {impl.Flag{}, flag(t, 1, "graph 1")}} {
		for range 2 {
			f, g := pair[0], pair[1]
			great := impl.Flag{Labels: g.Labels, Graph: impl.Graph{N: 5, Edges: g.Graph.Edges}}
			for _, in := range []impl.Flag{g, great} {
				checkParts(t, f, f, in, impl.ErrState, impl.ErrState)
				checkParts(t, f, in, in, impl.ErrState, impl.ErrState)
				for _, size := range []int64{-1, 0, 3, 5, 6} {
					value, code := impl.ThroughSize(f, in, size)
					isRefused(t, fmt.Sprint("ThroughSize ", f, in, size), isZero(value), code, impl.ErrState)
					value, code = impl.ThroughSize(in, f, size)
					isRefused(t, fmt.Sprint("ThroughSize ", in, f, size), isZero(value), code, impl.ErrState)
				}
				value, code := impl.FarthestFlags(f, in)
				isRefused(t, fmt.Sprint("FarthestFlags ", f, in), isZero(value), code, impl.ErrState)
				value, code = impl.FarthestFlags(in, f)
				isRefused(t, fmt.Sprint("FarthestFlags ", in, f), isZero(value), code, impl.ErrState)
			}
			// One of three flags has another type.
			joint, code := impl.JointDensity(g, f, great)
			isRefused(t, fmt.Sprint("JointDensity ", g, f, great), isZero(joint), code, impl.ErrState)
			pair[0], pair[1] = pair[1], pair[0]
		}
	}
}

// Flags as great as the other one, and greater by one vertex.
func TestFlagsThatAreTooGreatHaveNoDensity(t *testing.T) {
	for _, typ := range everyType() {
		sized := func(n int64) impl.Flag {
			return impl.Flag{Labels: typ.N, Graph: impl.Graph{N: n, Edges: typ.Edges}}
		}
		for f := typ.N; f <= 5; f++ {
			for g := typ.N; g <= 5; g++ {
				for h := typ.N; h <= 5; h++ {
					alone, joint := int64(impl.OK), int64(impl.OK)
					if f > g {
						alone = impl.ErrRange
					}
					if f+h-typ.N > g {
						joint = impl.ErrRange
					}
					checkParts(t, sized(f), sized(h), sized(g), alone, joint)
				}
				for _, size := range []int64{-1 << 63, -1, 0, 1, 2, 3, 4, 5, 6, 1<<63 - 1} {
					want := int64(impl.OK)
					if size < f || size > g {
						want = impl.ErrRange
					} else if size == 5 && typ.N > 0 {
						want = impl.ErrLimit
					}
					value, code := impl.ThroughSize(sized(f), sized(g), size)
					isRefused(t, fmt.Sprint("ThroughSize ", f, g, size), want == impl.OK || isZero(value), code, want)
				}
				want := int64(impl.OK)
				if f > 4 || g > 4 {
					want = impl.ErrRange
				}
				value, code := impl.FarthestFlags(sized(f), sized(g))
				isRefused(t, fmt.Sprint("FarthestFlags ", f, g), want == impl.OK || isZero(value), code, want)
			}
			for _, size := range []int64{-1 << 63, -1, typ.N - 1, typ.N, f, f + 1, 6, 1<<63 - 1} {
				want := int64(impl.OK)
				if size < typ.N || size > f {
					want = impl.ErrRange
				} else if size == 5 && typ.N > 0 {
					want = impl.ErrLimit
				}
				list, code := impl.FlagDensities(size, sized(f))
				isRefused(t, fmt.Sprint("FlagDensities ", size, sized(f)), want == impl.OK || len(list) == 0, code, want)
			}
		}
	}
}

func TestGraphsWithoutDensities(t *testing.T) {
	for _, bad := range badGraphs() {
		for _, g := range []impl.Graph{{}, {N: 1}, {N: 5, Edges: 1023}, bad} {
			value, code := impl.GraphDensity(bad, g)
			isRefused(t, fmt.Sprint("GraphDensity ", bad, g), isZero(value), code, impl.ErrInvalid)
			value, code = impl.GraphDensity(g, bad)
			isRefused(t, fmt.Sprint("GraphDensity ", g, bad), isZero(value), code, impl.ErrInvalid)
		}
		for _, n := range []int64{-1 << 63, -1, 0, 2, 5, 6, bad.N} {
			list, code := impl.GraphDensities(n, bad)
			isRefused(t, fmt.Sprint("GraphDensities ", n, bad), len(list) == 0, code, impl.ErrInvalid)
		}
		value, code := impl.EdgeDensity(bad)
		isRefused(t, fmt.Sprint("EdgeDensity ", bad), isZero(value), code, impl.ErrInvalid)
	}
	for n := range int64(6) {
		for m := range int64(6) {
			want := int64(impl.OK)
			if m > n {
				want = impl.ErrRange
			}
			value, code := impl.GraphDensity(impl.Graph{N: m}, impl.Graph{N: n})
			isRefused(t, fmt.Sprint("GraphDensity ", m, n), want == impl.OK || isZero(value), code, want)
		}
		for _, m := range []int64{-1 << 63, -1, 0, n, n + 1, 6, 1<<63 - 1} {
			want := int64(impl.OK)
			if m < 0 || m > n {
				want = impl.ErrRange
			}
			list, code := impl.GraphDensities(m, impl.Graph{N: n})
			isRefused(t, fmt.Sprint("GraphDensities ", m, n), want == impl.OK || len(list) == 0, code, want)
		}
	}
}

func TestGraphsWithoutAverages(t *testing.T) {
	edge := flag(t, 1, "graph 2 0-1")
	for _, bad := range badGraphs() {
		value, code := impl.AverageDensity(edge, bad)
		isRefused(t, fmt.Sprint("AverageDensity ", edge, bad), isZero(value), code, impl.ErrInvalid)
	}
	for _, bad := range badFlags() {
		for _, g := range append(badGraphs(), impl.Graph{}, impl.Graph{N: 5}) {
			value, code := impl.AverageDensity(bad, g)
			isRefused(t, fmt.Sprint("AverageDensity ", bad, g), isZero(value), code, impl.ErrInvalid)
		}
	}
	for _, typ := range everyType() {
		for n := typ.N; n <= 5; n++ {
			f := impl.Flag{Labels: typ.N, Graph: impl.Graph{N: n, Edges: typ.Edges}}
			for m := range int64(6) {
				want := int64(impl.OK)
				if n > m {
					want = impl.ErrRange
				}
				value, code := impl.AverageDensity(f, impl.Graph{N: m})
				isRefused(t, fmt.Sprint("AverageDensity ", f, m), want == impl.OK || isZero(value), code, want)
			}
		}
	}
}

// checkTables calls PairTable and PairAverages, for which the codes may differ.
func checkTables(t *testing.T, flags []impl.Flag, g impl.Flag, table, averages int64) {
	t.Helper()
	what := fmt.Sprint(len(flags), flags[:min(len(flags), 9)], g)
	m, code := impl.PairTable(flags, g)
	isRefused(t, "PairTable "+what, table == impl.OK || len(m) == 0, code, table)
	m, code = impl.PairAverages(flags, g.Graph)
	isRefused(t, "PairAverages "+what, averages == impl.OK || len(m) == 0, code, averages)
}

func TestPairsOfFlagsThatAreNotValid(t *testing.T) {
	edge, great := flag(t, 1, "graph 2 0-1"), flag(t, 1, "graph 5 0-1")
	for _, bad := range badFlags() {
		many := append(copiesOf(edge, impl.MaxMatrix+1), bad)
		for _, flags := range [][]impl.Flag{{bad}, {bad, edge}, {edge, edge, bad}, {edge, great, bad}, {impl.Flag{}, bad}, {bad, bad}, many} {
			checkTables(t, flags, great, impl.ErrInvalid, impl.ErrInvalid)
			checkTables(t, flags, impl.Flag{}, impl.ErrInvalid, impl.ErrInvalid)
			checkTables(t, flags, bad, impl.ErrInvalid, impl.ErrInvalid)
		}
	}
	for _, bad := range badGraphs() {
		g := impl.Flag{Labels: 1, Graph: bad}
		for _, flags := range [][]impl.Flag{nil, {}, {edge}, {edge, great}, {edge, flag(t, 2, "graph 2 0-1")}, copiesOf(edge, impl.MaxMatrix+1), copiesOf(great, 2)} {
			checkTables(t, flags, g, impl.ErrInvalid, impl.ErrInvalid)
		}
	}
	// A graph that is valid under labels that are not.
	checkTables(t, []impl.Flag{edge}, impl.Flag{Labels: 4, Graph: impl.Graph{N: 5}}, impl.ErrInvalid, impl.OK)
}

// MaxMatrix flags and one more, none, other types and other sizes.
func TestPairsOfFlagsThatAreTooManyOrDifferent(t *testing.T) {
	edge, great, small := flag(t, 1, "graph 2 0-1"), flag(t, 1, "graph 5 0-1"), flag(t, 1, "graph 1")
	dot, two, gap := flag(t, 0, "graph 2 0-1"), flag(t, 2, "graph 2 0-1"), flag(t, 2, "graph 2")
	many := copiesOf(edge, impl.MaxMatrix+1)
	checkTables(t, many[:impl.MaxMatrix], great, impl.OK, impl.OK)
	for _, flags := range [][]impl.Flag{many, append(slices.Clone(many), dot), copiesOf(great, 9), append(copiesOf(edge, 8), great), append(copiesOf(edge, 8), gap)} {
		checkTables(t, flags, great, impl.ErrLimit, impl.ErrLimit)
		checkTables(t, flags, small, impl.ErrLimit, impl.ErrLimit)
		checkTables(t, flags, impl.Flag{}, impl.ErrLimit, impl.ErrLimit)
	}
	for _, flags := range [][]impl.Flag{
		nil, {}, {edge, dot}, {dot, edge}, {edge, two}, {two, gap}, {gap, gap, two}, append(copiesOf(edge, 7), dot), {edge, great}, {great, edge}, {edge, edge, small}, {small, edge}, append(copiesOf(edge, 7), small),
		{flag(t, 3, "graph 3 0-1"), flag(t, 3, "graph 3 0-2")}, {impl.Flag{}, dot}, {two, flag(t, 2, "graph 3 0-1")},
	} {
		checkTables(t, flags, great, impl.ErrState, impl.ErrState)
		checkTables(t, flags, small, impl.ErrState, impl.ErrState)
		checkTables(t, flags, impl.Flag{}, impl.ErrState, impl.ErrState)
		checkTables(t, flags, two, impl.ErrState, impl.ErrState)
	}
}

// The type of g matters for PairTable alone, and comes before the room.
func TestPairsInFlagsOfOtherTypes(t *testing.T) {
	edge, two := flag(t, 1, "graph 2 0-1"), flag(t, 2, "graph 3 0-1")
	for _, c := range []struct {
		flags    []impl.Flag
		g        impl.Flag
		averages int64
	}{
		{[]impl.Flag{edge}, flag(t, 0, "graph 5 0-1"), impl.OK}, {[]impl.Flag{edge}, flag(t, 2, "graph 5 0-1"), impl.OK}, {[]impl.Flag{two}, flag(t, 2, "graph 4 0-2"), impl.OK}, {[]impl.Flag{two, two}, flag(t, 3, "graph 4 0-1"), impl.OK},
		{[]impl.Flag{edge}, flag(t, 0, "graph 2 0-1"), impl.ErrRange}, {[]impl.Flag{edge}, impl.Flag{}, impl.ErrRange}, {[]impl.Flag{two}, flag(t, 2, "graph 3"), impl.ErrRange}, {[]impl.Flag{two}, flag(t, 1, "graph 1"), impl.ErrRange},
	} {
		checkTables(t, c.flags, c.g, impl.ErrState, c.averages)
	}
}

// Just enough room for both flags, and one vertex less; also for graphs with
// fewer vertices than labels.
func TestPairsWithoutRoom(t *testing.T) {
	for _, typ := range everyType() {
		for n := typ.N; n <= 5; n++ {
			f := impl.Flag{Labels: typ.N, Graph: impl.Graph{N: n, Edges: typ.Edges}}
			for m := range int64(6) {
				want := int64(impl.OK)
				if 2*n-typ.N > m {
					want = impl.ErrRange
				}
				averages, code := impl.PairAverages([]impl.Flag{f, f}, impl.Graph{N: m})
				isRefused(t, fmt.Sprint("PairAverages ", f, m), want == impl.OK || len(averages) == 0, code, want)
				if m < typ.N {
					continue
				}
				g := impl.Flag{Labels: typ.N, Graph: impl.Graph{N: m, Edges: typ.Edges}}
				table, code := impl.PairTable([]impl.Flag{f, f}, g)
				isRefused(t, fmt.Sprint("PairTable ", f, g), want == impl.OK || len(table) == 0, code, want)
			}
		}
	}
}
