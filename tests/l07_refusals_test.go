package tests

import (
	"fmt"
	"testing"

	"loop.example/g01169/impl"
)

// Promises 13 and 14 where there is no result: each function returns the error
// that the document names first, and nothing else.

// checkRefusedPattern calls all functions of a pattern that is not valid, with
// arguments that would return no error, and with such that would return others.
func checkRefusedPattern(t *testing.T, p impl.Pattern) {
	t.Helper()
	what := fmt.Sprint(p)
	for _, h := range []impl.Graph{{}, {N: 2, Edges: 1}, {N: 5, Edges: 1023}, {N: 6}} {
		chance, code := impl.ChanceIn(p, h)
		isRefused(t, fmt.Sprint("ChanceIn ", what, h), isZero(chance), code, impl.ErrInvalid)
		density, code := impl.DensityIn(p, h)
		isRefused(t, fmt.Sprint("DensityIn ", what, h), isZero(density), code, impl.ErrInvalid)
		list, code := impl.FirstMapOf(p, h)
		isRefused(t, fmt.Sprint("FirstMapOf ", what, h), len(list) == 0, code, impl.ErrInvalid)
		for _, n := range []int{0, 1, 6, 7} {
			free, code := impl.IsPatternFree(p, times(h, n))
			isRefused(t, fmt.Sprint("IsPatternFree ", what, h, n), !free, code, impl.ErrInvalid)
		}
	}
	for n := int64(-1); n <= 6; n++ {
		list, code := impl.DensitiesIn(p, n)
		isRefused(t, fmt.Sprint("DensitiesIn ", what, n), len(list) == 0, code, impl.ErrInvalid)
		for _, share := range []impl.Fraction{fr("1/2"), fr("2"), {}} {
			q, code := impl.SplitPart(p, n, share)
			isRefused(t, fmt.Sprint("SplitPart ", what, n, share), noPattern(q), code, impl.ErrInvalid)
		}
		q, code := impl.JoinParts(p, n, 0)
		isRefused(t, fmt.Sprint("JoinParts ", what, n), noPattern(q), code, impl.ErrInvalid)
	}
	for _, sizes := range [][]int64{nil, {1}, {1, 1}, {0, 0, 0, 1}, {-1}, {9, 9}} {
		g, code := impl.BlowUp(p, sizes)
		isRefused(t, fmt.Sprint("BlowUp ", what, sizes), g == impl.Graph{}, code, impl.ErrInvalid)
	}
}

func TestPatternsThatAreNotValidAreRefused(t *testing.T) {
	for _, p := range badPatterns() {
		checkRefusedPattern(t, p)
	}
}

func TestGraphsThatAreNotValidBesidePatterns(t *testing.T) {
	for _, p := range []impl.Pattern{pattern(t, "1", 1, "1"), pattern(t, "2 0-1", 0, "0 1"), pattern(t, "4", 15, wideSums)} {
		for _, bad := range badGraphs() {
			chance, code := impl.ChanceIn(p, bad)
			isRefused(t, fmt.Sprint("ChanceIn ", p, bad), isZero(chance), code, impl.ErrInvalid)
			density, code := impl.DensityIn(p, bad)
			isRefused(t, fmt.Sprint("DensityIn ", p, bad), isZero(density), code, impl.ErrInvalid)
			list, code := impl.FirstMapOf(p, bad)
			isRefused(t, fmt.Sprint("FirstMapOf ", p, bad), len(list) == 0, code, impl.ErrInvalid)
			for n := range 8 {
				free, code := impl.IsPatternFree(p, append(times(impl.Graph{}, n), bad))
				isRefused(t, fmt.Sprint("IsPatternFree ", p, n, bad), !free, code, impl.ErrInvalid)
				free, code = impl.IsPatternFree(p, append([]impl.Graph{bad}, times(impl.Graph{}, n)...))
				isRefused(t, fmt.Sprint("IsPatternFree ", p, bad, n), !free, code, impl.ErrInvalid)
			}
		}
	}
}

// The size comes before fractions that are too large.
func TestSizesWithoutDensities(t *testing.T) {
	for _, p := range []impl.Pattern{pattern(t, "1", 0, "1"), pattern(t, "2 0-1", 0, "1/31623 31622/31623"), pattern(t, "4", 3, wideSums)} {
		for _, n := range []int64{-1 << 63, -1, 6, 7, 1 << 32, 1<<32 + 1, 1<<63 - 1} {
			list, code := impl.DensitiesIn(p, n)
			isRefused(t, fmt.Sprint("DensitiesIn ", p, n), len(list) == 0, code, impl.ErrRange)
		}
		for n, count := range []int{1, 1, 2, 4, 11, 34} {
			want := int64(impl.OK)
			if p.Graph.N > 1 && n > 1 {
				want, count = impl.ErrLimit, 0
			}
			list, code := impl.DensitiesIn(p, int64(n))
			isRefused(t, fmt.Sprint("DensitiesIn ", p, n), len(list) == count, code, want)
		}
	}
}

// A part that does not exist, and a share that is none, come before the number of
// parts and before fractions that are too large.
func TestPartsThatAreNotDivided(t *testing.T) {
	patterns := []impl.Pattern{pattern(t, "1", 0, "1"), pattern(t, "2 0-1", 2, "1/31623 31622/31623"), pattern(t, "3", 0, "1/2 0 1/2"), pattern(t, "4 0-1", 3, "1/4 1/4 1/4 1/4")}
	shares := append(badFractions(), frs("-1 2 -1/2 3/2 -1/1000000000 1000000000 1000000000/999999999 -1000000000")...)
	for _, p := range patterns {
		for part := range p.Graph.N {
			for _, share := range shares {
				q, code := impl.SplitPart(p, part, share)
				isRefused(t, fmt.Sprint("SplitPart ", p, part, share), noPattern(q), code, impl.ErrRange)
			}
		}
		for _, part := range []int64{-1 << 63, -1, p.Graph.N, p.Graph.N + 1, 1 << 32, 1<<63 - 1} {
			for _, share := range append(frs("0 1 1/2 1/31623 2"), impl.Fraction{}) {
				q, code := impl.SplitPart(p, part, share)
				isRefused(t, fmt.Sprint("SplitPart ", p, part, share), noPattern(q), code, impl.ErrRange)
			}
		}
	}
	for _, share := range frs("0 1 1/2") {
		q, code := impl.SplitPart(patterns[3], 1, share)
		isRefused(t, fmt.Sprint("SplitPart of four parts ", share), noPattern(q), code, impl.ErrLimit)
	}
	for _, share := range frs("0 1 1/1000000000 999999999/1000000000") {
		q, code := impl.SplitPart(patterns[0], 0, share)
		isRefused(t, fmt.Sprint("SplitPart ", share), impl.ValidPattern(q), code, impl.OK)
	}
}
