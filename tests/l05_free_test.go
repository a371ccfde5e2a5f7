package tests

import (
	"fmt"
	"testing"

	"loop.example/g01169/impl"
)

// Promises 9 and 10, for sums without some flags: what is left out, and the
// least fraction of what is left.

func TestSumsWithoutForbiddenFlags(t *testing.T) {
	random := seeded(31)
	lists := forbiddenLists(t)
	for _, k := range everyKind() {
		for _, forbidden := range lists {
			a := someSum(random, k, someFractionsOf(random)[2])
			want := impl.FlagSum{Type: k.typ, Size: k.size}
			for _, term := range a.Terms {
				if len(withoutParts([]impl.Flag{term.Flag}, forbidden)) == 1 {
					want.Terms = append(want.Terms, term)
				}
			}
			got, code := impl.WithoutForbidden(a, forbidden)
			checkSum(t, fmt.Sprint("WithoutForbidden ", a, forbidden), got, code, want, impl.OK)
		}
	}
}

// wantLeast returns what LeastValue has to return for a valid sum, if just some
// flags are free.
func wantLeast(a impl.FlagSum, free []impl.Flag) (impl.Fraction, impl.Flag, int64) {
	if len(free) > 64 {
		return impl.Fraction{}, impl.Flag{}, impl.ErrLimit
	}
	if len(free) == 0 {
		return impl.Fraction{}, impl.Flag{}, impl.ErrNotFound
	}
	by := map[impl.Flag]impl.Fraction{}
	for _, f := range free {
		by[f] = fr("0")
	}
	for _, term := range a.Terms {
		by[term.Flag] = term.By
	}
	least := free[0]
	for _, f := range free {
		if rat(by[f]).Cmp(rat(by[least])) < 0 {
			least = f
		}
	}
	return by[least], least, impl.OK
}

func checkLeast(t *testing.T, a impl.FlagSum, forbidden []impl.Graph, by impl.Fraction, f impl.Flag, wantCode int64) {
	t.Helper()
	got, first, code := impl.LeastValue(a, forbidden)
	if got != by || first != f || code != wantCode {
		t.Errorf("LeastValue %v %v: %v of %v, code %d, want %v of %v, code %d", a, forbidden, got, first, code, by, f, wantCode)
	}
}

// The fractions come more than once, so that there is a first flag of several.
func TestLeastValues(t *testing.T) {
	random, found := seeded(32), map[int64]int{}
	lists := forbiddenLists(t)
	few := frs("0 -1 -1 1/2 3 1000000000 999999999/1000000000 -1000000000 -999999999/1000000000")
	for _, k := range everyKind() {
		for _, forbidden := range lists {
			free := withoutParts(flagsOf(k), forbidden)
			for round := range 4 {
				a := someSum(random, k, func() impl.Fraction { return few[random.IntN(3+2*round)] })
				if round == 3 {
					a = inOrder(k.typ, k.size, "")
				}
				by, f, code := wantLeast(a, free)
				checkLeast(t, a, forbidden, by, f, code)
				found[code]++
			}
		}
	}
	for _, code := range []int64{impl.OK, impl.ErrLimit, impl.ErrNotFound} {
		if found[code] < 50 {
			t.Errorf("only %d least values with the code %d", found[code], code)
		}
	}
}

func TestLeastValuesThatAreWrittenOut(t *testing.T) {
	none, dot := impl.Graph{}, impl.Graph{N: 1}
	triangle, edge, vertex := graph(t, "3 0-1 0-2 1-2"), graph(t, "2 0-1"), graph(t, "1")
	for _, c := range []struct {
		a         impl.FlagSum
		forbidden []impl.Graph
		by        string
		least     impl.Flag
	}{
		{inOrder(dot, 2, "0 1"), nil, "0", flag(t, 1, "graph 2")}, {inOrder(dot, 2, "1 1"), nil, "1", flag(t, 1, "graph 2")}, {inOrder(dot, 2, "0 -1"), nil, "-1", flag(t, 1, "graph 2 0-1")}, {inOrder(dot, 2, "0 -1"), []impl.Graph{edge}, "0", flag(t, 1, "graph 2")},
		{inOrder(none, 3, "1 1/2 1/2 -3"), nil, "-3", plain(triangle)}, {inOrder(none, 3, "1 1/2 1/2 -3"), []impl.Graph{triangle}, "1/2", flag(t, 0, "graph 3 0-1")}, {inOrder(none, 3, "1 1/2 0 -3"), []impl.Graph{triangle}, "0", flag(t, 0, "graph 3 0-1 0-2")},
		{inOrder(none, 3, "2 1/2 1/3 1/4"), []impl.Graph{edge}, "2", flag(t, 0, "graph 3")}, {inOrder(none, 0, "-1/2"), []impl.Graph{vertex}, "-1/2", impl.Flag{}}, {inOrder(none, 0, ""), nil, "0", impl.Flag{}},
		{inOrder(dot, 3, "1 2 3 4 5 0"), nil, "0", flag(t, 1, "graph 3 0-1 0-2 1-2")}, {inOrder(dot, 3, "1 2 3 4 5 0"), []impl.Graph{triangle}, "1", flag(t, 1, "graph 3")}, {inOrder(dot, 3, "1 2 3 0 0 0"), nil, "0", flag(t, 1, "graph 3 1-2")},
	} {
		checkLeast(t, c.a, c.forbidden, fr(c.by), c.least, impl.OK)
	}
	// All flags have the parts, the type alone among them.
	for _, a := range []impl.FlagSum{inOrder(none, 1, "1"), inOrder(dot, 1, "1"), inOrder(dot, 2, "-1 -1"), inOrder(impl.Graph{N: 2, Edges: 1}, 3, "1 2 3 4")} {
		checkLeast(t, a, []impl.Graph{triangle, vertex}, impl.Fraction{}, impl.Flag{}, impl.ErrNotFound)
	}
	checkLeast(t, inOrder(impl.Graph{N: 2, Edges: 1}, 3, "1 2 3 4"), []impl.Graph{edge}, impl.Fraction{}, impl.Flag{}, impl.ErrNotFound)
	checkLeast(t, inOrder(none, 0, "1"), []impl.Graph{{}}, impl.Fraction{}, impl.Flag{}, impl.ErrNotFound)
}

// There are 90 flags with one label and five vertices: too many, unless some
// are left out; so many of those without terms count, too.
func TestLeastValuesOfTypesWithTooManyFlags(t *testing.T) {
	k := kind{impl.Graph{N: 1}, 5}
	triangle, path := graph(t, "3 0-1 0-2 1-2"), graph(t, "5 0-1 1-2 2-3 3-4")
	for _, forbidden := range [][]impl.Graph{nil, {{N: 5, Edges: 1023}}, {triangle}, {path}, {graph(t, "4 0-1 1-2 0-3 2-3")}} {
		free := len(withoutParts(flagsOf(k), forbidden))
		want := int64(impl.OK)
		if free > 64 {
			want = impl.ErrLimit
		}
		by, f, code := impl.LeastValue(ones(k, 64), forbidden)
		isRefused(t, fmt.Sprint("LeastValue of ", free, " flags"), want == impl.OK || isZero(by) && f == impl.Flag{}, code, want)
		by, f, code = impl.LeastValue(ones(k, 0), forbidden)
		isRefused(t, fmt.Sprint("LeastValue of no term in ", free, " flags"), want == impl.OK || isZero(by) && f == impl.Flag{}, code, want)
	}
}
