package tests

import (
	"fmt"
	"math/big"
	"testing"

	"loop.example/g01169/impl"
)

// Promise 8: averages are average factors times densities of graphs, and pairs
// are products.

// AverageFactor is the share of the lists of labels that make the flag again.
func TestAverageFactorIsTheShareOfAllLists(t *testing.T) {
	for _, typ := range everyType() {
		for _, f := range flagsOfType(typ) {
			alike, lists := int64(0), flagsOfLists(f.Graph, typ.N)
			for _, g := range lists {
				if leastFlagTable()[g] == f {
					alike++
				}
			}
			want := ofRat(big.NewRat(alike, int64(len(lists))))
			for _, g := range []impl.Flag{f, backwards(f)} {
				got, code := impl.AverageFactor(g)
				checkFraction(t, fmt.Sprint("AverageFactor ", g), got, code, want, impl.OK)
			}
			count, code := impl.CountLabelings(f)
			if code != impl.OK || count != alike {
				t.Errorf("CountLabelings %v: %d, code %d, want %d", f, count, code, alike)
			}
		}
	}
}

func TestAverageFactorOfFlagsThatAreWrittenOut(t *testing.T) {
	for _, c := range []struct {
		f    impl.Flag
		want string
	}{
		{impl.Flag{}, "1"}, {flag(t, 0, "graph 5 0-1 2-3"), "1"}, {flag(t, 1, "graph 1"), "1"}, {flag(t, 1, "graph 2 0-1"), "1"}, {flag(t, 1, "graph 3 0-1 0-2"), "1/3"}, {flag(t, 1, "graph 3 0-1 1-2"), "2/3"},
		{flag(t, 2, "graph 2 0-1"), "1"}, {flag(t, 2, "graph 3 0-1 0-2"), "1/3"}, {flag(t, 2, "graph 3 0-2 1-2"), "1/3"}, {flag(t, 2, "graph 3 0-2"), "1/3"}, {flag(t, 3, "graph 3 0-1"), "1/3"}, {flag(t, 3, "graph 3 0-1 0-2 1-2"), "1"},
		{flag(t, 3, "graph 4 0-1 1-2 2-3"), "1/12"}, {flag(t, 3, "graph 4 0-1 1-2 0-3 2-3"), "1/3"}, {flag(t, 3, "graph 5 0-1 1-2 2-3 0-4 3-4"), "1/6"}, {flag(t, 3, "graph 5 0-1 0-2 0-3 0-4"), "1/5"}, {flag(t, 1, "graph 5 0-1 0-2 0-3 0-4"), "1/5"}, {flag(t, 2, "graph 5 0-2 2-3 3-4"), "1/10"},
	} {
		got, code := impl.AverageFactor(c.f)
		checkFraction(t, fmt.Sprint("AverageFactor ", c.f), got, code, fr(c.want), impl.OK)
	}
}

// AverageDensity is the average over all lists of labels, and the product of
// AverageFactor and GraphDensity.
func TestAverageDensityIsFactorTimesDensity(t *testing.T) {
	for _, typ := range everyType() {
		for i, g := range leastGraphs() {
			if typ.N == 3 && g.N == 5 && (i+int(typ.Edges))%4 > 0 {
				continue
			}
			for n := typ.N; n <= g.N; n++ {
				found := averageShares(g, typ.N, n-typ.N)
				for _, f := range flagsWith(typ, n) {
					want := shareFor(found, f)
					got, code := impl.AverageDensity(f, g)
					checkFraction(t, fmt.Sprint("AverageDensity ", f, g), got, code, want, impl.OK)
					product := valueOf(t)(impl.AverageFactor(f))
					product.Mul(product, valueOf(t)(impl.GraphDensity(f.Graph, g)))
					if product.Cmp(rat(got)) != 0 {
						t.Fatalf("AverageDensity %v %v: %v, factor times density is %v", f, g, got, product)
					}
				}
			}
		}
	}
}

// So does the average of flags that are not least, in graphs that are not.
func TestAverageDensityOfFlagsThatAreNotLeast(t *testing.T) {
	for _, typ := range []impl.Graph{{}, {N: 1}, {N: 2, Edges: 1}, {N: 3, Edges: 4}} {
		for _, g := range graphsUpTo(4) {
			for n := typ.N; n <= g.N; n++ {
				for _, f := range flagsWith(typ, n) {
					product := valueOf(t)(impl.AverageFactor(f))
					product.Mul(product, valueOf(t)(impl.GraphDensity(f.Graph, g)))
					got, code := impl.AverageDensity(backwards(f), g)
					checkFraction(t, fmt.Sprint("AverageDensity ", backwards(f), g), got, code, ofRat(product), impl.OK)
				}
			}
		}
	}
}

// Lists of vertices with another type count, but add nothing.
func TestAverageDensityOfFlagsThatAreWrittenOut(t *testing.T) {
	path, cycle := impl.Graph{N: 3, Edges: 3}, graph(t, "5 0-1 1-2 2-3 0-4 3-4")
	for _, c := range []struct {
		f    impl.Flag
		g    impl.Graph
		want string
	}{
		{flag(t, 1, "graph 2 0-1"), path, "2/3"}, {flag(t, 1, "graph 2"), path, "1/3"}, {flag(t, 2, "graph 2 0-1"), path, "2/3"}, {flag(t, 2, "graph 2"), path, "1/3"}, {flag(t, 2, "graph 2 0-1"), impl.Graph{N: 4}, "0"}, {flag(t, 2, "graph 2 0-1"), impl.Graph{N: 2, Edges: 1}, "1"},
		{flag(t, 2, "graph 3 0-1 0-2"), path, "1/3"}, {flag(t, 2, "graph 3 0-2 1-2"), path, "1/3"}, {flag(t, 3, "graph 3 0-1 0-2"), path, "1/3"}, {flag(t, 3, "graph 3 0-1"), path, "0"}, {flag(t, 3, "graph 3 0-1 0-2"), cycle, "1/6"}, {flag(t, 3, "graph 3 0-1 0-2 1-2"), cycle, "0"},
		{flag(t, 3, "graph 4 0-1 1-2 2-3"), cycle, "1/12"}, {flag(t, 2, "graph 3 0-1 1-2"), cycle, "1/6"}, {flag(t, 0, "graph 3 0-1 1-2"), cycle, "1/2"}, {impl.Flag{}, cycle, "1"}, {impl.Flag{}, impl.Graph{}, "1"}, {flag(t, 1, "graph 1"), cycle, "1"},
	} {
		got, code := impl.AverageDensity(c.f, c.g)
		checkFraction(t, fmt.Sprint("AverageDensity ", c.f, c.g), got, code, fr(c.want), impl.OK)
	}
}

// pairLists returns lists of the flags with n vertices of a type, of which there
// are 1 to MaxMatrix.
func pairLists(typ impl.Graph, n int64) [][]impl.Flag {
	flags := flagsWith(typ, n)
	for i := range flags {
		if i%2 == 1 {
			flags[i] = backwards(flags[i])
		}
	}
	return [][]impl.Flag{flags, flags[:1], flags[len(flags)-1:], copiesOf(flags[len(flags)/2], impl.MaxMatrix)}
}

// wantTable returns the matrix of what a map of shares has for each two flags.
func wantTable(flags []impl.Flag, found map[[2]impl.Flag]*big.Rat) [][]impl.Fraction {
	var m [][]impl.Fraction
	for _, f := range flags {
		var row []impl.Fraction
		for _, h := range flags {
			row = append(row, shareFor(found, [2]impl.Flag{leastFlagTable()[f], leastFlagTable()[h]}))
		}
		m = append(m, row)
	}
	return m
}

// PairTable of all flags has the joint densities of all pairs.
func TestPairTableHasAllJointDensities(t *testing.T) {
	for _, typ := range everyType() {
		for n := typ.N; 2*n-typ.N <= 5; n++ {
			for _, flags := range pairLists(typ, n) {
				for _, g := range flagsOfType(typ) {
					if g.Graph.N < 2*n-typ.N {
						continue
					}
					want := wantTable(flags, jointShares(g, n-typ.N, n-typ.N))
					got, code := impl.PairTable(flags, g)
					checkMatrix(t, fmt.Sprint("PairTable ", flags, g), got, code, want, impl.OK)
					one, code := impl.JointDensity(flags[0], flags[len(flags)-1], g)
					checkFraction(t, "JointDensity in the table", one, code, got[0][len(flags)-1], impl.OK)
					if !impl.ValidMatrix(got) {
						t.Fatalf("PairTable %v %v: %v", flags, g, got)
					}
				}
			}
		}
	}
}

// PairAverages has the averages of the joint densities over all lists of
// labels, those with another type counting as 0.
func TestPairAveragesAreThoseOfJointDensities(t *testing.T) {
	for _, typ := range everyType() {
		for n := typ.N; 2*n-typ.N <= 5; n++ {
			for i, g := range leastGraphs() {
				if g.N < 2*n-typ.N || typ.N == 3 && (i+int(typ.Edges))%4 > 0 {
					continue
				}
				found := averageJointShares(g, typ.N, n-typ.N, n-typ.N)
				for _, flags := range pairLists(typ, n) {
					got, code := impl.PairAverages(flags, g)
					checkMatrix(t, fmt.Sprint("PairAverages ", flags, g), got, code, wantTable(flags, found), impl.OK)
					if !impl.ValidMatrix(got) {
						t.Fatalf("PairAverages %v %v: %v", flags, g, got)
					}
				}
			}
		}
	}
}

func TestPairsThatAreWrittenOut(t *testing.T) {
	edge, gap := flag(t, 1, "graph 2 0-1"), flag(t, 1, "graph 2")
	path, square := impl.Graph{N: 3, Edges: 3}, graph(t, "4 0-1 1-2 0-3 2-3")
	for _, c := range []struct {
		flags    []impl.Flag
		g        impl.Graph
		table    string
		averages string
	}{
		{[]impl.Flag{edge}, path, "1", "1/3"}, {[]impl.Flag{gap, edge}, path, "0 0;0 1", "0 1/3;1/3 1/3"}, {[]impl.Flag{edge, gap}, square, "1/3 1/3;1/3 0", "1/3 1/3;1/3 0"}, {[]impl.Flag{edge, edge}, path, "1 1;1 1", "1/3 1/3;1/3 1/3"},
		{[]impl.Flag{flag(t, 2, "graph 2 0-1")}, path, "1", "2/3"}, {[]impl.Flag{flag(t, 3, "graph 3 0-1 0-2")}, path, "1", "1/3"}, {[]impl.Flag{flag(t, 2, "graph 3 0-1 0-2"), flag(t, 2, "graph 3 0-1 1-2")}, square, "0 1/2;1/2 0", "0 1/3;1/3 0"},
		{[]impl.Flag{flag(t, 0, "graph 2 0-1"), flag(t, 0, "graph 2")}, square, "2/3 0;0 1/3", "2/3 0;0 1/3"}, {[]impl.Flag{{}}, impl.Graph{}, "1", "1"},
	} {
		got, code := impl.PairTable(c.flags, impl.Flag{Labels: c.flags[0].Labels, Graph: c.g})
		checkMatrix(t, fmt.Sprint("PairTable ", c.flags, c.g), got, code, mat(c.table), impl.OK)
		got, code = impl.PairAverages(c.flags, c.g)
		checkMatrix(t, fmt.Sprint("PairAverages ", c.flags, c.g), got, code, mat(c.averages), impl.OK)
	}
	// No list of labels has the type.
	got, code := impl.PairAverages([]impl.Flag{flag(t, 2, "graph 3 0-1 0-2"), flag(t, 2, "graph 3 0-1 1-2")}, impl.Graph{N: 5})
	checkMatrix(t, "PairAverages of no list", got, code, mat("0 0;0 0"), impl.OK)
}

// A pair in a great flag is found through the flags that are just large enough
// for both: by their product.
func TestPairsAreProducts(t *testing.T) {
	for _, typ := range everyType() {
		for _, sizes := range [][2]int64{{0, 0}, {0, 1}, {1, 1}, {1, 2}, {2, 1}, {0, 2}, {2, 2}, {1, 3}} {
			n := typ.N + sizes[0] + sizes[1]
			if n > 4 {
				continue
			}
			enough := flagsWith(typ, n)
			for _, f := range flagsWith(typ, typ.N+sizes[0]) {
				for _, h := range flagsWith(typ, typ.N+sizes[1]) {
					checkProduct(t, f, h, enough)
				}
			}
		}
	}
}

// checkProduct finds the joint densities of two flags in greater ones, and
// their averages in graphs, through those that are just large enough.
func checkProduct(t *testing.T, f, h impl.Flag, enough []impl.Flag) {
	t.Helper()
	product := map[impl.Flag]*big.Rat{}
	for _, m := range enough {
		if value := valueOf(t)(impl.JointDensity(f, h, m)); value.Sign() != 0 {
			product[m] = value
		}
	}
	through := func(density func(m impl.Flag) (impl.Fraction, int64)) *big.Rat {
		sum := new(big.Rat)
		for m, value := range product {
			sum.Add(sum, new(big.Rat).Mul(value, valueOf(t)(density(m))))
		}
		return sum
	}
	typ := typeOfFlag(f)
	for i, g := range flagsOfType(typ) {
		if g.Graph.N < enough[0].Graph.N || g.Graph.N == 5 && i%11 > 0 {
			continue
		}
		sum := through(func(m impl.Flag) (impl.Fraction, int64) { return impl.FlagDensity(m, g) })
		if want := valueOf(t)(impl.JointDensity(f, h, g)); sum.Cmp(want) != 0 {
			t.Fatalf("JointDensity %v %v %v: %v, by the product %v", f, h, g, want, sum)
		}
	}
	if f.Graph.N != h.Graph.N {
		return
	}
	for i, g := range leastGraphs() {
		if g.N < enough[0].Graph.N || g.N == 5 && i%5 > 0 {
			continue
		}
		sum := through(func(m impl.Flag) (impl.Fraction, int64) { return impl.AverageDensity(m, g) })
		m, code := impl.PairAverages([]impl.Flag{f, h}, g)
		if code != impl.OK || sum.Cmp(rat(m[0][1])) != 0 {
			t.Fatalf("PairAverages %v %v %v: %v, code %d, by the product %v", f, h, g, m, code, sum)
		}
	}
}
