package tests

import (
	"fmt"
	"math/big"
	"math/rand/v2"
	"testing"

	"loop.example/g01169/impl"
)

// Promise 10: products are commutative and distributive; and promise 8, its
// second half: pairs are products.

// roomFor returns the sizes of two sums of a type whose product is not too
// large, and has at most MaxFlags flags.
func roomFor(typ impl.Graph) [][2]int64 {
	most := int64(5)
	if typ.N > 0 {
		most = 4
	}
	var list [][2]int64
	for one := typ.N; one <= 5; one++ {
		for other := typ.N; one+other-typ.N <= most; other++ {
			list = append(list, [2]int64{one, other})
		}
	}
	return list
}

func TestProductsOfSums(t *testing.T) {
	random, limits := seeded(21), 0
	for _, typ := range everyType() {
		for _, sizes := range roomFor(typ) {
			for round := range 18 {
				fraction := someFractionsOf(random)[round%3]
				a, b := someSum(random, kind{typ, sizes[0]}, fraction), someSum(random, kind{typ, sizes[1]}, fraction)
				want, wantCode := wantProduct(a, b)
				if wantCode != impl.OK {
					limits++
				}
				got, code := impl.MultiplySums(a, b)
				checkSum(t, fmt.Sprint("MultiplySums ", a, b), got, code, want, wantCode)
			}
		}
	}
	if limits < 100 {
		t.Errorf("only %d products are too large", limits)
	}
}

// The fractions are small, so that no order of reckoning is too large.
func TestProductsAreCommutativeAndDistributive(t *testing.T) {
	random := seeded(22)
	multiply, add := sumOf(t), sumOf(t)
	for _, typ := range everyType() {
		for _, sizes := range roomFor(typ) {
			small := someFractionsOf(random)[0]
			a, b, c := someSum(random, kind{typ, sizes[0]}, small), someSum(random, kind{typ, sizes[1]}, small), someSum(random, kind{typ, sizes[1]}, small)
			by := someFraction(random, 9)
			ab, ac := multiply(impl.MultiplySums(a, b)), multiply(impl.MultiplySums(a, c))
			ba, code := impl.MultiplySums(b, a)
			checkSum(t, fmt.Sprint("MultiplySums turned round ", a, b), ba, code, ab, impl.OK)
			got, code := impl.MultiplySums(a, add(impl.AddSums(b, c)))
			checkSum(t, fmt.Sprint("a sum times a sum ", a, b, c), got, code, add(impl.AddSums(ab, ac)), impl.OK)
			got, code = impl.MultiplySums(a, add(impl.ScaleSum(b, by)))
			checkSum(t, fmt.Sprint("a sum times a fraction ", a, b, by), got, code, add(impl.ScaleSum(ab, by)), impl.OK)
			got, code = impl.MultiplySums(a, impl.FlagSum{Type: typ, Size: sizes[1]})
			checkSum(t, fmt.Sprint("a sum times none ", a), got, code, impl.FlagSum{Type: typ, Size: sizes[0] + sizes[1] - typ.N}, impl.OK)
		}
	}
}

// The sum of all flags has the value 1: what is multiplied by it is raised.
func TestProductsWithAllFlagsAreRaisedSums(t *testing.T) {
	random := seeded(23)
	for _, typ := range everyType() {
		for _, sizes := range roomFor(typ) {
			a := someSum(random, kind{typ, sizes[0]}, someFractionsOf(random)[0])
			all, code := impl.AllOnes(typ, sizes[1])
			if sizes[1] == 5 && typ.N > 0 {
				checkRefusedSum(t, all, code, impl.ErrLimit, "AllOnes ", typ, sizes[1])
				continue
			}
			got, code := impl.MultiplySums(a, all)
			checkSum(t, fmt.Sprint("MultiplySums with all flags ", a, sizes), got, code, sumOf(t)(impl.RaiseSum(a, sizes[0]+sizes[1]-typ.N)), impl.OK)
			checkEqual(t, a, got, true, impl.OK)
		}
	}
}

// Pairs are products, in all flags that are large enough for both; some of the
// flags are turned.
func TestPairsAreProductsOfSums(t *testing.T) {
	for _, typ := range everyType() {
		for _, sizes := range roomFor(typ) {
			for i, f := range flagsOf(kind{typ, sizes[0]}) {
				for j, h := range flagsOf(kind{typ, sizes[1]}) {
					if (i+j)%3 == 0 {
						f, h = backwards(f), backwards(h)
					}
					product := sumOf(t)(impl.MultiplySums(sumOf(t)(impl.SumOfFlag(f)), sumOf(t)(impl.SumOfFlag(h))))
					checkPair(t, f, h, product, (i+j)%5 == 0)
				}
			}
		}
	}
}

// checkPair holds the values of a product against the joint densities of both
// flags, in the flags of its size, and also in greater ones.
func checkPair(t *testing.T, f, h impl.Flag, product impl.FlagSum, greater bool) {
	t.Helper()
	for n := product.Size; n <= 5 && (greater || n == product.Size); n++ {
		for _, g := range flagsOf(kind{product.Type, n}) {
			want := valueOf(t)(impl.JointDensity(f, h, g))
			if got := valueOf(t)(impl.ValueIn(product, g)); got.Cmp(want) != 0 {
				t.Fatalf("the product of %v and %v is %v in %v, want %v", f, h, got, g, want)
			}
			if n == product.Size && valueOf(t)(impl.CoefficientOf(product, g)).Cmp(want) != 0 {
				t.Fatalf("the product of %v and %v does not have %v for %v", f, h, want, g)
			}
		}
	}
}

func TestAveragesOfSums(t *testing.T) {
	random, limits := seeded(24), 0
	for _, k := range everyKind() {
		for round := range 45 {
			a := someSum(random, k, someFractionsOf(random)[round%3])
			want, wantCode := wantAverage(a)
			if wantCode != impl.OK {
				limits++
			}
			got, code := impl.AverageSum(a)
			checkSum(t, fmt.Sprint("AverageSum ", a), got, code, want, wantCode)
		}
	}
	if limits < 100 {
		t.Errorf("only %d averages are too large", limits)
	}
}

// What is averaged has the average of the densities as its value; the average
// of a product has that of the joint densities.
func TestAveragesHaveTheAveragesOfTheDensities(t *testing.T) {
	for _, f := range flagsUpTo(4) {
		average := sumOf(t)(impl.AverageSum(sumOf(t)(impl.SumOfFlag(f))))
		for i, g := range leastGraphs() {
			if g.N < f.Graph.N || g.N == 5 && i%4 > 0 {
				continue
			}
			want := valueOf(t)(impl.AverageDensity(f, g))
			if got := valueOf(t)(impl.ValueIn(average, plain(g))); got.Cmp(want) != 0 {
				t.Fatalf("the average of %v is %v in %v, want %v", f, got, g, want)
			}
		}
	}
}

// someForm returns some flags of a kind, which may be turned or come twice, and
// a matrix for them with fractions of a function.
func someForm(random *rand.Rand, k kind, fraction func() impl.Fraction) ([]impl.Flag, [][]impl.Fraction) {
	var flags []impl.Flag
	var below []impl.Fraction
	n := 1 + random.IntN(8)
	for range n {
		f := flagsOf(k)[random.IntN(len(flagsOf(k)))]
		if random.IntN(2) == 0 {
			f = backwards(f)
		}
		flags = append(flags, f)
	}
	for range n * (n + 1) / 2 {
		below = append(below, fraction())
	}
	return flags, symmetric(n, below)
}

func TestFormsOfFlags(t *testing.T) {
	random, limits := seeded(25), 0
	for _, typ := range everyType() {
		for _, sizes := range roomFor(typ) {
			for round := range 24 {
				if sizes[0] != sizes[1] {
					continue
				}
				flags, m := someForm(random, kind{typ, sizes[0]}, someFractionsOf(random)[round%3])
				want, wantCode := wantForm(flags, m)
				if wantCode != impl.OK {
					limits++
				}
				got, code := impl.FormSum(flags, m)
				checkSum(t, fmt.Sprint("FormSum ", flags, m), got, code, want, wantCode)
			}
		}
	}
	if limits < 50 || limits > 500 {
		t.Errorf("%d forms are too large", limits)
	}
}

// Forms have their blocks' values: the form is the sum of all products, made
// one by one, its values in flags are those of PairTable times the matrix, and
// its average has those of PairAverages.
func TestFormsHaveTheirBlocksValues(t *testing.T) {
	random := seeded(26)
	for _, typ := range everyType() {
		for _, sizes := range roomFor(typ) {
			if sizes[0] != sizes[1] {
				continue
			}
			flags, m := someForm(random, kind{typ, sizes[0]}, someFractionsOf(random)[0])
			form := sumOf(t)(impl.FormSum(flags, m))
			sum := sumOf(t)(impl.ZeroSum(typ, 2*sizes[0]-typ.N))
			for i, f := range flags {
				for j, h := range flags {
					product := sumOf(t)(impl.MultiplySums(sumOf(t)(impl.SumOfFlag(f)), sumOf(t)(impl.SumOfFlag(h))))
					sum = sumOf(t)(impl.AddSums(sum, sumOf(t)(impl.ScaleSum(product, m[i][j]))))
				}
			}
			checkSum(t, fmt.Sprint("FormSum ", flags, m), form, impl.OK, sum, impl.OK)
			average := sumOf(t)(impl.AverageSum(form))
			for n := form.Size; n <= 5; n++ {
				for _, g := range flagsOf(kind{typ, n}) {
					table, code := impl.PairTable(flags, g)
					checkBlock(t, form, g, m, table, code)
				}
				for _, g := range flagsOf(kind{impl.Graph{}, n}) {
					table, code := impl.PairAverages(flags, g.Graph)
					checkBlock(t, average, g, m, table, code)
				}
			}
		}
	}
}

// checkBlock holds the value of a sum in a flag against the sum of all products
// of two matrices, place by place.
func checkBlock(t *testing.T, a impl.FlagSum, g impl.Flag, m, table [][]impl.Fraction, code int64) {
	t.Helper()
	if code != impl.OK || len(table) != len(m) {
		t.Fatalf("the table in %v: code %d", g, code)
	}
	want := new(big.Rat)
	for i := range m {
		for j := range m {
			want.Add(want, new(big.Rat).Mul(rat(m[i][j]), rat(table[i][j])))
		}
	}
	if got := valueOf(t)(impl.ValueIn(a, g)); got.Cmp(want) != 0 {
		t.Fatalf("%v is %v in %v, want %v", a, got, g, want)
	}
}

func TestProductsThatAreWrittenOut(t *testing.T) {
	none, dot, apart, joined := impl.Graph{}, impl.Graph{N: 1}, impl.Graph{N: 2}, impl.Graph{N: 2, Edges: 1}
	wedge := impl.Graph{N: 3, Edges: 3}
	for _, c := range []struct {
		a, b impl.FlagSum
		want string
	}{
		{inOrder(dot, 2, "0 1"), inOrder(dot, 2, "0 1"), "sum 3 graph 1\n1 graph 3 0-1 0-2\n1 graph 3 0-1 0-2 1-2\n"},
		{inOrder(dot, 2, "0 1"), inOrder(dot, 2, "1 0"), "sum 3 graph 1\n1/2 graph 3 0-1\n1/2 graph 3 0-1 1-2\n"},
		{inOrder(dot, 2, "1 -1"), inOrder(dot, 2, "1 -1"), "sum 3 graph 1\n1 graph 3\n-1 graph 3 0-1\n1 graph 3 0-1 0-2\n1 graph 3 1-2\n-1 graph 3 0-1 1-2\n1 graph 3 0-1 0-2 1-2\n"},
		{inOrder(dot, 1, "2/3"), inOrder(dot, 2, "0 3"), "sum 2 graph 1\n2 graph 2 0-1\n"}, {inOrder(dot, 1, "5"), inOrder(dot, 1, "-1/5"), "sum 1 graph 1\n-1 graph 1\n"},
		{inOrder(none, 2, "0 1"), inOrder(none, 2, "0 1"), "sum 4 graph 0\n1/3 graph 4 1-2 0-3\n1/3 graph 4 0-1 1-2 0-3\n1/3 graph 4 0-1 0-2 1-2 0-3\n2/3 graph 4 0-2 1-2 0-3 1-3\n2/3 graph 4 0-1 0-2 1-2 0-3 1-3\n1 graph 4 0-1 0-2 1-2 0-3 1-3 2-3\n"},
		{inOrder(none, 2, "0 1"), inOrder(none, 1, "1"), "sum 3 graph 0\n1/3 graph 3 0-1\n2/3 graph 3 0-1 0-2\n1 graph 3 0-1 0-2 1-2\n"}, {inOrder(none, 0, "-3"), inOrder(none, 2, "1/2 2"), "sum 2 graph 0\n-3/2 graph 2\n-6 graph 2 0-1\n"},
		{inOrder(apart, 3, "0 1 0 0"), inOrder(apart, 3, "0 0 1 0"), "sum 4 graph 2\n1/2 graph 4 1-2 0-3\n1/2 graph 4 1-2 0-3 2-3\n"},
		{inOrder(joined, 3, "0 0 0 2"), inOrder(joined, 3, "0 0 0 1/4"), "sum 4 graph 2 0-1\n1/2 graph 4 0-1 0-2 1-2 0-3 1-3\n1/2 graph 4 0-1 0-2 1-2 0-3 1-3 2-3\n"},
		{inOrder(wedge, 3, "3"), inOrder(wedge, 4, "1 0 0 0 0 0 0 -2"), "sum 4 graph 3 0-1 0-2\n3 graph 4 0-1 0-2\n-6 graph 4 0-1 0-2 0-3 1-3 2-3\n"},
		{inOrder(dot, 2, ""), inOrder(dot, 3, "1 1 1 1 1 1"), "sum 4 graph 1\n"},
	} {
		got, code := impl.MultiplySums(c.a, c.b)
		if text := impl.SumText(got); code != impl.OK || text != c.want {
			t.Errorf("MultiplySums %v %v: %q, code %d, want %q", c.a, c.b, text, code, c.want)
		}
	}
}

// A graph with five vertices has a tenth for each triangle whose other two
// vertices are joined.
func TestEdgeTimesTriangle(t *testing.T) {
	none := impl.Graph{}
	a := sumOf(t)(impl.MultiplySums(inOrder(none, 3, "0 0 0 1"), inOrder(none, 2, "0 1")))
	for text, want := range map[string]string{
		"5 0-1 0-2 1-2 3-4": "1/10", "5 0-1 0-2 1-2 0-3 3-4": "1/10", "5 0-1 0-2 1-2": "0", "5 0-1 0-2 1-2 0-3 1-3 2-3": "0", "5 0-1 0-2 1-2 0-3 0-4 3-4": "1/5",
		"5 0-1 0-2 1-2 0-3 1-3 2-3 0-4 1-4 2-4 3-4": "1", "5 0-1 0-2 1-2 0-3 1-3 2-3 0-4 1-4 2-4": "3/5", "5 0-3 1-3 2-3 0-4 1-4 2-4": "0", "5": "0", "5 3-4": "0",
	} {
		got, code := impl.CoefficientOf(a, plain(graph(t, text)))
		checkFraction(t, "the edge times the triangle, "+text, got, code, fr(want), impl.OK)
	}
}

func TestAveragesThatAreWrittenOut(t *testing.T) {
	none, dot, apart, joined := impl.Graph{}, impl.Graph{N: 1}, impl.Graph{N: 2}, impl.Graph{N: 2, Edges: 1}
	wedge := impl.Graph{N: 3, Edges: 3}
	for _, c := range []struct{ a, want impl.FlagSum }{
		{inOrder(dot, 2, "0 1"), inOrder(none, 2, "0 1")}, {inOrder(dot, 1, "-2/7"), inOrder(none, 1, "-2/7")}, {inOrder(dot, 3, "0 0 1 0 0 1"), inOrder(none, 3, "0 0 1/3 1")}, {inOrder(dot, 3, "0 1/2 0 0 1/2 0"), inOrder(none, 3, "0 1/3 1/3 0")},
		{inOrder(dot, 3, "1/2 -1/2 1/2 1/2 -1/2 1/2"), inOrder(none, 3, "1/2 -1/6 -1/6 1/2")}, {inOrder(dot, 3, "0 1 1 -2 -1/2 0"), inOrder(none, 3, "")}, {inOrder(dot, 4, ""), inOrder(none, 4, "")},
		{inOrder(apart, 3, "1 1 1 1"), inOrder(none, 3, "1 2/3 1/3 0")}, {inOrder(joined, 3, "1 1 1 1"), inOrder(none, 3, "0 1/3 2/3 1")}, {inOrder(joined, 2, "3"), inOrder(none, 2, "0 3")}, {inOrder(apart, 2, "3"), inOrder(none, 2, "3 0")},
		{inOrder(wedge, 3, "1"), inOrder(none, 3, "0 0 1/3 0")}, {inOrder(impl.Graph{N: 3, Edges: 7}, 3, "1/9"), inOrder(none, 3, "0 0 0 1/9")}, {inOrder(impl.Graph{N: 3, Edges: 4}, 3, "9"), inOrder(none, 3, "0 3")}, {inOrder(none, 3, "1 2 3 4"), inOrder(none, 3, "1 2 3 4")},
	} {
		got, code := impl.AverageSum(c.a)
		checkSum(t, fmt.Sprint("AverageSum ", c.a), got, code, c.want, impl.OK)
	}
}

func TestFormsThatAreWrittenOut(t *testing.T) {
	none, dot := impl.Graph{}, impl.Graph{N: 1}
	gap, edge := flag(t, 1, "graph 2"), flag(t, 1, "graph 2 0-1")
	for _, c := range []struct {
		flags []impl.Flag
		m     string
		want  impl.FlagSum
	}{
		{[]impl.Flag{edge}, "2", inOrder(dot, 3, "0 0 2 0 0 2")}, {[]impl.Flag{edge}, "0", inOrder(dot, 3, "")}, {[]impl.Flag{gap, edge}, "1/2 -1/2;-1/2 1/2", inOrder(dot, 3, "1/2 -1/2 1/2 1/2 -1/2 1/2")},
		{[]impl.Flag{edge, gap}, "1 3;3 0", inOrder(dot, 3, "0 3 1 0 3 1")}, {[]impl.Flag{edge, edge}, "1 -1;-1 1", inOrder(dot, 3, "")}, {[]impl.Flag{edge, edge, gap}, "1 2 0;2 3 0;0 0 -1", inOrder(dot, 3, "-1 0 8 -1 0 8")},
		{[]impl.Flag{{}}, "3/2", inOrder(none, 0, "3/2")}, {[]impl.Flag{flag(t, 0, "graph 2"), flag(t, 0, "graph 2 0-1")}, "1 1;1 1", inOrder(none, 4, "1 1 1 1 1 1 1 1 1 1 1")}, {[]impl.Flag{flag(t, 1, "graph 1")}, "-5", inOrder(dot, 1, "-5")},
		{[]impl.Flag{flag(t, 3, "graph 3 0-1")}, "4", inOrder(impl.Graph{N: 3, Edges: 1}, 3, "4")}, {[]impl.Flag{flag(t, 2, "graph 3 0-1 0-2"), flag(t, 2, "graph 3 0-1 1-2")}, "0 0;0 0", inOrder(impl.Graph{N: 2, Edges: 1}, 4, "")},
	} {
		got, code := impl.FormSum(c.flags, mat(c.m))
		checkSum(t, fmt.Sprint("FormSum ", c.flags, c.m), got, code, c.want, impl.OK)
	}
}
