package tests

import (
	"fmt"
	"slices"
	"testing"

	"loop.example/g01169/impl"
)

// Promise 10, its second half: forms have their blocks' values; and the slacks
// of promise 11.

// checkBlockValue holds the value of a block in a graph against what is
// reckoned, and returns the code.
func checkBlockValue(t *testing.T, b impl.Block, g impl.Graph) int64 {
	t.Helper()
	var r reckoner
	want, wantCode := ofRat(blockIn(&r, b, g)), r.code(impl.OK)
	if wantCode != impl.OK {
		want = impl.Fraction{}
	}
	got, code := impl.BlockValue(b, g)
	checkFraction(t, fmt.Sprint("BlockValue ", b, g), got, code, want, wantCode)
	return code
}

func TestBlockValues(t *testing.T) {
	random := seeded(62)
	counts := map[int64]int{}
	for _, k := range kindsInRoom(5) {
		for n := roomIn(k); n <= 5; n++ {
			for i, g := range flagsOf(kind{impl.Graph{}, n}) {
				flags, m := someForm(random, k, someFractionsOf(random)[i%3])
				b := impl.Block{Flags: flags, Matrix: m}
				counts[checkBlockValue(t, b, g.Graph)]++
				counts[checkBlockValue(t, b, backwards(g).Graph)]++
				checkBlockValue(t, squareOn(random, k), g.Graph)
			}
		}
	}
	if counts[impl.OK] < 200 || counts[impl.ErrLimit] < 100 {
		t.Errorf("too few of one code: %v", counts)
	}
}

// The average of the form of a block has the value of the block in each graph,
// as far as there are not too many flags for the form.
func TestFormsHaveTheValuesOfBlocks(t *testing.T) {
	random, forms := seeded(63), 0
	for _, k := range kindsInRoom(5) {
		if k.typ.N > 0 && roomIn(k) == 5 {
			continue
		}
		forms++
		flags, m := someForm(random, k, someFractionsOf(random)[0])
		average := sumOf(t)(impl.AverageSum(sumOf(t)(impl.FormSum(flags, m))))
		for n := roomIn(k); n <= 5; n++ {
			for _, g := range flagsOf(kind{impl.Graph{}, n}) {
				want := valueOf(t)(impl.ValueIn(average, g))
				if got := valueOf(t)(impl.BlockValue(impl.Block{Flags: flags, Matrix: m}, g.Graph)); got.Cmp(want) != 0 {
					t.Fatalf("the block of %v and %v is %v in %v, want %v", flags, m, got, g, want)
				}
			}
		}
	}
	if forms < 17 {
		t.Errorf("only %d forms", forms)
	}
}

func TestBlockValuesThatAreWrittenOut(t *testing.T) {
	gap, edge := flagsOf(pair)[0], flagsOf(pair)[1]
	for _, c := range []struct {
		flags       []impl.Flag
		m, g, value string
	}{
		{[]impl.Flag{gap, edge}, "1/2 -1/2;-1/2 1/2", "3 0-1 0-2", "-1/6"}, {[]impl.Flag{gap, edge}, "1/2 -1/2;-1/2 1/2", "3", "1/2"}, {[]impl.Flag{gap, edge}, "1/2 -1/2;-1/2 1/2", "3 1-2", "-1/6"}, {[]impl.Flag{gap, edge}, "1/2 -1/2;-1/2 1/2", "3 0-1 0-2 1-2", "1/2"},
		{[]impl.Flag{edge}, "3", "3 0-1 1-2", "1"}, {[]impl.Flag{edge}, "3", "3 0-1", "0"}, {[]impl.Flag{gap}, "3", "3 0-1", "1"}, {[]impl.Flag{gap, edge}, "0 3;3 0", "3 0-1", "2"}, {[]impl.Flag{edge, gap}, "1 5;5 2", "3 0-1 0-2", "11/3"}, {[]impl.Flag{edge, gap}, "0 0;0 0", "3 0-1 0-2", "0"},
		{[]impl.Flag{edge}, "-1", "4 0-1 0-2 0-3", "-1/4"}, {[]impl.Flag{edge, edge}, "1 2;2 3", "4 0-1 0-2 0-3", "2"}, {[]impl.Flag{edge, edge}, "1 2;2 -5", "5 0-1 0-2 0-3 0-4", "0"}, {[]impl.Flag{edge}, "12", "5 0-1 1-2 2-3 3-4", "6/5"},
		{[]impl.Flag{{}}, "7/2", "0", "7/2"}, {[]impl.Flag{{}}, "7/2", "5 0-1", "7/2"}, {[]impl.Flag{flag(t, 1, "graph 1")}, "-2", "1", "-2"}, {[]impl.Flag{flag(t, 0, "graph 1")}, "-2", "2 0-1", "-2"}, {[]impl.Flag{flag(t, 2, "graph 2 0-1")}, "3", "3 0-1", "1"}, {[]impl.Flag{flag(t, 3, "graph 3 0-1")}, "6", "3 1-2", "2"},
		{[]impl.Flag{flag(t, 0, "graph 2 0-1")}, "3", "4 0-1 2-3", "1"}, {[]impl.Flag{flag(t, 0, "graph 2 0-1")}, "3", "4 0-1 0-2 0-3", "0"}, {[]impl.Flag{flag(t, 2, "graph 3 0-1 0-2 1-2")}, "6", "4 0-1 0-2 1-2 0-3 1-3", "1"}, {[]impl.Flag{flag(t, 1, "graph 3 0-1 0-2 1-2")}, "5", "5 0-1 0-2 1-2 0-3 0-4 3-4", "1/3"},
	} {
		got, code := impl.BlockValue(impl.Block{Flags: c.flags, Matrix: mat(c.m)}, graph(t, c.g))
		checkFraction(t, fmt.Sprint("BlockValue ", c.flags, c.m, " in ", c.g), got, code, fr(c.value), impl.OK)
	}
}

// DotOf each row is made before it is added, and rows are added in order; the
// flags are the same, and all averages 1 in the triangle, 1/3 in the path.
func TestBlockValuesAtTheLimit(t *testing.T) {
	edge := flagsOf(pair)[1]
	for _, c := range []struct {
		m, g  string
		value string
	}{
		{"1000000000", "3 0-1 0-2 1-2", "1000000000"}, {"-1000000000", "3 0-1 0-2 1-2", "-1000000000"}, {"1/1000000000", "3 0-1 0-2 1-2", "1/1000000000"}, {"1/333333333", "3 0-1 0-2", "1/999999999"}, {"1/333333334", "3 0-1 0-2", ""}, {"1/333333334", "3 0-1", "0"}, {"3/999999998", "3 0-1 0-2", "1/999999998"},
		{"-1 1000000000;1000000000 -1000000000", "3 0-1 0-2 1-2", "999999999"}, {"1000000000 -1;-1 1", "3 0-1 0-2 1-2", "999999999"}, {"1000000000 1;1 -1000000000", "3 0-1 0-2 1-2", ""}, {"-1000000000 1;1 1000000000", "3 0-1 0-2 1-2", ""}, {"-1000000000 2;2 999999998", "3 0-1 0-2 1-2", "2"}, {"-1000000000 -1;-1 1", "3 0-1 0-2 1-2", ""},
		{"-1 1000000000 1;1000000000 -1000000000 0;1 0 -1", "3 0-1 0-2 1-2", "1000000000"}, {"1 1000000000 -1;1000000000 -1000000000 0;-1 0 1", "3 0-1 0-2 1-2", ""}, {"0 0 0;0 1000000000 0;0 0 1", "3 0-1 0-2 1-2", ""}, {"-1 0 0;0 1000000000 0;0 0 1", "3 0-1 0-2 1-2", "1000000000"},
		{"1/65536 0;0 1/65537", "3 0-1 0-2 1-2", ""}, {"1/65536 0;0 -1/65536", "3 0-1 0-2 1-2", "0"}, {"1000000000 1000000000;1000000000 1000000000", "3 0-1", "0"}, {"1000000000 1000000000;1000000000 1000000000", "3 0-1 0-2", ""}, {"1000000000 0;0 1000000000", "3 0-1 0-2", ""}, {"500000000 0;0 500000000", "3 0-1 0-2", "1000000000/3"},
	} {
		b := impl.Block{Flags: copiesOf(edge, len(mat(c.m))), Matrix: mat(c.m)}
		got, code := impl.BlockValue(b, graph(t, c.g))
		if c.value == "" {
			isRefused(t, "BlockValue "+c.m+" in "+c.g, isZero(got), code, impl.ErrLimit)
		} else if code != impl.OK || rat(got).Cmp(rat(fr(c.value))) != 0 {
			t.Errorf("BlockValue %s in %s: %v, code %d, want %s", c.m, c.g, got, code, c.value)
		}
		checkBlockValue(t, b, graph(t, c.g))
	}
}

// checkSlacks holds SlackAt in all graphs with so many vertices, least or not,
// against what is reckoned.
func checkSlacks(t *testing.T, s impl.Statement, c impl.Certificate) {
	t.Helper()
	free := freeOf(c.Size, s.Forbidden)
	for i, f := range flagsOf(kind{impl.Graph{}, c.Size}) {
		g := f.Graph
		if i%2 == 1 {
			g = backwards(f).Graph
		}
		want, wantCode := impl.Fraction{}, int64(impl.ErrState)
		if slices.Contains(free, f.Graph) {
			want, wantCode = wantSlack(s, c, g)
		}
		got, code := impl.SlackAt(s, c, g)
		checkFraction(t, fmt.Sprint("SlackAt ", s, c, g), got, code, want, wantCode)
	}
}

func TestSlacks(t *testing.T) {
	random := seeded(64)
	for round := range 150 {
		s, c := someCase(t, random, someFractionsOf(random)[round%3])
		checkSlacks(t, s, c)
	}
	checkSlacks(t, mantel("1/2"), certified())
	for size := int64(3); size <= 5; size++ {
		c := certificateOf(size)
		for range impl.MaxBlocks {
			c.Blocks = append(c.Blocks, squareOn(random, kindsInRoom(size)[random.IntN(5)]))
		}
		checkSlacks(t, mantel("2/3"), c)
	}
}

// The target is taken from the bound before the blocks, and these in order: in
// the triangle all of them are whole numbers.
func TestSlacksAtTheLimit(t *testing.T) {
	whole := func(by string) impl.Block { return impl.Block{Flags: copiesOf(flagsOf(pair)[1], 1), Matrix: mat(by)} }
	triangle := impl.Graph{N: 3, Edges: 7}
	for _, c := range []struct{ bound, target, blocks, left string }{
		{"1000000000", "0", "", "1000000000"}, {"1000000000", "-1", "", ""}, {"1000000000", "1", "-1", "1000000000"}, {"1000000000", "-1", "1", ""}, {"1000000000", "0", "1 -1", "1000000000"}, {"1000000000", "0", "-1 1", ""}, {"1000000000", "1", "-2", ""}, {"-1000000000", "0", "1", ""}, {"-1000000000", "-1", "1", "-1000000000"},
		{"0", "1000000000", "", "-1000000000"}, {"0", "1000000000", "1", ""}, {"0", "1000000000", "-1 2", ""}, {"0", "1000000000", "-2 2", "-1000000000"}, {"0", "0", "1000000000 -1000000000 -1000000000", "1000000000"}, {"0", "0", "-1000000000 -1000000000 1000000000", ""}, {"1/65536", "1/65537", "", ""}, {"1/65536", "1/65536", "1/65537", "-1/65537"}, {"0", "1/3", "1/3 1/3 -1/2 -1/2 0", "0"},
	} {
		s := impl.Statement{Target: inOrder(impl.Graph{}, 3, "0 0 0 "+c.target), Bound: fr(c.bound)}
		certificate := certificateOf(3)
		for _, by := range frs(c.blocks) {
			certificate.Blocks = append(certificate.Blocks, whole(impl.FractionText(by)))
		}
		got, code := impl.SlackAt(s, certificate, triangle)
		if c.left == "" {
			isRefused(t, fmt.Sprint("SlackAt ", c), isZero(got), code, impl.ErrLimit)
		} else {
			checkFraction(t, fmt.Sprint("SlackAt ", c), got, code, fr(c.left), impl.OK)
		}
		checkProof(t, s, certificate)
	}
}
