package tests

import (
	"fmt"
	"math/rand/v2"
	"slices"
	"testing"

	"loop.example/g01169/impl"
)

// Promise 5: a positive matrix is the sum of its squares; one that is not has a
// list that shows it.

// checkSquares compares all functions about squares with what is reckoned for a
// valid matrix, and returns the code of SquaresOf.
func checkSquares(t *testing.T, m [][]impl.Fraction) int64 {
	t.Helper()
	wantPivots, wantRows, want, wantX, wantOfX := wantSquares(m)
	pivots, rows, code := impl.SquaresOf(m)
	if code != want || !slices.Equal(pivots, wantPivots) || !equalRows(rows, wantRows) {
		t.Fatalf("SquaresOf %v: %v, %v, code %d, want %v, %v, code %d", m, pivots, rows, code, wantPivots, wantRows, want)
	}
	wantOfPositive := want
	if want == impl.ErrState {
		wantOfPositive = impl.OK
	}
	if positive, second := impl.IsPositive(m); positive != (want == impl.OK) || second != wantOfPositive {
		t.Fatalf("IsPositive %v: %v, code %d, where SquaresOf has %d", m, positive, second, want)
	}
	var wantRank int64
	for _, pivot := range wantPivots {
		if pivot.P != 0 {
			wantRank++
		}
	}
	if rank, third := impl.RankOf(m); rank != wantRank || third != want {
		t.Fatalf("RankOf %v: %d, code %d, want %d, code %d", m, rank, third, wantRank, want)
	}
	x, fourth := impl.NegativeVector(m)
	if fourth != wantOfX || !slices.Equal(x, wantX) {
		t.Fatalf("NegativeVector %v: %v, code %d, want %v, code %d", m, x, fourth, wantX, wantOfX)
	}
	return code
}

// checkShown checks the promise itself, for a matrix whose fractions stay small.
func checkShown(t *testing.T, m [][]impl.Fraction) {
	t.Helper()
	positive, code := impl.IsPositive(m)
	if want := !hasNegativeMinor(m); code != impl.OK || positive != want {
		t.Fatalf("IsPositive %v: %v, code %d, want %v", m, positive, code, want)
	}
	if !positive {
		x, code := impl.NegativeVector(m)
		form, second := impl.FormOf(m, x)
		if code != impl.OK || second != impl.OK || form.P >= 0 {
			t.Fatalf("NegativeVector %v: %v, code %d, and the form is %v, code %d", m, x, code, form, second)
		}
		return
	}
	pivots, rows, code := impl.SquaresOf(m)
	again, second := impl.FromSquares(pivots, rows)
	if code != impl.OK || second != impl.OK || !equalRows(again, m) || !impl.SameMatrix(again, m) {
		t.Fatalf("SquaresOf %v: %v, %v, code %d, and FromSquares is %v, code %d", m, pivots, rows, code, again, second)
	}
}

func TestAllSmallMatrices(t *testing.T) {
	counts := map[int64]int{}
	check := func(m [][]impl.Fraction) {
		counts[checkSquares(t, m)]++
		checkShown(t, m)
	}
	check(nil)
	everySymmetric(1, frs("-2 -1/2 0 1/3 4"), check)
	everySymmetric(2, frs("-3 -1 -1/2 0 1/4 1/2 1 2 5"), check)
	everySymmetric(3, frs("-1 0 1/2 1 2"), check)
	everySymmetric(4, frs("0 1"), check)
	if counts[impl.OK] < 500 || counts[impl.ErrState] < 500 || counts[impl.ErrLimit] > 0 {
		t.Errorf("too few of one code: %v", counts)
	}
}

func TestSomeMatrices(t *testing.T) {
	random := rand.New(rand.NewPCG(2, 5))
	counts := map[int64]int{}
	for range 6000 {
		n, size := random.IntN(6), []int64{2, 5, 40, 1000, 40000, part}[random.IntN(6)]
		counts[checkSquares(t, symmetric(n, someFractions(random, n*(n+1)/2, size)))]++
	}
	if counts[impl.OK] < 500 || counts[impl.ErrState] < 500 || counts[impl.ErrLimit] < 500 {
		t.Errorf("too few of one code: %v", counts)
	}
}

// Sums of squares are made of whole numbers, with fewer squares than rows among
// them, so that pivots of 0 come in all places.
func TestSumsOfSquaresArePositive(t *testing.T) {
	random := rand.New(rand.NewPCG(2, 6))
	for range 3000 {
		n := random.IntN(5)
		pivots, rows := make([]impl.Fraction, n), make([][]impl.Fraction, n)
		for k := range n {
			pivots[k] = impl.Fraction{P: random.Int64N(3), Q: 1}
			for range n {
				rows[k] = append(rows[k], impl.Fraction{P: random.Int64N(5) - 2, Q: 1})
			}
		}
		want, wantCode := wantFromSquares(pivots, rows)
		m, code := impl.FromSquares(pivots, rows)
		checkMatrix(t, fmt.Sprint("FromSquares", pivots, rows), m, code, want, wantCode)
		if positive, code := impl.IsPositive(m); code != impl.OK || !positive {
			t.Fatalf("IsPositive %v: %v, code %d", m, positive, code)
		}
		checkSquares(t, m)
		checkShown(t, m)
		// One place of the diagonal is made less, to be just positive or just not.
		if n > 0 {
			i := random.IntN(n)
			m[i][i].P -= random.Int64N(3)
			checkSquares(t, m)
			checkShown(t, m)
		}
	}
}

func TestSquaresOfGreatestMatrices(t *testing.T) {
	unit, _ := impl.UnitMatrix(8)
	pivots, rows, code := impl.SquaresOf(unit)
	if code != impl.OK || !slices.Equal(pivots, slices.Repeat(frs("1"), 8)) || !equalRows(rows, unit) {
		t.Errorf("SquaresOf the unit matrix: %v, %v, code %d", pivots, rows, code)
	}
	for _, m := range [][][]impl.Fraction{unit, symmetric(8, slices.Repeat(frs("0"), 36)), symmetric(8, slices.Repeat(frs("1/3"), 36)), symmetric(8, slices.Repeat(frs("1000000000"), 36)), symmetric(8, slices.Repeat(frs("-1"), 36))} {
		checkSquares(t, m)
	}
	// The last place alone tells whether these are positive.
	for _, last := range []string{"1/8", "1/9", "0", "-1"} {
		m := symmetric(8, slices.Repeat(frs("1/8"), 36))
		m[7][7] = fr(last)
		checkSquares(t, m)
		checkShown(t, m)
	}
	full := slices.Repeat([][]impl.Fraction{slices.Repeat(frs("1"), 8)}, 8)
	m, code := impl.FromSquares(slices.Repeat(frs("1"), 8), full)
	checkMatrix(t, "FromSquares of ones", m, code, symmetric(8, slices.Repeat(frs("8"), 36)), impl.OK)
}

func TestPivots(t *testing.T) {
	for _, c := range []struct {
		m, pivots, rows string
		rank            int64
	}{
		{"", "", "", 0},
		{"0", "0", "1", 0},
		{"7/3", "7/3", "1", 1},
		{"1 1/2;1/2 1/4", "1 0", "1 1/2;0 1", 1},
		{"0 0;0 3", "0 3", "1 0;0 1", 1},
		{"0 0;0 0", "0 0", "1 0;0 1", 0},
		{"2 1;1 2", "2 3/2", "1 1/2;0 1", 2},
		{"4 2 -2;2 1 -1;-2 -1 5", "4 0 4", "1 1/2 -1/2;0 1 0;0 0 1", 2},
		{"1 1 1;1 2 3;1 3 6", "1 1 1", "1 1 1;0 1 2;0 0 1", 3},
		{"1 2 3;2 4 6;3 6 9", "1 0 0", "1 2 3;0 1 0;0 0 1", 1},
	} {
		m := mat(c.m)
		pivots, rows, code := impl.SquaresOf(m)
		if code != impl.OK || !slices.Equal(pivots, frs(c.pivots)) || !equalRows(rows, mat(c.rows)) {
			t.Errorf("SquaresOf %s: %v, %v, code %d, want %s and %s", c.m, pivots, rows, code, c.pivots, c.rows)
		}
		if rank, code := impl.RankOf(m); code != impl.OK || rank != c.rank {
			t.Errorf("RankOf %s: %d, code %d, want %d", c.m, rank, code, c.rank)
		}
		if x, code := impl.NegativeVector(m); code != impl.ErrNotFound || len(x) > 0 {
			t.Errorf("NegativeVector %s: %v, code %d, want ErrNotFound", c.m, x, code)
		}
		checkSquares(t, m)
		checkShown(t, m)
	}
}

func TestNegativeVectors(t *testing.T) {
	for _, c := range []struct{ m, x string }{
		{"-1", "1"},
		{"-1 0;0 5", "1 0"},
		{"-1 7;7 -1", "1 0"},
		{"1 2;2 1", "-2 1"},
		{"0 1;1 0", "-1/2 1"},
		{"0 -1;-1 0", "1/2 1"},
		{"0 2;2 4", "-5/4 1"},
		{"0 0 1;0 5 0;1 0 2", "-3/2 0 1"},
		{"0 1 2;1 0 3;2 3 0", "-1/2 1 0"},
		{"1 0 0;0 0 0;0 0 -3", "0 0 1"},
		{"1 1 1;1 1 2;1 2 1", "-1/2 -1/2 1"},
		{"0 0 0;0 0 1;0 1 0", "0 -1/2 1"},
		{"1 0 0;0 -1 0;0 0 -1", "0 1 0"},
		{"1 2 0;2 4 1;0 1 1", "2 -1 1"},
		{"4 2 1;2 1 1;1 1 0", "1/8 -3/4 1"},
	} {
		m := mat(c.m)
		x, code := impl.NegativeVector(m)
		if code != impl.OK || !slices.Equal(x, frs(c.x)) {
			t.Errorf("NegativeVector %s: %v, code %d, want %s", c.m, x, code, c.x)
		}
		checkSquares(t, m)
		checkShown(t, m)
	}
}

// Which comes first, a fraction that is too large or the step at which a matrix
// is found not to be positive, is what the codes tell.
func TestWhichEndIsFirst(t *testing.T) {
	for _, c := range []struct {
		why, m string
		code   int64
	}{
		{"a negative pivot at once, and great numbers behind", "-1 1000000000;1000000000 1000000000", impl.ErrState},
		{"a pivot of 0 with a row, and great numbers behind", "0 1000000000;1000000000 1000000000", impl.ErrState},
		{"a negative pivot at 1, the step before being small", "1 2 0;2 1 1000000000;0 1000000000 1000000000", impl.ErrState},
		{"a place behind is too large in the step before a negative pivot", "1 2 40000;2 1 0;40000 0 1", impl.ErrLimit},
		{"the product is too large, the difference is not, and the pivot would be negative", "1 40000;40000 1000000000", impl.ErrLimit},
		{"the product is too large, and the matrix positive", "1 31623;31623 1000000000", impl.ErrLimit},
		{"the product is just not too large", "1 31622;31622 1000000000", impl.OK},
		{"the place in the row is too large, and nothing else would be", "1/3 500000000;500000000 1", impl.ErrLimit},
		{"the denominator of the place in the row is too large", "999999937/1000000000 1/3;1/3 1", impl.ErrLimit},
		{"the difference is too large", "1 1;1 -1000000000", impl.ErrLimit},
		{"the difference is just not too large", "1 1;1 -999999999", impl.ErrState},
		{"a place off the diagonal is too large alone", "1 31622 31622;31622 999950884 -1000000000;31622 -1000000000 999950884", impl.ErrLimit},
		{"the last place in the row is too large", "1/1000 0 2000000;0 -1 0;2000000 0 1", impl.ErrLimit},
		{"the row of a pivot of 0 is not divided", "0 0;0 1000000000", impl.OK},
		{"nothing is made of one row", "-1000000000", impl.ErrState},
		{"nothing is made of one row", "1000000000", impl.OK},
	} {
		m := mat(c.m)
		if pivots, rows, code := impl.SquaresOf(m); code != c.code || c.code != impl.OK && len(pivots)+len(rows) > 0 {
			t.Errorf("%s: SquaresOf %s: %v, %v, code %d, want %d", c.why, c.m, pivots, rows, code, c.code)
		}
		checkSquares(t, m)
	}
}

func TestNegativeVectorsThatAreTooLarge(t *testing.T) {
	for _, c := range []struct {
		why, m, x string
	}{
		{"s[i][i] + 1 is too large", "0 1;1 1000000000", ""},
		{"s[i][i] + 1 is just not too large", "0 1;1 999999999", "-500000000 1"},
		{"2 * s[i][k] is too large", "0 500000001;500000001 0", ""},
		{"2 * s[i][k] is just not too large", "0 500000000;500000000 0", "-1/1000000000 1"},
		{"2 * s[i][k] is too large, and the quotient would not be", "0 600000000;600000000 599999999", ""},
		{"the quotient is too large", "0 1/1000000000;1/1000000000 99", ""},
		{"the first place is too large", "1 30000 0;30000 900000000 1;0 1 99999", ""},
	} {
		x, code := impl.NegativeVector(mat(c.m))
		if c.x == "" && (code != impl.ErrLimit || len(x) > 0) || c.x != "" && (code != impl.OK || !slices.Equal(x, frs(c.x))) {
			t.Errorf("%s: NegativeVector %s: %v, code %d", c.why, c.m, x, code)
		}
		if positive, code := impl.IsPositive(mat(c.m)); code != impl.OK || positive {
			t.Errorf("%s: IsPositive %s: %v, code %d", c.why, c.m, positive, code)
		}
		checkSquares(t, mat(c.m))
	}
}

func TestFromSquares(t *testing.T) {
	for _, c := range []struct {
		why, pivots, rows, want string
		code                    int64
	}{
		{"none", "", "", "", impl.OK},
		{"one", "3", "2", "12", impl.OK},
		{"pivots may be negative", "-1", "2", "-4", impl.OK},
		{"rows may be any", "1 -2", "1 2;3 1/2", "-17 -1;-1 7/2", impl.OK},
		{"the square is too large, though its pivot is 0", "0", "31623", "", impl.ErrLimit},
		{"the square is too large, and times the pivot it would not be", "1/1000", "31623", "", impl.ErrLimit},
		{"the square times the pivot is too large", "2", "31622", "", impl.ErrLimit},
		{"the sum of the first two is too large", "1000000000 1 -1", "1 0 0;1 0 0;1 0 0", "", impl.ErrLimit},
		{"the sum of the first two is not", "1 -1 1000000000", "1 0 0;1 0 0;1 0 0", "1000000000 0 0;0 0 0;0 0 0", impl.OK},
		{"fewer rows than pivots", "1 1", "1 1", "", impl.ErrRange},
		{"no rows", "1", "", "", impl.ErrRange},
		{"more rows than pivots", "1", "1;1", "", impl.ErrRange},
		{"no pivots", "", "1", "", impl.ErrRange},
		{"a row that is too short", "1 1", "1 1;1", "", impl.ErrRange},
		{"a row that is too long", "1 1", "1 1 1;1 1", "", impl.ErrRange},
		{"great rows that are too long", "1", "1000000000 1", "", impl.ErrRange},
	} {
		got, code := impl.FromSquares(frs(c.pivots), mat(c.rows))
		checkMatrix(t, c.why, got, code, mat(c.want), c.code)
	}
	ones := func(n int) []impl.Fraction { return slices.Repeat(frs("1"), n) }
	for _, c := range []struct {
		pivots []impl.Fraction
		rows   [][]impl.Fraction
		code   int64
	}{
		{ones(9), slices.Repeat([][]impl.Fraction{ones(9)}, 9), impl.ErrRange},
		{ones(256), nil, impl.ErrRange},
		{ones(257), nil, impl.ErrInvalid},
		{ones(257), slices.Repeat([][]impl.Fraction{ones(257)}, 257), impl.ErrInvalid},
		{ones(1), [][]impl.Fraction{ones(256)}, impl.ErrRange},
		{ones(1), [][]impl.Fraction{ones(257)}, impl.ErrInvalid},
		{ones(1), [][]impl.Fraction{ones(1), ones(257)}, impl.ErrInvalid},
		{nil, [][]impl.Fraction{nil, ones(257)}, impl.ErrInvalid},
		{nil, [][]impl.Fraction{nil}, impl.ErrRange},
		{ones(1), [][]impl.Fraction{nil}, impl.ErrRange},
		{nil, [][]impl.Fraction{}, impl.OK},
	} {
		got, code := impl.FromSquares(c.pivots, c.rows)
		checkMatrix(t, fmt.Sprint("FromSquares", len(c.pivots), len(c.rows)), got, code, nil, c.code)
	}
	for _, bad := range badFractions() {
		for _, rows := range [][][]impl.Fraction{nil, mat("1"), mat("1 1;1")} {
			got, code := impl.FromSquares([]impl.Fraction{bad}, rows)
			checkMatrix(t, fmt.Sprint("a pivot ", bad), got, code, nil, impl.ErrInvalid)
			got, code = impl.FromSquares(frs("1000000000"), append(rows, []impl.Fraction{fr("1000000000"), bad}))
			checkMatrix(t, fmt.Sprint("in a row ", bad), got, code, nil, impl.ErrInvalid)
		}
	}
}

func TestSomeFromSquares(t *testing.T) {
	random := rand.New(rand.NewPCG(2, 7))
	counts := map[int64]int{}
	for range 3000 {
		n, size := random.IntN(5), []int64{3, 30, 1000, 40000}[random.IntN(4)]
		pivots, rows := someFractions(random, n, size), make([][]impl.Fraction, n)
		for k := range rows {
			rows[k] = someFractions(random, n, []int64{3, size}[random.IntN(2)])
		}
		want, wantCode := wantFromSquares(pivots, rows)
		got, code := impl.FromSquares(pivots, rows)
		checkMatrix(t, fmt.Sprint("FromSquares", pivots, rows), got, code, want, wantCode)
		counts[code]++
	}
	if counts[impl.OK] < 500 || counts[impl.ErrLimit] < 500 {
		t.Errorf("too few of one code: %v", counts)
	}
}

func TestSquaresRefuse(t *testing.T) {
	for _, bad := range badMatrices() {
		pivots, rows, code := impl.SquaresOf(bad)
		if code != impl.ErrInvalid || len(pivots)+len(rows) > 0 {
			t.Errorf("SquaresOf %v: %v, %v, code %d", bad, pivots, rows, code)
		}
		if positive, code := impl.IsPositive(bad); code != impl.ErrInvalid || positive {
			t.Errorf("IsPositive %v: %v, code %d", bad, positive, code)
		}
		if rank, code := impl.RankOf(bad); code != impl.ErrInvalid || rank != 0 {
			t.Errorf("RankOf %v: %d, code %d", bad, rank, code)
		}
		if x, code := impl.NegativeVector(bad); code != impl.ErrInvalid || len(x) > 0 {
			t.Errorf("NegativeVector %v: %v, code %d", bad, x, code)
		}
	}
}
