package tests

import (
	"math/big"
	"math/rand/v2"
	"slices"
	"strings"
	"testing"

	"loop.example/g01169/impl"
)

// The helpers reckon with math/big, which has no limits, and keep in mind
// whether a fraction on the way has been too large for the program.

type reckoner struct{ tooLarge bool }

func (r *reckoner) keep(x *big.Rat) *big.Rat {
	most := big.NewInt(1000000000)
	if x.Num().CmpAbs(most) > 0 || x.Denom().Cmp(most) > 0 {
		r.tooLarge = true
	}
	return x
}

func (r *reckoner) add(a, b *big.Rat) *big.Rat { return r.keep(new(big.Rat).Add(a, b)) }
func (r *reckoner) sub(a, b *big.Rat) *big.Rat { return r.keep(new(big.Rat).Sub(a, b)) }
func (r *reckoner) mul(a, b *big.Rat) *big.Rat { return r.keep(new(big.Rat).Mul(a, b)) }
func (r *reckoner) div(a, b *big.Rat) *big.Rat { return r.keep(new(big.Rat).Quo(a, b)) }

// code returns ErrLimit if there has been such a fraction, and else otherwise.
func (r *reckoner) code(otherwise int64) int64 {
	if r.tooLarge {
		return impl.ErrLimit
	}
	return otherwise
}

func (r *reckoner) dot(x, y []*big.Rat) *big.Rat {
	sum := new(big.Rat)
	for i := range x {
		sum = r.add(sum, r.mul(x[i], y[i]))
	}
	return sum
}

func (r *reckoner) form(m [][]*big.Rat, x []*big.Rat) *big.Rat {
	sum := new(big.Rat)
	for i := range x {
		sum = r.add(sum, r.mul(r.dot(m[i], x), x[i]))
	}
	return sum
}

// pivots does the steps of the document. It returns what is left, the rows, and
// the index and the case (1 or 2) of the step that ended them, 0 if none has.
func (r *reckoner) pivots(m [][]*big.Rat) (s, rows [][]*big.Rat, end, how int) {
	s = m
	for k := range m {
		if s[k][k].Sign() < 0 {
			return s, rows, k, 1
		}
		row := zeroRats(len(m))
		row[k] = big.NewRat(1, 1)
		next := make([][]*big.Rat, len(m))
		for i := range s {
			next[i] = slices.Clone(s[i])
		}
		for i := k + 1; i < len(m); i++ {
			if s[k][k].Sign() == 0 && s[i][k].Sign() != 0 {
				return s, rows, k, 2
			}
			if s[k][k].Sign() > 0 {
				row[i] = r.div(s[i][k], s[k][k])
			}
			for j := k + 1; j < len(m) && s[k][k].Sign() > 0; j++ {
				next[i][j] = r.sub(s[i][j], r.mul(row[i], s[k][j]))
			}
		}
		if r.tooLarge {
			return s, rows, k, 0
		}
		s, rows = next, append(rows, row)
	}
	return s, rows, len(m), 0
}

// negative returns the list of the document for a matrix that is not positive.
func (r *reckoner) negative(s, rows [][]*big.Rat, k, how int) []*big.Rat {
	one, two := big.NewRat(1, 1), big.NewRat(2, 1)
	x := zeroRats(len(s))
	if how == 1 {
		x[k] = one
	} else {
		i := k + 1
		for s[i][k].Sign() == 0 {
			i++
		}
		x[i] = one
		x[k] = r.div(r.sub(new(big.Rat), r.add(s[i][i], one)), r.mul(two, s[i][k]))
	}
	for j := k - 1; j >= 0; j-- {
		x[j] = r.sub(new(big.Rat), r.dot(rows[j][j+1:], x[j+1:]))
	}
	return x
}

func zeroRats(n int) []*big.Rat {
	list := make([]*big.Rat, n)
	for i := range list {
		list[i] = new(big.Rat)
	}
	return list
}

// wantSquares returns what SquaresOf and, with its code, NegativeVector have to
// return for a valid matrix.
func wantSquares(m [][]impl.Fraction) (pivots []impl.Fraction, rows [][]impl.Fraction, code int64, x []impl.Fraction, codeOfX int64) {
	var r reckoner
	s, found, k, how := r.pivots(ratRows(m))
	switch {
	case r.tooLarge:
		return nil, nil, impl.ErrLimit, nil, impl.ErrLimit
	case how == 0:
		for i := range s {
			pivots = append(pivots, ofRat(s[i][i]))
			rows = append(rows, ofRats(found[i]))
		}
		return pivots, rows, impl.OK, nil, impl.ErrNotFound
	}
	list := r.negative(s, found, k, how)
	if r.tooLarge {
		return nil, nil, impl.ErrState, nil, impl.ErrLimit
	}
	return nil, nil, impl.ErrState, ofRats(list), impl.OK
}

// wantFromSquares returns what FromSquares has to return for lists that fit.
func wantFromSquares(pivots []impl.Fraction, rows [][]impl.Fraction) ([][]impl.Fraction, int64) {
	var r reckoner
	sum := make([][]*big.Rat, len(pivots))
	for i := range sum {
		sum[i] = zeroRats(len(pivots))
	}
	for k, row := range ratRows(rows) {
		for i := range row {
			for j := range row {
				sum[i][j] = r.add(sum[i][j], r.mul(r.mul(row[i], row[j]), rat(pivots[k])))
			}
		}
	}
	if r.tooLarge {
		return nil, impl.ErrLimit
	}
	var m [][]impl.Fraction
	for _, row := range sum {
		m = append(m, ofRats(row))
	}
	return m, impl.OK
}

// hasNegativeMinor reports whether a minor on equal rows and columns is less
// than 0: a matrix is positive just if there is none.
func hasNegativeMinor(m [][]impl.Fraction) bool {
	rows := ratRows(m)
	for set := range 1 << len(m) {
		var part [][]*big.Rat
		for i := range m {
			if set>>i&1 == 0 {
				continue
			}
			var row []*big.Rat
			for j := range m {
				if set>>j&1 == 1 {
					row = append(row, rows[i][j])
				}
			}
			part = append(part, row)
		}
		if determinant(part).Sign() < 0 {
			return true
		}
	}
	return false
}

// determinant expands along the first row.
func determinant(m [][]*big.Rat) *big.Rat {
	if len(m) == 0 {
		return big.NewRat(1, 1)
	}
	sum := new(big.Rat)
	for j := range m {
		var rest [][]*big.Rat
		for _, row := range m[1:] {
			rest = append(rest, slices.Delete(slices.Clone(row), j, j+1))
		}
		product := new(big.Rat).Mul(m[0][j], determinant(rest))
		if j%2 == 1 {
			product.Neg(product)
		}
		sum.Add(sum, product)
	}
	return sum
}

func rat(a impl.Fraction) *big.Rat {
	return big.NewRat(a.P, a.Q)
}

func rats(list []impl.Fraction) []*big.Rat {
	var made []*big.Rat
	for _, a := range list {
		made = append(made, rat(a))
	}
	return made
}

func ratRows(m [][]impl.Fraction) [][]*big.Rat {
	var made [][]*big.Rat
	for _, row := range m {
		made = append(made, rats(row))
	}
	return made
}

func ofRat(x *big.Rat) impl.Fraction {
	return impl.Fraction{P: x.Num().Int64(), Q: x.Denom().Int64()}
}

func ofRats(list []*big.Rat) []impl.Fraction {
	var made []impl.Fraction
	for _, x := range list {
		made = append(made, ofRat(x))
	}
	return made
}

// fr returns the fraction that a text names.
func fr(text string) impl.Fraction {
	x, ok := new(big.Rat).SetString(text)
	if !ok {
		panic("no fraction: " + text)
	}
	return ofRat(x)
}

// frs returns the fractions that the words of a text name.
func frs(text string) []impl.Fraction {
	var list []impl.Fraction
	for word := range strings.FieldsSeq(text) {
		list = append(list, fr(word))
	}
	return list
}

// mat returns the matrix whose rows are separated by ";" in a text.
func mat(text string) [][]impl.Fraction {
	var m [][]impl.Fraction
	if text == "" {
		return m
	}
	for row := range strings.SplitSeq(text, ";") {
		m = append(m, frs(row))
	}
	return m
}

// symmetric returns the matrix of n rows with the given fractions in and below
// its diagonal, row by row.
func symmetric(n int, below []impl.Fraction) [][]impl.Fraction {
	m := make([][]impl.Fraction, n)
	for i := range m {
		m[i] = make([]impl.Fraction, n)
		for j := range i + 1 {
			m[i][j], m[j][i] = below[0], below[0]
			below = below[1:]
		}
	}
	return m
}

// everySymmetric calls check for all symmetric matrices of n rows with the
// given fractions.
func everySymmetric(n int, from []impl.Fraction, check func(m [][]impl.Fraction)) {
	places := n * (n + 1) / 2
	count := 1
	for range places {
		count *= len(from)
	}
	for number := range count {
		var below []impl.Fraction
		for range places {
			below = append(below, from[number%len(from)])
			number /= len(from)
		}
		check(symmetric(n, below))
	}
}

// someFraction returns a fraction with parts of at most so many in size.
func someFraction(random *rand.Rand, most int64) impl.Fraction {
	return ofRat(big.NewRat(random.Int64N(2*most+1)-most, random.Int64N(most)+1))
}

func someFractions(random *rand.Rand, n int, most int64) []impl.Fraction {
	var list []impl.Fraction
	for range n {
		list = append(list, someFraction(random, most))
	}
	return list
}

// badFractions returns fractions that are not valid.
func badFractions() []impl.Fraction {
	const least, greatest = -1 << 63, 1<<63 - 1
	return []impl.Fraction{
		{}, {P: 1}, {P: -1}, {P: 1, Q: -1}, {P: -1, Q: -1}, {Q: -1}, {P: 1, Q: -2}, {Q: 2}, {Q: 1000000000},
		{P: 2, Q: 4}, {P: -2, Q: 4}, {P: 6, Q: 3}, {P: 2, Q: 2}, {P: 999999998, Q: 2}, {P: 1000000000, Q: 1000000000}, {P: 15, Q: 999999990},
		{P: 1000000001, Q: 1}, {P: -1000000001, Q: 1}, {P: 1, Q: 1000000001}, {P: 1000000001, Q: 1000000002},
		{P: least, Q: 1}, {P: 1, Q: least}, {P: least, Q: least}, {P: least}, {Q: least}, {P: greatest, Q: 1}, {P: 1, Q: greatest}, {P: greatest, Q: greatest}, {P: least, Q: greatest},
	}
}

// badMatrices returns lists of rows that are no valid matrices.
func badMatrices() [][][]impl.Fraction {
	list := [][][]impl.Fraction{
		{{}}, {nil}, {{}, {}}, mat("1 1"), mat("1;1"), mat("1 0;0"), mat("1;0 1"), mat("1 0 0;0 1 0"), mat("1 0;0 1;0 0"), mat("1 0 0;0 1;0 0 1"),
		mat("1 2;3 4"), mat("1 1/2;-1/2 1"), mat("0 1;0 0"), mat("0 0;1 0"), mat("1 2 3;2 1 4;3 5 1"), mat("1 2 3;2 1 4;0 4 1"),
		symmetric(9, slices.Repeat(frs("0"), 45)),
	}
	for _, bad := range badFractions() {
		list = append(list, [][]impl.Fraction{{bad}}, symmetric(2, []impl.Fraction{fr("1"), bad, fr("1")}), symmetric(3, append(frs("1 0 1 0 0"), bad)))
	}
	return list
}

// isZero reports whether a result has nothing in it.
func isZero(a impl.Fraction) bool {
	return a == impl.Fraction{}
}

func checkMatrix(t *testing.T, what string, got [][]impl.Fraction, code int64, want [][]impl.Fraction, wantCode int64) {
	t.Helper()
	if code != wantCode || len(got) != len(want) || !equalRows(got, want) {
		t.Fatalf("%s: %v, code %d, want %v, code %d", what, got, code, want, wantCode)
	}
}

func checkFraction(t *testing.T, what string, got impl.Fraction, code int64, want impl.Fraction, wantCode int64) {
	t.Helper()
	if code != wantCode || got != want {
		t.Fatalf("%s: %v, code %d, want %v, code %d", what, got, code, want, wantCode)
	}
}

// equalRows compares rows without the program's SameMatrix.
func equalRows(m, n [][]impl.Fraction) bool {
	return slices.EqualFunc(m, n, func(a, b []impl.Fraction) bool { return slices.Equal(a, b) })
}
