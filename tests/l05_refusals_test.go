package tests

import (
	"fmt"
	"slices"
	"testing"

	"loop.example/g01169/impl"
)

// Promises 9 and 10 where there is no sum: each function returns the error that
// the document names first, and nothing else.

// checkTwoSums calls the functions of two sums, both ways round.
func checkTwoSums(t *testing.T, a, b impl.FlagSum, add, multiply, equal int64) {
	t.Helper()
	for range 2 {
		got, code := impl.AddSums(a, b)
		checkCode(t, got, code, add, "AddSums ", a, b)
		got, code = impl.MultiplySums(a, b)
		checkCode(t, got, code, multiply, "MultiplySums ", a, b)
		same, code := impl.AreEqualSums(a, b)
		isRefused(t, fmt.Sprint("AreEqualSums ", a, b), equal == impl.OK || !same, code, equal)
		a, b = b, a
	}
}

func TestSumsThatAreNotValidAreRefused(t *testing.T) {
	edge, six := flag(t, 1, "graph 2 0-1"), times(impl.Graph{N: 5}, 7)
	others := []impl.FlagSum{{}, inOrder(impl.Graph{N: 1}, 2, "1 2"), inOrder(impl.Graph{N: 1}, 5, "1000000000"), inOrder(impl.Graph{N: 2}, 3, "1")}
	for _, bad := range badSums() {
		for _, b := range append(others, bad) {
			checkTwoSums(t, bad, b, impl.ErrInvalid, impl.ErrInvalid, impl.ErrInvalid)
		}
		for _, by := range []impl.Fraction{fr("0"), fr("1"), fr("1000000000"), {}} {
			got, code := impl.ScaleSum(bad, by)
			checkRefusedSum(t, got, code, impl.ErrInvalid, "ScaleSum ", bad, by)
		}
		for _, size := range []int64{-1 << 63, -1, 0, 2, 3, 5, 6, bad.Size} {
			got, code := impl.RaiseSum(bad, size)
			checkRefusedSum(t, got, code, impl.ErrInvalid, "RaiseSum ", bad, size)
		}
		got, code := impl.AverageSum(bad)
		checkRefusedSum(t, got, code, impl.ErrInvalid, "AverageSum ", bad)
		for _, f := range []impl.Flag{{}, edge, flag(t, 1, "graph 5 0-1"), flag(t, 3, "graph 3"), {Labels: 4}} {
			value, code := impl.CoefficientOf(bad, f)
			isRefused(t, fmt.Sprint("CoefficientOf ", bad, f), isZero(value), code, impl.ErrInvalid)
			value, code = impl.ValueIn(bad, f)
			isRefused(t, fmt.Sprint("ValueIn ", bad, f), isZero(value), code, impl.ErrInvalid)
		}
		for _, forbidden := range [][]impl.Graph{nil, {{}}, six, {{N: -1}}} {
			checkWithout(t, bad, forbidden, impl.ErrInvalid, impl.ErrInvalid)
		}
	}
}

// checkWithout calls the functions of a sum and of forbidden parts.
func checkWithout(t *testing.T, a impl.FlagSum, forbidden []impl.Graph, without, least int64) {
	t.Helper()
	got, code := impl.WithoutForbidden(a, forbidden)
	checkCode(t, got, code, without, "WithoutForbidden ", a, forbidden)
	by, f, code := impl.LeastValue(a, forbidden)
	isRefused(t, fmt.Sprint("LeastValue ", a, forbidden), least == impl.OK || isZero(by) && f == impl.Flag{}, code, least)
}

// What comes with a valid sum is not valid; that comes before all other errors.
func TestWhatIsNotValidBesideSums(t *testing.T) {
	a, great := inOrder(impl.Graph{N: 1}, 3, "1 2 3"), inOrder(impl.Graph{N: 1}, 5, "1000000000")
	for _, sum := range []impl.FlagSum{a, great, {}} {
		for _, bad := range badFlags() {
			value, code := impl.CoefficientOf(sum, bad)
			isRefused(t, fmt.Sprint("CoefficientOf ", sum, bad), isZero(value), code, impl.ErrInvalid)
			value, code = impl.ValueIn(sum, bad)
			isRefused(t, fmt.Sprint("ValueIn ", sum, bad), isZero(value), code, impl.ErrInvalid)
		}
		for _, bad := range badFractions() {
			got, code := impl.ScaleSum(sum, bad)
			checkRefusedSum(t, got, code, impl.ErrInvalid, "ScaleSum ", sum, bad)
		}
		for _, bad := range badGraphs() {
			for _, forbidden := range [][]impl.Graph{{bad}, {{}, bad}, append(times(impl.Graph{N: 5}, 6), bad), append([]impl.Graph{bad}, times(impl.Graph{}, 9)...)} {
				checkWithout(t, sum, forbidden, impl.ErrInvalid, impl.ErrInvalid)
			}
		}
		checkWithout(t, sum, times(impl.Graph{N: 5, Edges: 1023}, 7), impl.ErrLimit, impl.ErrLimit)
		checkWithout(t, sum, times(impl.Graph{}, 7), impl.ErrLimit, impl.ErrLimit)
		checkWithout(t, sum, times(impl.Graph{}, 6), impl.OK, impl.ErrNotFound)
	}
	for _, bad := range badFlags() {
		got, code := impl.SumOfFlag(bad)
		checkRefusedSum(t, got, code, impl.ErrInvalid, "SumOfFlag ", bad)
	}
	for _, bad := range badGraphs() {
		for _, size := range []int64{-1, 0, 3, 5, 6, bad.N} {
			got, code := impl.ZeroSum(bad, size)
			checkRefusedSum(t, got, code, impl.ErrInvalid, "ZeroSum ", bad, size)
			got, code = impl.AllOnes(bad, size)
			checkRefusedSum(t, got, code, impl.ErrInvalid, "AllOnes ", bad, size)
			got, code = impl.SumOfFlags(bad, size, a.Terms)
			checkRefusedSum(t, got, code, impl.ErrInvalid, "SumOfFlags ", bad, size)
			got, code = impl.SumOfFlags(bad, size, nil)
			checkRefusedSum(t, got, code, impl.ErrInvalid, "SumOfFlags of none ", bad, size)
		}
	}
}

// Terms that are not valid come before those of another kind, and these before
// fractions that are too large, wherever they are in the list.
func TestTermsThatAreRefused(t *testing.T) {
	dot := impl.Graph{N: 1}
	f := flag(t, 1, "graph 3 0-1")
	large := parted(f, "1000000000 1000000000")
	var wrong, strange []impl.Term
	for _, g := range []impl.Flag{{}, flag(t, 1, "graph 1"), flag(t, 1, "graph 2 0-1"), flag(t, 1, "graph 4 0-1"), flag(t, 0, "graph 3 0-1"), flag(t, 2, "graph 3 0-1"), flag(t, 3, "graph 3 0-1"), flag(t, 1, "graph 5")} {
		strange = append(strange, impl.Term{Flag: g, By: fr("1")})
	}
	for _, bad := range badFlags() {
		wrong = append(wrong, impl.Term{Flag: bad, By: fr("1")}, impl.Term{Flag: bad})
	}
	for _, bad := range badFractions() {
		wrong = append(wrong, impl.Term{Flag: f, By: bad}, impl.Term{Flag: flag(t, 2, "graph 4"), By: bad})
	}
	check := func(terms []impl.Term, want int64, sizes ...int64) {
		t.Helper()
		for _, size := range sizes {
			got, code := impl.SumOfFlags(dot, size, terms)
			checkCode(t, got, code, want, "SumOfFlags ", size, terms)
		}
	}
	check(large, impl.ErrLimit, 3)
	check(large, impl.ErrRange, -1, 0, 1, 2, 4, 5, 6)
	check(large[:1], impl.OK, 3)
	check(nil, impl.OK, 1, 2, 3, 4, 5)
	check(nil, impl.ErrRange, -1<<63, -1, 0, 6, 1<<63-1)
	for _, other := range strange {
		check(append(slices.Clone(large), other), impl.ErrRange, -1, 0, 3, 6)
		check(append([]impl.Term{other}, large...), impl.ErrRange, -1, 0, 3, 6)
	}
	for _, bad := range wrong {
		check([]impl.Term{bad}, impl.ErrInvalid, -1, 0, 1, 3, 6)
		check(slices.Concat(large, strange, []impl.Term{bad}), impl.ErrInvalid, -1, 3, 6)
		check(slices.Concat([]impl.Term{bad}, strange, large), impl.ErrInvalid, -1, 3, 6)
	}
	// Valid terms do not help a type that has no flags.
	for _, k := range badKinds() {
		for _, terms := range [][]impl.Term{nil, large, strange} {
			got, code := impl.SumOfFlags(k.typ, k.size, terms)
			checkRefusedSum(t, got, code, impl.ErrRange, "SumOfFlags ", k, terms)
		}
	}
}

// Types differ by their labels, by their edges, and also where they are alike
// as graphs; that comes before the sizes, and these come before the limits.
func TestSumsOfDifferentKinds(t *testing.T) {
	for i, one := range everyKind() {
		for j, other := range everyKind() {
			if one.size == 5 && other.size == 5 && (i+j)%5 > 0 {
				continue
			}
			a := impl.FlagSum{Type: one.typ, Size: one.size, Terms: []impl.Term{{Flag: flagsOf(one)[0], By: fr("1000000000")}}}
			b := impl.FlagSum{Type: other.typ, Size: other.size, Terms: []impl.Term{{Flag: flagsOf(other)[0], By: fr("999999999")}}}
			if one.typ != other.typ {
				checkTwoSums(t, a, b, impl.ErrState, impl.ErrState, impl.ErrState)
				continue
			}
			add, multiply, equal := int64(impl.ErrLimit), int64(impl.ErrLimit), int64(impl.OK)
			if one.size != other.size {
				add = impl.ErrRange
			}
			if one.size+other.size-one.typ.N > 5 {
				multiply = impl.ErrRange
			}
			if one.size != other.size && max(one.size, other.size) == 5 && one.typ.N > 0 {
				equal = impl.ErrLimit
			} else if _, code := wantRaised(a, max(one.size, other.size)); one.size != other.size && code != impl.OK {
				equal = code
			} else if _, code := wantRaised(b, max(one.size, other.size)); one.size != other.size && code != impl.OK {
				equal = code
			}
			checkTwoSums(t, a, b, add, multiply, equal)
		}
	}
}

// The product without terms has a size, too; it is refused just if that is.
func TestSizesOfProductsAndRaisedSums(t *testing.T) {
	for _, one := range everyKind() {
		a := impl.FlagSum{Type: one.typ, Size: one.size}
		for size := one.typ.N; size <= 5; size++ {
			want := int64(impl.OK)
			if whole := one.size + size - one.typ.N; whole > 5 {
				want = impl.ErrRange
			} else if whole == 5 && one.typ.N > 0 {
				want = impl.ErrLimit
			}
			got, code := impl.MultiplySums(a, impl.FlagSum{Type: one.typ, Size: size})
			checkCode(t, got, code, want, "MultiplySums ", one, size)
		}
		for _, size := range []int64{-1 << 63, -1, 0, 1, 2, 3, 4, 5, 6, 7, 1<<63 - 1} {
			want := int64(impl.OK)
			if size < one.size || size > 5 {
				want = impl.ErrRange
			} else if size == 5 && one.typ.N > 0 {
				want = impl.ErrLimit
			}
			got, code := impl.RaiseSum(a, size)
			checkCode(t, got, code, want, "RaiseSum ", one, size)
			large := impl.FlagSum{Type: one.typ, Size: one.size, Terms: []impl.Term{{Flag: flagsOf(one)[0], By: fr("1/1000000000")}}}
			got, code = impl.RaiseSum(large, size)
			if want == impl.OK {
				_, want = wantRaised(large, size)
			}
			checkCode(t, got, code, want, "RaiseSum ", large, size)
		}
	}
}

func TestFlagsThatSumsDoNotFit(t *testing.T) {
	for _, one := range everyKind() {
		a := impl.FlagSum{Type: one.typ, Size: one.size, Terms: []impl.Term{{Flag: flagsOf(one)[0], By: fr("1")}}}
		for _, other := range everyKind() {
			g := flagsOf(other)[0]
			coefficient, value := int64(impl.OK), int64(impl.OK)
			if other != one {
				coefficient = impl.ErrRange
			}
			if other.typ != one.typ {
				value = impl.ErrState
			} else if other.size < one.size {
				value = impl.ErrRange
			}
			got, code := impl.CoefficientOf(a, g)
			isRefused(t, fmt.Sprint("CoefficientOf ", a, g), coefficient == impl.OK || isZero(got), code, coefficient)
			got, code = impl.ValueIn(a, g)
			isRefused(t, fmt.Sprint("ValueIn ", a, g), value == impl.OK || isZero(got), code, value)
		}
	}
}

// checkForm calls FormSum.
func checkForm(t *testing.T, flags []impl.Flag, m [][]impl.Fraction, want int64) {
	t.Helper()
	got, code := impl.FormSum(flags, m)
	checkCode(t, got, code, want, "FormSum ", len(flags), flags[:min(len(flags), 10)], m)
}

func TestFormsThatAreRefused(t *testing.T) {
	edge, great, other := flag(t, 1, "graph 2 0-1"), flag(t, 1, "graph 5 0-1"), flag(t, 2, "graph 2 0-1")
	for _, bad := range badFlags() {
		for _, flags := range [][]impl.Flag{{bad}, {edge, bad}, {bad, other}, {edge, great, bad}, append(copiesOf(edge, 9), bad)} {
			checkForm(t, flags, mat("1"), impl.ErrInvalid)
			checkForm(t, flags, mat("1 0;0 1"), impl.ErrInvalid)
			checkForm(t, flags, nil, impl.ErrInvalid)
		}
	}
	for _, bad := range badMatrices() {
		for _, flags := range [][]impl.Flag{nil, {edge}, {edge, other}, {edge, great}, copiesOf(edge, len(bad)), copiesOf(great, len(bad))} {
			checkForm(t, flags, bad, impl.ErrInvalid)
		}
	}
	// As many rows as flags, one more, one less, and none.
	for n := range 10 {
		for rows := range 9 {
			want := int64(impl.OK)
			if n != rows || n == 0 {
				want = impl.ErrRange
			}
			m := symmetric(rows, slices.Repeat(frs("1"), rows*(rows+1)/2))
			checkForm(t, copiesOf(edge, n), m, want)
			// The number of rows comes before the types and the sizes.
			if want == impl.OK && n > 1 {
				want = impl.ErrState
			}
			if n > 1 {
				checkForm(t, append(copiesOf(edge, n-1), other), m, want)
				checkForm(t, append(copiesOf(edge, n-1), great), m, want)
			}
		}
	}
	checkForm(t, nil, nil, impl.ErrRange)
	checkForm(t, []impl.Flag{}, [][]impl.Fraction{}, impl.ErrRange)
	// Types and sizes come before the size of the product, this before the limits.
	for _, flags := range [][]impl.Flag{{edge, other}, {other, edge}, {edge, great}, {great, edge}, {other, flag(t, 2, "graph 2")}, {great, flag(t, 1, "graph 4")}, {flag(t, 3, "graph 3 0-1"), flag(t, 3, "graph 3 0-2")}, {flag(t, 0, "graph 5"), flag(t, 1, "graph 5")}} {
		checkForm(t, flags, mat("1000000000 1000000000;1000000000 1000000000"), impl.ErrState)
	}
	for _, k := range everyKind() {
		want := int64(impl.ErrRange)
		if whole := 2*k.size - k.typ.N; whole < 5 {
			want = impl.ErrLimit
			if k.size == k.typ.N {
				want = impl.OK
			}
		} else if whole == 5 {
			want = impl.ErrLimit
		}
		m := "1000000000 1000000000;1000000000 1000000000"
		if want == impl.OK {
			m = "1000000000 -1000000000;-1000000000 1000000000"
		}
		checkForm(t, copiesOf(flagsOf(k)[0], 2), mat(m), want)
	}
}
