package tests

import (
	"fmt"
	"slices"
	"strings"
	"sync"
	"testing"

	"loop.example/g01169/impl"
)

// Promise 1, for chapter 2: every function returns for all arguments, modifies
// no argument, and returns equal results for equal arguments.

// calls2 calls every function of chapter 2, and returns all results.
func calls2(a, b impl.Fraction, p, q int64, x, y []impl.Fraction, m, n [][]impl.Fraction, text string) []any {
	var out []any
	add := func(results ...any) { out = append(out, results...) }
	for _, operation := range []func(a, b impl.Fraction) (impl.Fraction, int64){impl.AddFractions, impl.SubFractions, impl.MulFractions, impl.DivFractions} {
		made, code := operation(a, b)
		add(made, code)
	}
	made, code := impl.FractionOf(p, q)
	add(made, code, impl.ValidFraction(a), impl.FractionText(a))
	order, code := impl.CompareFractions(a, b)
	add(order, code)
	made, code = impl.ReadFraction(text)
	add(made, code)
	made, code = impl.SumOfFractions(x)
	add(made, code)
	made, code = impl.DotOf(x, y)
	add(made, code)
	made, code = impl.FormOf(m, x)
	add(made, code, impl.ValidMatrix(m), impl.SameMatrix(m, n), impl.MatrixText(m))
	for _, f := range []func() ([][]impl.Fraction, int64){
		func() ([][]impl.Fraction, int64) { return impl.UnitMatrix(p) },
		func() ([][]impl.Fraction, int64) { return impl.AddMatrices(m, n) },
		func() ([][]impl.Fraction, int64) { return impl.ScaleMatrix(m, a) },
		func() ([][]impl.Fraction, int64) { return impl.SquareMatrix(x) },
		func() ([][]impl.Fraction, int64) { return impl.FromSquares(x, m) },
		func() ([][]impl.Fraction, int64) { return impl.ReadMatrix(text) },
	} {
		matrix, code := f()
		add(matrix, code)
	}
	pivots, rows, code := impl.SquaresOf(m)
	add(pivots, rows, code)
	positive, code := impl.IsPositive(m)
	add(positive, code)
	rank, code := impl.RankOf(m)
	add(rank, code)
	vector, code := impl.NegativeVector(m)
	add(vector, code)
	return out
}

// rowsWithRoom returns a copy of some rows, and the memory behind them: each row
// has some more fractions in its unused capacity, and so have the rows.
func rowsWithRoom(m [][]impl.Fraction) (part, whole [][]impl.Fraction) {
	more := impl.Fraction{P: 77, Q: 78}
	var inner []impl.Fraction
	for _, row := range m {
		short, long := withRoom(row, more)
		part, inner = append(part, short), append(inner, long[len(row):]...)
	}
	rows, all := withRoom(part, []impl.Fraction{more})
	return rows, append(all, inner)
}

// memory returns what rows and their unused capacities hold.
func memory(m [][]impl.Fraction) string {
	var text strings.Builder
	for _, row := range m[:cap(m)] {
		fmt.Fprint(&text, len(row), row[:cap(row)])
	}
	return text.String()
}

func TestFractionCallsModifyNothingAndRepeat(t *testing.T) {
	fractions := append(badFractions(), frs("0 1 -1/2 1000000000 1/1000000000")...)
	lists := [][]impl.Fraction{nil, frs("1"), frs("1 -1/2"), frs("1 2 3"), frs("1000000000 1 1"), badFractions(), slices.Repeat(frs("1"), 257)}
	matrices := append(badMatrices(), nil, mat("1"), mat("-1"), mat("1 1/2;1/2 1/4"), mat("1 2;2 1"), mat("0 1;1 0"), mat("1 2 3;2 4 6;3 6 9"), mat("1 0 0;0 0 1;0 1 0"), mat("1 31623;31623 1000000000"))
	texts := []string{"", "1/2", "2/4", "1 1/2\n1/2 1/4\n", "1 2\n3 4\n"}
	for i, m := range matrices {
		for j, n := range matrices {
			a, b := fractions[i%len(fractions)], fractions[(i+j)%len(fractions)]
			x, wholeX := withRoom(lists[j%len(lists)], impl.Fraction{P: 77, Q: 78})
			y, wholeY := withRoom(lists[(i+j)%len(lists)], impl.Fraction{P: 77, Q: 78})
			one, _ := rowsWithRoom(m)
			two, _ := rowsWithRoom(n)
			p, q, text := int64(i), int64(j-20), texts[(i+j)%len(texts)]
			before := fmt.Sprint(wholeX, wholeY, memory(one), memory(two))
			first := fmt.Sprint(calls2(a, b, p, q, x, y, one, two, text))
			second := fmt.Sprint(calls2(a, b, p, q, x, y, one, two, text))
			if after := fmt.Sprint(wholeX, wholeY, memory(one), memory(two)); before != after {
				t.Fatalf("arguments %s became %s", before, after)
			}
			if first != second {
				t.Fatalf("two results for %v and %v: %s and %s", m, n, first, second)
			}
		}
	}
}

func TestFractionCallsTakeNilAndEmptyAlike(t *testing.T) {
	empty, one := []impl.Fraction{}, impl.Fraction{P: 1, Q: 1}
	first := fmt.Sprint(calls2(one, one, 1, 1, nil, nil, nil, nil, ""))
	second := fmt.Sprint(calls2(one, one, 1, 1, empty, empty, [][]impl.Fraction{}, [][]impl.Fraction{}, ""))
	if first != second {
		t.Errorf("%s with nil, and %s with empty slices", first, second)
	}
}

// Results are overwritten, to the end of their capacity: neither arguments nor
// other rows, nor later results, change by it.
func TestFractionResultsAreNewMemory(t *testing.T) {
	m, n, x := mat("4 2 1;2 3 0;1 0 5"), mat("1 2 0;2 1 0;0 0 1"), frs("1 2 3")
	text := impl.MatrixText(m)
	results := func() [][][]impl.Fraction {
		unit, _ := impl.UnitMatrix(3)
		sum, _ := impl.AddMatrices(m, n)
		zero, _ := impl.AddMatrices(m, mat("0 0 0;0 0 0;0 0 0"))
		same, _ := impl.ScaleMatrix(m, fr("1"))
		square, _ := impl.SquareMatrix(x)
		read, _ := impl.ReadMatrix(text)
		pivots, rows, _ := impl.SquaresOf(m)
		again, _ := impl.FromSquares(pivots, rows)
		vector, _ := impl.NegativeVector(n)
		return [][][]impl.Fraction{unit, sum, zero, same, square, read, rows, {pivots}, again, {vector}}
	}
	want := fmt.Sprint(results(), m, n, x)
	for i, result := range results() {
		for j, row := range result {
			others := slices.Concat(result[:j], result[j+1:])
			before := fmt.Sprint(others)
			overwrite(row, impl.Fraction{P: 99, Q: 99})
			row = append(row, impl.Fraction{P: 98, Q: 98})
			if after := fmt.Sprint(others); before != after {
				t.Fatalf("result %d: row %d is shared: %s became %s", i, j, before, after)
			}
		}
		overwrite(result, nil)
		if got := fmt.Sprint(results(), m, n, x); got != want {
			t.Fatalf("result %d: results %s became %s", i, want, got)
		}
	}
}

// The pivots and the rows of one call are results of their own.
func TestPivotsAndRowsShareNothing(t *testing.T) {
	m := mat("4 2;2 3")
	pivots, rows, _ := impl.SquaresOf(m)
	before := fmt.Sprint(rows, m)
	overwrite(pivots, impl.Fraction{P: 99, Q: 99})
	if after := fmt.Sprint(rows, m); before != after {
		t.Errorf("%s became %s", before, after)
	}
	pivots, rows, _ = impl.SquaresOf(m)
	before = fmt.Sprint(pivots, m)
	for _, row := range rows {
		overwrite(row, impl.Fraction{P: 99, Q: 99})
	}
	if after := fmt.Sprint(pivots, m); before != after {
		t.Errorf("%s became %s", before, after)
	}
}

func TestFractionCallsOfSeveralGoroutines(t *testing.T) {
	call := func() string {
		good := calls2(fr("1/2"), fr("-2/3"), 6, 4, frs("1 2"), frs("3 4"), mat("2 1;1 2"), mat("1 0;0 1"), "1/2")
		large := calls2(fr("1000000000"), fr("2"), part+1, 1, frs("1000000000 2"), frs("2 1"), mat("1 31623;31623 1000000000"), mat("1 0;0 1000000000"), "1\n")
		return fmt.Sprint(good, large)
	}
	want := call()
	var group sync.WaitGroup
	for range 8 {
		group.Go(func() {
			for range 20 {
				if got := call(); got != want {
					t.Errorf("got %s, want %s", got, want)
				}
			}
		})
	}
	group.Wait()
}

// The greatest arguments for which every function has to return.
func TestFractionCallsOfGreatArguments(t *testing.T) {
	const many = 1000000
	one := fr("1")
	list, rows := slices.Repeat([]impl.Fraction{one}, many), make([][]impl.Fraction, many)
	wide := [][]impl.Fraction{list}
	if _, code := impl.SumOfFractions(list); code != impl.ErrInvalid {
		t.Errorf("SumOfFractions of many: code %d", code)
	}
	if _, code := impl.DotOf(list, list[1:]); code != impl.ErrInvalid {
		t.Errorf("DotOf many: code %d", code)
	}
	if _, code := impl.SquareMatrix(list); code != impl.ErrInvalid {
		t.Errorf("SquareMatrix of many: code %d", code)
	}
	for _, m := range [][][]impl.Fraction{rows, wide} {
		got := fmt.Sprint(calls2(one, one, 1, 1, list, list, m, m, ""))
		if want := fmt.Sprint(calls2(one, one, 1, 1, list, list, mat("1 2;3 4"), mat("1 2;3 4"), "")); got != want {
			t.Errorf("calls with many: %s, want %s", got, want)
		}
	}
	if _, code := impl.FromSquares(nil, rows); code != impl.ErrRange {
		t.Errorf("FromSquares of many rows: code %d", code)
	}
	if _, code := impl.FromSquares(frs("1"), wide); code != impl.ErrInvalid {
		t.Errorf("FromSquares of a long row: code %d", code)
	}
	other := slices.Clone(list)
	other[many-1] = fr("2")
	if impl.SameMatrix(wide, [][]impl.Fraction{other}) || !impl.SameMatrix(wide, [][]impl.Fraction{slices.Clone(list)}) || !impl.SameMatrix(rows, make([][]impl.Fraction, many)) {
		t.Error("SameMatrix of many is wrong")
	}
	for _, text := range []string{
		strings.Repeat("1", many), strings.Repeat("0", many), "-" + strings.Repeat("0", many) + "1", "1/" + strings.Repeat("3", many), strings.Repeat("/", many), strings.Repeat(" ", many),
		strings.Repeat("1\n", many/2), strings.Repeat("1 ", many/2) + "\n", strings.Repeat("\n", many), strings.Repeat("1/2 ", many/4),
	} {
		if a, code := impl.ReadFraction(text); code != impl.ErrSyntax || !isZero(a) {
			t.Errorf("ReadFraction of %d bytes: %v, code %d", len(text), a, code)
		}
		if m, code := impl.ReadMatrix(text); code != impl.ErrSyntax || len(m) > 0 {
			t.Errorf("ReadMatrix of %d bytes: code %d", len(text), code)
		}
	}
}
