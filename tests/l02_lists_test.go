package tests

import (
	"fmt"
	"math/big"
	"math/rand/v2"
	"slices"
	"testing"

	"loop.example/g01169/impl"
)

// Promise 4, for lists and matrices of fractions: what is made is made in the
// order of the document, and the first fraction that is too large is the end.

func TestSumsOfLists(t *testing.T) {
	for _, c := range []struct {
		list, want string
		code       int64
	}{
		{"", "0", impl.OK},
		{"5/7", "5/7", impl.OK},
		{"1/2 1/3 1/6", "1", impl.OK},
		{"1/2 -1/2", "0", impl.OK},
		{"999999999 1", "1000000000", impl.OK},
		{"1000000000 -1 1", "1000000000", impl.OK},
		{"1 -1 1000000000", "1000000000", impl.OK},
		{"1000000000 1 -1", "", impl.ErrLimit},
		{"-1000000000 -1 1", "", impl.ErrLimit},
		{"1000000000 1/2 -1/2", "", impl.ErrLimit},
		{"1/999999937 1/2 -1/2", "", impl.ErrLimit},
		{"1/2 -1/2 1/999999937", "1/999999937", impl.OK},
		{"1000000000 1", "", impl.ErrLimit},
	} {
		got, code := impl.SumOfFractions(frs(c.list))
		var want impl.Fraction
		if c.code == impl.OK {
			want = fr(c.want)
		}
		checkFraction(t, "SumOfFractions "+c.list, got, code, want, c.code)
	}
}

func TestDotsOfLists(t *testing.T) {
	for _, c := range []struct {
		x, y, want string
		code       int64
	}{
		{"", "", "0", impl.OK},
		{"1/2", "2/3", "1/3", impl.OK},
		{"1 2 3", "4 -5 6", "12", impl.OK},
		{"100000 1", "10000 0", "1000000000", impl.OK},
		{"100000 1", "10001 -100000", "", impl.ErrLimit},
		{"1000000000 1 1", "1 -1 1", "1000000000", impl.OK},
		{"1000000000 1 1", "1 1 -1", "", impl.ErrLimit},
		{"1 1 1000000000", "1 -1 1", "1000000000", impl.OK},
		{"1/100000 1", "1/100000 1", "", impl.ErrLimit},
		{"1 0", "1 1000000000", "1", impl.OK},
		// The product is too large, and the sum is not.
		{"1000000000 2", "-1 1000000000", "", impl.ErrLimit},
	} {
		got, code := impl.DotOf(frs(c.x), frs(c.y))
		turned, codeOfTurned := impl.DotOf(frs(c.y), frs(c.x))
		var want impl.Fraction
		if c.code == impl.OK {
			want = fr(c.want)
		}
		checkFraction(t, "DotOf "+c.x+" and "+c.y, got, code, want, c.code)
		checkFraction(t, "DotOf "+c.y+" and "+c.x, turned, codeOfTurned, want, c.code)
	}
}

func TestSomeSumsAndDots(t *testing.T) {
	random := rand.New(rand.NewPCG(2, 1))
	codes := map[int64]int{}
	for range 4000 {
		n, size := random.IntN(6), []int64{3, 30, 1000, 40000, part}[random.IntN(5)]
		x, y := someFractions(random, n, size), someFractions(random, n, size)
		var sum, dot reckoner
		total := new(big.Rat)
		for _, a := range x {
			total = sum.add(total, rat(a))
		}
		got, code := impl.SumOfFractions(x)
		checkResult(t, fmt.Sprint("SumOfFractions", x), got, code, total, &sum)
		product := dot.dot(rats(x), rats(y))
		got, code = impl.DotOf(x, y)
		checkResult(t, fmt.Sprint("DotOf", x, y), got, code, product, &dot)
		codes[code]++
	}
	if codes[impl.OK] < 500 || codes[impl.ErrLimit] < 500 {
		t.Errorf("too few of one code: %v", codes)
	}
}

// checkResult compares a result with what has been reckoned.
func checkResult(t *testing.T, what string, got impl.Fraction, code int64, want *big.Rat, r *reckoner) {
	t.Helper()
	if r.tooLarge {
		checkFraction(t, what, got, code, impl.Fraction{}, impl.ErrLimit)
		return
	}
	checkFraction(t, what, got, code, ofRat(want), impl.OK)
}

func TestLengthsOfLists(t *testing.T) {
	one := fr("1")
	full, over := slices.Repeat([]impl.Fraction{one}, 256), slices.Repeat([]impl.Fraction{one}, 257)
	got, code := impl.SumOfFractions(full)
	checkFraction(t, "SumOfFractions of 256", got, code, fr("256"), impl.OK)
	got, code = impl.DotOf(full, full)
	checkFraction(t, "DotOf 256", got, code, fr("256"), impl.OK)
	got, code = impl.SumOfFractions(over)
	checkFraction(t, "SumOfFractions of 257", got, code, impl.Fraction{}, impl.ErrInvalid)
	for _, pair := range [][2][]impl.Fraction{{over, over}, {over, full}, {full, over}, {over, nil}, {nil, over}} {
		got, code = impl.DotOf(pair[0], pair[1])
		checkFraction(t, fmt.Sprint("DotOf ", len(pair[0]), len(pair[1])), got, code, impl.Fraction{}, impl.ErrInvalid)
	}
	for _, pair := range [][2][]impl.Fraction{{full, full[1:]}, {full[1:], full}, {nil, {one}}, {{one}, nil}, {{one, one}, {one}}} {
		got, code = impl.DotOf(pair[0], pair[1])
		checkFraction(t, fmt.Sprint("DotOf ", len(pair[0]), len(pair[1])), got, code, impl.Fraction{}, impl.ErrRange)
	}
	// The lengths differ, and the products would be too large.
	got, code = impl.DotOf(frs("1000000000 1"), frs("1000000000"))
	checkFraction(t, "DotOf great ones", got, code, impl.Fraction{}, impl.ErrRange)
}

func TestListsRefuse(t *testing.T) {
	for _, bad := range badFractions() {
		list := []impl.Fraction{fr("1000000000"), fr("1000000000"), bad}
		got, code := impl.SumOfFractions(list)
		checkFraction(t, fmt.Sprint("SumOfFractions", list), got, code, impl.Fraction{}, impl.ErrInvalid)
		for _, other := range [][]impl.Fraction{nil, list, frs("1"), frs("1000000000 1000000000 1")} {
			got, code = impl.DotOf(list, other)
			checkFraction(t, fmt.Sprint("DotOf", list, other), got, code, impl.Fraction{}, impl.ErrInvalid)
			got, code = impl.DotOf(other, list)
			checkFraction(t, fmt.Sprint("DotOf", other, list), got, code, impl.Fraction{}, impl.ErrInvalid)
		}
		_, code = impl.SquareMatrix(list)
		_, second := impl.SquareMatrix(append(slices.Repeat(frs("1"), 8), bad))
		_, third := impl.FormOf(mat("1"), list)
		_, fourth := impl.FormOf(mat("1"), []impl.Fraction{bad})
		_, fifth := impl.ScaleMatrix(mat("1"), bad)
		_, sixth := impl.ScaleMatrix(nil, bad)
		if code != impl.ErrInvalid || second != code || third != code || fourth != code || fifth != code || sixth != code {
			t.Errorf("with %v: codes %d %d %d %d %d %d, want ErrInvalid", bad, code, second, third, fourth, fifth, sixth)
		}
	}
}

func TestValidMatrices(t *testing.T) {
	for _, text := range []string{"", "0", "-1000000000", "1 1/2;1/2 1/4", "0 -1;-1 0", "1 2 3;2 4 5;3 5 6"} {
		if !impl.ValidMatrix(mat(text)) {
			t.Errorf("%s is not valid", text)
		}
	}
	if !impl.ValidMatrix(symmetric(8, slices.Repeat(frs("1/3"), 36))) || !impl.ValidMatrix([][]impl.Fraction{}) {
		t.Error("a matrix of 8 rows, or of none, is not valid")
	}
	for _, m := range badMatrices() {
		if impl.ValidMatrix(m) {
			t.Errorf("%v is valid", m)
		}
	}
	// One place of each pair is changed.
	for i := range 8 {
		for j := range 8 {
			m := symmetric(8, slices.Repeat(frs("0"), 36))
			m[i][j] = fr("1")
			if got := impl.ValidMatrix(m); got != (i == j) {
				t.Errorf("with 1 at %d, %d: %v", i, j, got)
			}
		}
	}
}

func TestSameMatrices(t *testing.T) {
	odd := [][]impl.Fraction{{{P: 2, Q: 4}, {}}, {}, {{P: least, Q: least}}}
	groups := [][][][]impl.Fraction{
		{nil, {}}, {{nil}, {{}}}, {{nil, {}}, {{}, nil}}, {odd, {slices.Clone(odd[0]), nil, slices.Clone(odd[2])}},
		{mat("1 2;2 1"), mat("1 2;2 1")}, {mat("1 2;3 1")}, {mat("1 2;2 2")}, {mat("1 2")}, {mat("1;2")}, {mat("1 2;2 1;1 1")}, {mat("1 2;2 1 1")},
		{{{{P: 1, Q: 2}}}}, {{{{P: 2, Q: 4}}}}, {mat("1")}, {{{{P: 1}}}}, {mat("1 2 2 1")}, {{frs("1 2"), frs("2 1"), nil}}, {{nil, frs("1 2"), frs("2 1")}},
	}
	for i, one := range groups {
		for j, two := range groups {
			for _, m := range one {
				for _, n := range two {
					if got := impl.SameMatrix(m, n); got != (i == j) {
						t.Errorf("SameMatrix %v %v: %v", m, n, got)
					}
				}
			}
		}
	}
}

func TestUnitMatrices(t *testing.T) {
	for n := range int64(9) {
		got, code := impl.UnitMatrix(n)
		var below []impl.Fraction
		for i := range n {
			below = append(append(below, slices.Repeat(frs("0"), int(i))...), fr("1"))
		}
		checkMatrix(t, fmt.Sprint("UnitMatrix ", n), got, code, symmetric(int(n), below), impl.OK)
		if !impl.ValidMatrix(got) {
			t.Errorf("UnitMatrix %d is not valid", n)
		}
	}
	for _, n := range []int64{-1, 9, 256, 1 << 32, least, most} {
		got, code := impl.UnitMatrix(n)
		checkMatrix(t, fmt.Sprint("UnitMatrix ", n), got, code, nil, impl.ErrRange)
	}
}

func TestSumsAndProductsOfMatrices(t *testing.T) {
	random := rand.New(rand.NewPCG(2, 2))
	codes := map[int64]int{}
	for range 2000 {
		n, size := random.IntN(5), []int64{3, 300, 40000, part}[random.IntN(4)]
		places := n * (n + 1) / 2
		one, two, by := symmetric(n, someFractions(random, places, size)), symmetric(n, someFractions(random, places, size)), someFraction(random, size)
		x := someFractions(random, n, size)
		var add, scale, square reckoner
		sum, scaled, squared := make([][]impl.Fraction, n), make([][]impl.Fraction, n), make([][]impl.Fraction, n)
		for i := range n {
			for j := range n {
				sum[i] = append(sum[i], ofRat(add.add(rat(one[i][j]), rat(two[i][j]))))
				scaled[i] = append(scaled[i], ofRat(scale.mul(rat(one[i][j]), rat(by))))
				squared[i] = append(squared[i], ofRat(square.mul(rat(x[i]), rat(x[j]))))
			}
		}
		got, code := impl.AddMatrices(one, two)
		checkMade(t, fmt.Sprint("AddMatrices", one, two), got, code, sum, &add)
		got, code = impl.ScaleMatrix(one, by)
		checkMade(t, fmt.Sprint("ScaleMatrix", one, by), got, code, scaled, &scale)
		got, code = impl.SquareMatrix(x)
		checkMade(t, fmt.Sprint("SquareMatrix", x), got, code, squared, &square)
		codes[code]++
	}
	if codes[impl.OK] < 200 || codes[impl.ErrLimit] < 200 {
		t.Errorf("too few of one code: %v", codes)
	}
}

func checkMade(t *testing.T, what string, got [][]impl.Fraction, code int64, want [][]impl.Fraction, r *reckoner) {
	t.Helper()
	if r.tooLarge {
		want = nil
	}
	checkMatrix(t, what, got, code, want, r.code(impl.OK))
}

func TestMatricesToTheLimit(t *testing.T) {
	half, great := mat("500000000 1;1 0"), mat("1000000000 0;0 0")
	got, code := impl.AddMatrices(half, half)
	checkMatrix(t, "twice a half", got, code, mat("1000000000 2;2 0"), impl.OK)
	got, code = impl.AddMatrices(great, mat("1 0;0 0"))
	checkMatrix(t, "one more", got, code, nil, impl.ErrLimit)
	got, code = impl.ScaleMatrix(half, fr("2"))
	checkMatrix(t, "a half by 2", got, code, mat("1000000000 2;2 0"), impl.OK)
	got, code = impl.ScaleMatrix(half, fr("3"))
	checkMatrix(t, "a half by 3", got, code, nil, impl.ErrLimit)
	got, code = impl.ScaleMatrix(great, fr("0"))
	checkMatrix(t, "by 0", got, code, mat("0 0;0 0"), impl.OK)
	got, code = impl.SquareMatrix(frs("31622 -1/31622"))
	checkMatrix(t, "a square", got, code, mat("999950884 -1;-1 1/999950884"), impl.OK)
	got, code = impl.SquareMatrix(frs("0 31623"))
	checkMatrix(t, "a greater square", got, code, nil, impl.ErrLimit)
	for n := range 9 {
		got, code = impl.SquareMatrix(slices.Repeat(frs("1"), n))
		checkMatrix(t, "ones", got, code, symmetric(n, slices.Repeat(frs("1"), n*(n+1)/2)), impl.OK)
	}
	for _, n := range []int{9, 255, 256} {
		got, code = impl.SquareMatrix(slices.Repeat(frs("1000000000"), n))
		checkMatrix(t, fmt.Sprint(n, " ones"), got, code, nil, impl.ErrRange)
	}
	got, code = impl.SquareMatrix(slices.Repeat(frs("1"), 257))
	checkMatrix(t, "257 ones", got, code, nil, impl.ErrInvalid)
	for _, pair := range [][2]string{{"", "1"}, {"1", ""}, {"1 0;0 1", "1"}, {"1000000000", "1000000000 0;0 1"}} {
		got, code = impl.AddMatrices(mat(pair[0]), mat(pair[1]))
		checkMatrix(t, fmt.Sprint("sum of ", pair), got, code, nil, impl.ErrRange)
	}
	got, code = impl.AddMatrices(nil, [][]impl.Fraction{})
	checkMatrix(t, "sum of none", got, code, nil, impl.OK)
}

func TestForms(t *testing.T) {
	for _, c := range []struct {
		m, x, want string
		code       int64
	}{
		{"", "", "0", impl.OK},
		{"2 1;1 2", "1 -1", "2", impl.OK},
		{"2 1;1 3", "1/2 2/3", "5/2", impl.OK},
		{"1", "", "", impl.ErrRange},
		{"", "1", "", impl.ErrRange},
		{"1 0;0 1", "1 2 3", "", impl.ErrRange},
		{"1 0;0 1", "1", "", impl.ErrRange},
		{"0 1000000000;1000000000 0", "1/1000 1", "2000000", impl.OK},
		// DotOf a row is too large, and all products of three are not.
		{"0 1000000000;1000000000 0", "1/1000 2", "", impl.ErrLimit},
		{"0 1000000000;1000000000 0", "0 2", "", impl.ErrLimit},
		{"1000000000", "1/1000", "1000", impl.OK},
		// DotOf the row is too large, and the sum of the products of three never is.
		{"1000000000 600000000;600000000 0", "1/2 1", "", impl.ErrLimit},
		// The sum of the products of three would be too large, and that of DotOf never is.
		{"500000000 500000000;500000000 -500000000", "1 1", "1000000000", impl.OK},
		// The order of the rows: the sum of the first two is too large.
		{"1000000000 0 0;0 1 0;0 0 -1", "1 1 1", "", impl.ErrLimit},
		{"1 0 0;0 -1 0;0 0 1000000000", "1 1 1", "1000000000", impl.OK},
		{"1000000000 0;0 -1", "1 1", "999999999", impl.OK},
		{"1000000000 0;0 1", "1 1", "", impl.ErrLimit},
	} {
		got, code := impl.FormOf(mat(c.m), frs(c.x))
		var want impl.Fraction
		if c.code == impl.OK {
			want = fr(c.want)
		}
		checkFraction(t, "FormOf "+c.m+" and "+c.x, got, code, want, c.code)
	}
	got, code := impl.FormOf(mat("1"), slices.Repeat(frs("1"), 256))
	checkFraction(t, "FormOf a list of 256", got, code, impl.Fraction{}, impl.ErrRange)
	got, code = impl.FormOf(mat("1"), slices.Repeat(frs("1"), 257))
	checkFraction(t, "FormOf a list of 257", got, code, impl.Fraction{}, impl.ErrInvalid)
	random := rand.New(rand.NewPCG(2, 3))
	codes := map[int64]int{}
	for range 3000 {
		n, size := random.IntN(5), []int64{3, 10, 300, 40000}[random.IntN(4)]
		m, x := symmetric(n, someFractions(random, n*(n+1)/2, size)), someFractions(random, n, size)
		var r reckoner
		want := r.form(ratRows(m), rats(x))
		got, code := impl.FormOf(m, x)
		checkResult(t, fmt.Sprint("FormOf", m, x), got, code, want, &r)
		codes[code]++
	}
	if codes[impl.OK] < 500 || codes[impl.ErrLimit] < 500 {
		t.Errorf("too few of one code: %v", codes)
	}
}

func TestMatricesRefuse(t *testing.T) {
	for _, bad := range badMatrices() {
		for _, good := range [][][]impl.Fraction{nil, mat("1"), mat("1000000000 0;0 1"), bad} {
			got, code := impl.AddMatrices(bad, good)
			checkMatrix(t, fmt.Sprint("AddMatrices", bad, good), got, code, nil, impl.ErrInvalid)
			got, code = impl.AddMatrices(good, bad)
			checkMatrix(t, fmt.Sprint("AddMatrices", good, bad), got, code, nil, impl.ErrInvalid)
		}
		got, code := impl.ScaleMatrix(bad, fr("1000000000"))
		checkMatrix(t, fmt.Sprint("ScaleMatrix", bad), got, code, nil, impl.ErrInvalid)
		form, code := impl.FormOf(bad, frs("1 1 1 1 1"))
		checkFraction(t, fmt.Sprint("FormOf", bad), form, code, impl.Fraction{}, impl.ErrInvalid)
		form, code = impl.FormOf(bad, slices.Repeat(frs("1"), len(bad)))
		checkFraction(t, fmt.Sprint("FormOf", bad), form, code, impl.Fraction{}, impl.ErrInvalid)
		if text := impl.MatrixText(bad); text != "" {
			t.Errorf("MatrixText %v: %q", bad, text)
		}
	}
}

func TestTextsOfMatrices(t *testing.T) {
	for text, m := range map[string][][]impl.Fraction{
		"": nil, "0\n": mat("0"), "-1/2\n": mat("-1/2"), "1 1/2\n1/2 1/4\n": mat("1 1/2;1/2 1/4"),
		"1000000000 -7 0\n-7 3/1000000000 1\n0 1 2\n": mat("1000000000 -7 0;-7 3/1000000000 1;0 1 2"),
		"0 0 0 0 0 0 0 0\n0 0 0 0 0 0 0 0\n0 0 0 0 0 0 0 0\n0 0 0 0 0 0 0 0\n0 0 0 0 0 0 0 0\n0 0 0 0 0 0 0 0\n0 0 0 0 0 0 0 0\n0 0 0 0 0 0 0 0\n": symmetric(8, slices.Repeat(frs("0"), 36)),
	} {
		if got := impl.MatrixText(m); got != text {
			t.Errorf("MatrixText %v: %q, want %q", m, got, text)
		}
		got, code := impl.ReadMatrix(text)
		checkMatrix(t, "ReadMatrix "+text, got, code, m, impl.OK)
	}
	random := rand.New(rand.NewPCG(2, 4))
	for range 500 {
		n := random.IntN(9)
		m := symmetric(n, someFractions(random, n*(n+1)/2, part))
		got, code := impl.ReadMatrix(impl.MatrixText(m))
		checkMatrix(t, "the text of a matrix", got, code, m, impl.OK)
	}
}

func TestTextsThatAreNearlyMatrices(t *testing.T) {
	for _, text := range []string{
		"\n", "1", " ", "1\n\n", "\n1\n", "1 \n", " 1\n", "1\r\n", "1\n ", "1 0\n0 1", "1 0\n0 1\n\n", "1 0\n\n0 1\n", "1  0\n0 1\n", "1\t0\n0 1\n", "1 0;0 1\n", "1 0\n0  1\n",
		"1 2\n3 4\n", "1 0\n0\n", "1\n0 1\n", "1 0\n", "1\n1\n", "1 0 0\n0 1 0\n", "1 2/4\n2/4 1\n", "1 1/1\n1/1 1\n", "01\n", "-0\n", "+1\n", "1/0\n", "1000000001\n", "1\x00\n", "a\n", "1 0\n0 a\n",
		"1 0\n0 1\n0 0\n", "0 0 0 0 0 0 0 0 0\n0 0 0 0 0 0 0 0 0\n0 0 0 0 0 0 0 0 0\n0 0 0 0 0 0 0 0 0\n0 0 0 0 0 0 0 0 0\n0 0 0 0 0 0 0 0 0\n0 0 0 0 0 0 0 0 0\n0 0 0 0 0 0 0 0 0\n0 0 0 0 0 0 0 0 0\n",
	} {
		got, code := impl.ReadMatrix(text)
		checkMatrix(t, fmt.Sprintf("ReadMatrix %q", text), got, code, nil, impl.ErrSyntax)
	}
}
