package tests

import (
	"fmt"
	"slices"
	"testing"

	"loop.example/g01169/impl"
)

// Promises 9 and 10 at the limits: MaxTerms terms and one more, types with more
// than MaxFlags flags, fractions at the limit and behind it.

// parted returns terms with some fractions, all of one flag.
func parted(f impl.Flag, text string) []impl.Term {
	var terms []impl.Term
	for _, by := range frs(text) {
		terms = append(terms, impl.Term{Flag: f, By: by})
	}
	return terms
}

// checkCode fails unless a sum is there just if the code is OK.
func checkCode(t *testing.T, a impl.FlagSum, code, want int64, what ...any) {
	t.Helper()
	if code != want || want == impl.OK && !impl.ValidSum(a) || want != impl.OK && !noSum(a) {
		t.Errorf("%s: %v, code %d, want %d", fmt.Sprintln(what...), a, code, want)
	}
}

// Fractions that are alike are added from the first one on: it matters where
// the sum is too large on the way.
func TestFractionsOfSumsAtTheLimit(t *testing.T) {
	f := flag(t, 1, "graph 3 1-2")
	for text, want := range map[string]string{
		"1000000000": "1000000000", "999999999 1": "1000000000", "1000000000 1": "", "1000000000 -1 1": "1000000000", "1000000000 1 -1": "", "1 1000000000 -1": "", "-1 1000000000 1": "1000000000", "-1000000000 -1": "",
		"1000000000 -1000000000": "0", "1000000000 -1000000000 1000000000 -1": "999999999", "1/1000000000": "1/1000000000", "1/1000000000 1": "", "1/1000000000 -1/1000000000 1": "1", "1/999999999 1/1000000000": "", "1/31607 1/31627": "63234/999634589", "0 0 0": "0", "1000000000 0 -1": "999999999", "0 1000000000 1": "",
		"1/2 1/2": "1", "1/1000000000 999999999/1000000000": "1", "1 -1 2 -2 3": "3",
	} {
		got, code := impl.SumOfFlags(impl.Graph{N: 1}, 3, parted(f, text))
		if want == "" {
			checkRefusedSum(t, got, code, impl.ErrLimit, "SumOfFlags ", text)
		} else {
			// The flag is the fourth one of its kind.
			checkSum(t, "SumOfFlags "+text, got, code, inOrder(impl.Graph{N: 1}, 3, "0 0 0 "+want), impl.OK)
		}
	}
}

func TestSumsOfTwoAtTheLimit(t *testing.T) {
	dot := impl.Graph{N: 1}
	for _, c := range []struct {
		a, b, want string
	}{
		{"1000000000 0", "0 1000000000", "1000000000 1000000000"}, {"999999999 1", "1 -1", "1000000000"}, {"1000000000 1", "1 -1", ""}, {"1 1000000000", "-1 1", ""}, {"1/1000000000", "1", ""}, {"1/2 -1/3", "-1/2 1/3", "0"},
		{"-1000000000", "2000/3", ""}, {"1/65536", "1/32768", "3/65536"}, {"1/65536", "1/65537", ""},
	} {
		got, code := impl.AddSums(inOrder(dot, 2, c.a), inOrder(dot, 2, c.b))
		if c.want == "" {
			checkRefusedSum(t, got, code, impl.ErrLimit, "AddSums ", c.a, c.b)
		} else {
			checkSum(t, "AddSums "+c.a+" and "+c.b, got, code, inOrder(dot, 2, c.want), impl.OK)
		}
	}
	for _, c := range []struct{ a, by, want string }{
		{"1 2", "500000000", "500000000 1000000000"}, {"1 2", "500000001", ""}, {"1/2 1/3", "1/333333333", "1/666666666 1/999999999"}, {"1/2 1/3", "1/333333334", ""}, {"1000000000", "0", "0"}, {"1/1000000000 1000000000", "0", "0"},
		{"1000000000", "1/1000000000", "1"}, {"31623", "31623", ""}, {"31622", "31622", "999950884"}, {"0 1", "-1000000000", "0 -1000000000"}, {"1000000000 1", "2", ""}, {"1 1000000000", "2", ""},
	} {
		got, code := impl.ScaleSum(inOrder(dot, 2, c.a), fr(c.by))
		if c.want == "" {
			checkRefusedSum(t, got, code, impl.ErrLimit, "ScaleSum ", c.a, c.by)
		} else {
			checkSum(t, "ScaleSum "+c.a+" by "+c.by, got, code, inOrder(dot, 2, c.want), impl.OK)
		}
	}
}

func TestRaisedSumsAtTheLimit(t *testing.T) {
	dot, none := impl.Graph{N: 1}, impl.Graph{}
	for _, c := range []struct {
		a        impl.FlagSum
		size     int64
		wantCode int64
	}{
		{inOrder(dot, 2, "0 1/500000000"), 3, impl.OK}, {inOrder(dot, 2, "0 1/500000001"), 3, impl.ErrLimit}, {inOrder(dot, 2, "0 1/500000001"), 2, impl.OK}, {inOrder(dot, 2, "0 2/999999999"), 3, impl.OK}, {inOrder(dot, 2, "1000000000 1000000000"), 3, impl.OK},
		// The first term of three is added to the second one where both densities are 1/2 or 1/3.
		{inOrder(none, 2, "1/65536 1/65537"), 2, impl.OK}, {inOrder(none, 2, "1/65536 1/65537"), 3, impl.ErrLimit}, {inOrder(none, 0, "1/1000000000"), 5, impl.OK}, {inOrder(none, 1, "-1000000000"), 5, impl.OK},
		{inOrder(none, 3, "0 0 0 1/250000000"), 4, impl.OK}, {inOrder(none, 3, "0 0 0 1/250000000"), 5, impl.ErrLimit}, {inOrder(none, 3, "0 0 0 1/250000001"), 4, impl.ErrLimit},
	} {
		got, code := impl.RaiseSum(c.a, c.size)
		checkCode(t, got, code, c.wantCode, "RaiseSum ", c.a, c.size)
		equal, code := impl.AreEqualSums(c.a, impl.FlagSum{Type: c.a.Type, Size: c.size})
		isRefused(t, fmt.Sprint("AreEqualSums ", c.a, c.size), !equal, code, c.wantCode)
	}
	for _, c := range []struct {
		a        impl.FlagSum
		g        impl.Flag
		wantCode int64
	}{
		{inOrder(dot, 2, "0 1/500000000"), flag(t, 1, "graph 3 0-1"), impl.OK}, {inOrder(dot, 2, "0 1/500000001"), flag(t, 1, "graph 3 0-1"), impl.ErrLimit}, {inOrder(dot, 2, "0 1/500000001"), flag(t, 1, "graph 3 0-1 0-2"), impl.OK}, {inOrder(dot, 2, "0 1/500000001"), flag(t, 1, "graph 3 1-2"), impl.OK},
		{inOrder(dot, 2, "1/65536 1/65537"), flag(t, 1, "graph 3"), impl.OK}, {inOrder(dot, 2, "1/65536 1/65537"), flag(t, 1, "graph 3 0-1 1-2"), impl.ErrLimit},
	} {
		value, code := impl.ValueIn(c.a, c.g)
		isRefused(t, fmt.Sprint("ValueIn ", c.a, c.g), c.wantCode == impl.OK || isZero(value), code, c.wantCode)
	}
}

// The product of both fractions is made before that with the density; a form
// is added up place by place.
func TestProductsAtTheLimit(t *testing.T) {
	dot := impl.Graph{N: 1}
	for _, c := range []struct {
		a, b     string
		wantCode int64
	}{
		{"31622 0", "0 31622", impl.OK}, {"40000 0", "0 40000", impl.ErrLimit}, {"40000 0", "40000", impl.ErrLimit}, {"1000000000", "1", impl.OK}, {"1000000000", "2", impl.ErrLimit}, {"1/20000", "0 1/25000", impl.OK}, {"1/20000", "1/50000", impl.OK}, {"1/20000", "1/50001", impl.ErrLimit},
		{"2/20001", "0 1/49997", impl.OK}, {"1000000000 -1", "", impl.OK}, {"1/1000000000", "1000000000", impl.OK}, {"1/1000000000", "0 1000000000", impl.OK}, {"1000000000 1", "1 1", impl.ErrLimit}, {"1000000000 -1", "1 1", impl.OK}, {"1 1000000000", "1 -1", impl.OK},
	} {
		a, b := inOrder(dot, 2, c.a), inOrder(dot, 2, c.b)
		want, wantCode := wantProduct(a, b)
		got, code := impl.MultiplySums(a, b)
		checkSum(t, fmt.Sprint("MultiplySums ", c.a, " and ", c.b), got, code, want, wantCode)
		if code != c.wantCode {
			t.Errorf("MultiplySums %s and %s: code %d, want %d", c.a, c.b, code, c.wantCode)
		}
	}
}

// The flags are the same, so that all places are added for one of them.
func TestFormsAndAveragesAtTheLimit(t *testing.T) {
	edge := flag(t, 1, "graph 2 0-1")
	for m, want := range map[string]int64{
		"1000000000": impl.OK, "-2 1;1 1000000000": impl.OK, "1000000000 1;1 -2": impl.ErrLimit, "1000000000 -1;-1 1": impl.OK, "1/1000000000": impl.OK, "1/1000000000 1;1 1": impl.ErrLimit, "0 1000000000;1000000000 0": impl.ErrLimit, "0 500000000;500000000 0": impl.OK,
		"500000000 500000000;500000000 -1000000000": impl.ErrLimit, "-1000000000 500000000;500000000 1000000000": impl.OK, "0 0;0 0": impl.OK,
	} {
		got, code := impl.FormSum(copiesOf(edge, len(mat(m))), mat(m))
		checkCode(t, got, code, want, "FormSum ", m)
	}
	// Of the flags with one label and three vertices, the path has the factors
	// 1/3 and 2/3, which are multiplied before the products are added.
	dot := impl.Graph{N: 1}
	for text, want := range map[string]int64{
		"0 0 1/333333333": impl.OK, "0 0 1/333333334": impl.ErrLimit, "0 0 3/999999998": impl.OK, "0 0 0 0 1/333333334": impl.OK, "0 0 0 0 1/500000001": impl.ErrLimit, "0 0 1000000000": impl.OK, "0 0 0 0 1000000000": impl.ErrLimit, "0 0 1000000000 0 500000000": impl.ErrLimit, "0 0 999999999 0 999999999": impl.OK, "0 0 1/65535 0 1/65536": impl.ErrLimit,
		"0 0 0 0 0 1000000000": impl.OK, "1/1000000000": impl.OK, "0 1/1000000000": impl.ErrLimit, "0 0 0 1/1000000000": impl.ErrLimit,
	} {
		got, code := impl.AverageSum(inOrder(dot, 3, text))
		want2, code2 := wantAverage(inOrder(dot, 3, text))
		checkSum(t, "AverageSum "+text, got, code, want2, code2)
		if code != want {
			t.Errorf("AverageSum %s: code %d, want %d", text, code, want)
		}
	}
}

// There are 90 flags with one label and five vertices.
func TestSumsWithTooManyTerms(t *testing.T) {
	k := kind{impl.Graph{N: 1}, 5}
	all := ones(k, 90).Terms
	for n := range len(all) + 1 {
		want := int64(impl.OK)
		if n > 64 {
			want = impl.ErrLimit
		}
		got, code := impl.SumOfFlags(k.typ, k.size, all[:n])
		checkCode(t, got, code, want, "SumOfFlags of ", n)
		got, code = impl.SumOfFlags(k.typ, k.size, slices.Concat(all, negative(all[n:])))
		checkCode(t, got, code, want, "SumOfFlags of ", n, " that are left")
		if n > 64 || n < 26 {
			continue
		}
		// So many, and all others; so many, and those that are just too many.
		a := impl.FlagSum{Type: k.typ, Size: k.size, Terms: all[:n]}
		got, code = impl.AddSums(a, impl.FlagSum{Type: k.typ, Size: k.size, Terms: all[n:]})
		checkCode(t, got, code, impl.ErrLimit, "AddSums of ", n, " and of all others")
		got, code = impl.AddSums(a, impl.FlagSum{Type: k.typ, Size: k.size, Terms: all[n:64]})
		checkCode(t, got, code, impl.OK, "AddSums of ", n, " to the limit")
		got, code = impl.AddSums(a, impl.FlagSum{Type: k.typ, Size: k.size, Terms: all[n:65]})
		checkCode(t, got, code, impl.ErrLimit, "AddSums of ", n, " and of one too many")
		got, code = impl.AddSums(a, impl.FlagSum{Type: k.typ, Size: k.size, Terms: append(negative(all[:1]), all[n:65]...)})
		checkCode(t, got, code, impl.OK, "AddSums of ", n, " and of one too many, less the first one")
	}
	full := impl.FlagSum{Type: k.typ, Size: k.size, Terms: all[:64]}
	for name, got := range map[string]impl.FlagSum{
		"ScaleSum": sumOf(t)(impl.ScaleSum(full, fr("2"))), "AddSums": sumOf(t)(impl.AddSums(full, full)), "WithoutForbidden": sumOf(t)(impl.WithoutForbidden(full, nil)), "ReadSum": sumOf(t)(impl.ReadSum(impl.SumText(full))),
	} {
		if len(got.Terms) != 64 {
			t.Errorf("%s of 64 terms has %d", name, len(got.Terms))
		}
	}
	if average := sumOf(t)(impl.AverageSum(full)); len(average.Terms) > 34 {
		t.Errorf("the average of 64 terms has %d", len(average.Terms))
	}
}

// negative returns terms with the opposite fractions.
func negative(terms []impl.Term) []impl.Term {
	list := slices.Clone(terms)
	for i := range list {
		list[i].By.P = -list[i].By.P
	}
	return list
}

// Sums with five vertices and labels cannot be raised, even to their own size,
// nor multiplied; but they are equal to themselves.
func TestSumsOfTypesWithTooManyFlags(t *testing.T) {
	for _, typ := range everyType() {
		want := int64(impl.ErrLimit)
		if typ.N == 0 {
			want = impl.OK
		}
		for size := typ.N; size <= 5; size++ {
			for n := range 2 {
				a := ones(kind{typ, size}, n)
				got, code := impl.RaiseSum(a, 5)
				checkCode(t, got, code, want, "RaiseSum ", a)
				got, code = impl.MultiplySums(a, ones(kind{typ, 5 - size + typ.N}, n))
				checkCode(t, got, code, want, "MultiplySums ", a)
				got, code = impl.MultiplySums(ones(kind{typ, 5 - size + typ.N}, 1-n), a)
				checkCode(t, got, code, want, "MultiplySums turned round ", a)
				equal, code := impl.AreEqualSums(a, ones(kind{typ, 5}, 0))
				if size == 5 {
					isRefused(t, fmt.Sprint("AreEqualSums of one size ", a), equal == (n == 0), code, impl.OK)
				} else {
					isRefused(t, fmt.Sprint("AreEqualSums ", a), equal == (n == 0 && want == impl.OK), code, want)
				}
			}
			if 2*size-typ.N == 5 {
				got, code := impl.FormSum(flagsOf(kind{typ, size})[:1], mat("0"))
				checkCode(t, got, code, want, "FormSum ", typ, size)
			}
		}
	}
}
