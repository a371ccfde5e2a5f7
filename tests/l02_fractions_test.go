package tests

import (
	"fmt"
	"math/big"
	"strconv"
	"strings"
	"testing"

	"loop.example/g01169/impl"
)

// Promise 4: fractions are in lowest terms, and sums and products undo each
// other.

const (
	part  = 1000000000
	given = 1000000000000000000
	least = -1 << 63
	most  = 1<<63 - 1
)

func TestLimitsOfFractions(t *testing.T) {
	if impl.MaxPart != part || impl.MaxGiven != given || impl.MaxList != 256 || impl.MaxMatrix != 8 {
		t.Errorf("limits %d, %d, %d, %d", impl.MaxPart, int64(impl.MaxGiven), impl.MaxList, impl.MaxMatrix)
	}
}

func TestFractionOfIsInLowestTerms(t *testing.T) {
	for p := int64(-30); p <= 30; p++ {
		for q := int64(-30); q <= 30; q++ {
			got, code := impl.FractionOf(p, q)
			if q == 0 {
				checkFraction(t, fmt.Sprintf("FractionOf %d 0", p), got, code, impl.Fraction{}, impl.ErrRange)
				continue
			}
			checkFraction(t, fmt.Sprintf("FractionOf %d %d", p, q), got, code, ofRat(big.NewRat(p, q)), impl.OK)
			if !impl.ValidFraction(got) {
				t.Fatalf("FractionOf %d %d is not valid: %v", p, q, got)
			}
		}
	}
}

func TestFractionOfGreatNumbers(t *testing.T) {
	for _, c := range []struct {
		p, q, code int64
		want       impl.Fraction
	}{
		{given, given, impl.OK, impl.Fraction{P: 1, Q: 1}},
		{-given, given, impl.OK, impl.Fraction{P: -1, Q: 1}},
		{-given, -given, impl.OK, impl.Fraction{P: 1, Q: 1}},
		{given, part, impl.OK, impl.Fraction{P: part, Q: 1}},
		{given, -part, impl.OK, impl.Fraction{P: -part, Q: 1}},
		{part, given, impl.OK, impl.Fraction{P: 1, Q: part}},
		{-part, given, impl.OK, impl.Fraction{P: -1, Q: part}},
		{0, given, impl.OK, impl.Fraction{Q: 1}},
		{0, -given, impl.OK, impl.Fraction{Q: 1}},
		{0, -7, impl.OK, impl.Fraction{Q: 1}},
		{part, 1, impl.OK, impl.Fraction{P: part, Q: 1}},
		{part, part - 1, impl.OK, impl.Fraction{P: part, Q: part - 1}},
		{1 - part, part, impl.OK, impl.Fraction{P: 1 - part, Q: part}},
		{2 * part, 2, impl.OK, impl.Fraction{P: part, Q: 1}},
		{3, 3 * part, impl.OK, impl.Fraction{P: 1, Q: part}},
		{part + 1, 1, impl.ErrLimit, impl.Fraction{}},
		{-part - 1, 1, impl.ErrLimit, impl.Fraction{}},
		{1, part + 1, impl.ErrLimit, impl.Fraction{}},
		{1, -part - 1, impl.ErrLimit, impl.Fraction{}},
		{2*part + 2, 2, impl.ErrLimit, impl.Fraction{}},
		{given, part - 1, impl.ErrLimit, impl.Fraction{}},
		{given - 1, given, impl.ErrLimit, impl.Fraction{}},
		{given, 1, impl.ErrLimit, impl.Fraction{}},
		{1, -given, impl.ErrLimit, impl.Fraction{}},
		{given + 1, given + 1, impl.ErrRange, impl.Fraction{}},
		{given + 1, 1, impl.ErrRange, impl.Fraction{}},
		{-given - 1, 1, impl.ErrRange, impl.Fraction{}},
		{0, given + 1, impl.ErrRange, impl.Fraction{}},
		{0, -given - 1, impl.ErrRange, impl.Fraction{}},
		{given, 0, impl.ErrRange, impl.Fraction{}},
		{given + 1, 0, impl.ErrRange, impl.Fraction{}},
		{0, 0, impl.ErrRange, impl.Fraction{}},
		{least, 1, impl.ErrRange, impl.Fraction{}},
		{1, least, impl.ErrRange, impl.Fraction{}},
		{least, least, impl.ErrRange, impl.Fraction{}},
		{least, 0, impl.ErrRange, impl.Fraction{}},
		{0, least, impl.ErrRange, impl.Fraction{}},
		{most, most, impl.ErrRange, impl.Fraction{}},
		{least, most, impl.ErrRange, impl.Fraction{}},
	} {
		got, code := impl.FractionOf(c.p, c.q)
		if got != c.want || code != c.code {
			t.Errorf("FractionOf %d %d: %v, code %d, want %v, code %d", c.p, c.q, got, code, c.want, c.code)
		}
	}
}

func TestValidFractions(t *testing.T) {
	for p := int64(-40); p <= 40; p++ {
		for q := int64(-40); q <= 40; q++ {
			a := impl.Fraction{P: p, Q: q}
			want := q > 0 && ofRat(big.NewRat(p, max(q, 1))) == a
			if got := impl.ValidFraction(a); got != want {
				t.Errorf("ValidFraction %v: %v", a, got)
			}
		}
	}
	for _, a := range someGreatFractions() {
		if !impl.ValidFraction(a) {
			t.Errorf("%v is not valid", a)
		}
	}
	for _, a := range badFractions() {
		if impl.ValidFraction(a) {
			t.Errorf("%v is valid", a)
		}
	}
}

// someGreatFractions returns fractions whose sums and products are sometimes
// valid just so, and sometimes just not.
func someGreatFractions() []impl.Fraction {
	var list []impl.Fraction
	for _, text := range []string{
		"0", "1", "2", "3", "1/2", "1/3", "3/2", "7/30", "499999999", "500000000", "500000001", "999999937", "999999999", "1000000000",
		"1/500000000", "1/500000001", "1/999999937", "1/999999999", "1/1000000000", "1000000000/999999999", "999999999/1000000000",
		"31622", "31623", "1/31622", "1/31623", "31623/31622", "100000", "10000", "1/10000", "1/100000", "999999937/2", "2/999999937", "1999/2000", "1/32768", "1/1048576", "333333333", "1/333333333",
	} {
		a := fr(text)
		list = append(list, a)
		if a.P != 0 {
			list = append(list, impl.Fraction{P: -a.P, Q: a.Q})
		}
	}
	return list
}

func smallFractions() []impl.Fraction {
	var list []impl.Fraction
	for q := int64(1); q <= 6; q++ {
		for p := int64(-7); p <= 7; p++ {
			if a := (impl.Fraction{P: p, Q: q}); ofRat(big.NewRat(p, q)) == a {
				list = append(list, a)
			}
		}
	}
	return list
}

func TestOperations(t *testing.T) {
	all := append(smallFractions(), someGreatFractions()...)
	for _, a := range all {
		for _, b := range all {
			checkOperation(t, "AddFractions", impl.AddFractions, (*reckoner).add, a, b)
			checkOperation(t, "SubFractions", impl.SubFractions, (*reckoner).sub, a, b)
			checkOperation(t, "MulFractions", impl.MulFractions, (*reckoner).mul, a, b)
			if b.P != 0 {
				checkOperation(t, "DivFractions", impl.DivFractions, (*reckoner).div, a, b)
			} else if got, code := impl.DivFractions(a, b); code != impl.ErrState || !isZero(got) {
				t.Fatalf("DivFractions %v by 0: %v, code %d, want ErrState", a, got, code)
			}
			if got, code := impl.CompareFractions(a, b); code != impl.OK || got != int64(rat(a).Cmp(rat(b))) {
				t.Fatalf("CompareFractions %v %v: %d, code %d", a, b, got, code)
			}
		}
	}
}

func checkOperation(t *testing.T, name string, operation func(a, b impl.Fraction) (impl.Fraction, int64), reckon func(r *reckoner, a, b *big.Rat) *big.Rat, a, b impl.Fraction) {
	t.Helper()
	var r reckoner
	want := reckon(&r, rat(a), rat(b))
	got, code := operation(a, b)
	if r.tooLarge {
		checkFraction(t, fmt.Sprint(name, a, b), got, code, impl.Fraction{}, impl.ErrLimit)
		return
	}
	checkFraction(t, fmt.Sprint(name, a, b), got, code, ofRat(want), impl.OK)
	if !impl.ValidFraction(got) {
		t.Fatalf("%s %v %v is not valid: %v", name, a, b, got)
	}
}

func TestSumsAndProductsUndoEachOther(t *testing.T) {
	all := append(smallFractions(), someGreatFractions()...)
	undone := 0
	for _, a := range all {
		for _, b := range all {
			undone += undo(t, "sum", impl.AddFractions, impl.SubFractions, a, b)
			undone += undo(t, "difference", impl.SubFractions, impl.AddFractions, a, b)
			if b.P != 0 {
				undone += undo(t, "product", impl.MulFractions, impl.DivFractions, a, b)
				undone += undo(t, "quotient", impl.DivFractions, impl.MulFractions, a, b)
			}
		}
	}
	if undone < 10000 {
		t.Errorf("only %d have been undone", undone)
	}
}

// undo does an operation and the other one; it returns 1 if the first one did
// not exceed the limit.
func undo(t *testing.T, name string, do, back func(a, b impl.Fraction) (impl.Fraction, int64), a, b impl.Fraction) int {
	t.Helper()
	there, code := do(a, b)
	if code == impl.ErrLimit {
		return 0
	}
	again, second := back(there, b)
	if code != impl.OK || second != impl.OK || again != a {
		t.Fatalf("the %s of %v and %v is %v, code %d; undone it is %v, code %d", name, a, b, there, code, again, second)
	}
	return 1
}

func TestOperationsRefuse(t *testing.T) {
	good := []impl.Fraction{fr("0"), fr("1/2"), fr("-1000000000")}
	for _, bad := range badFractions() {
		for _, other := range append(good, badFractions()...) {
			for _, pair := range [][2]impl.Fraction{{bad, other}, {other, bad}} {
				for i, operation := range []func(a, b impl.Fraction) (impl.Fraction, int64){impl.AddFractions, impl.SubFractions, impl.MulFractions, impl.DivFractions} {
					if got, code := operation(pair[0], pair[1]); code != impl.ErrInvalid || !isZero(got) {
						t.Fatalf("operation %d of %v: %v, code %d, want ErrInvalid", i, pair, got, code)
					}
				}
				if got, code := impl.CompareFractions(pair[0], pair[1]); code != impl.ErrInvalid || got != 0 {
					t.Fatalf("CompareFractions %v: %d, code %d, want ErrInvalid", pair, got, code)
				}
			}
		}
	}
}

func TestTextsOfFractions(t *testing.T) {
	for _, a := range append(smallFractions(), someGreatFractions()...) {
		want := strconv.FormatInt(a.P, 10) + "/" + strconv.FormatInt(a.Q, 10)
		want = strings.TrimSuffix(want, "/1")
		if a.Q == 1 {
			want = strconv.FormatInt(a.P, 10)
		}
		if got := impl.FractionText(a); got != want {
			t.Errorf("FractionText %v: %q, want %q", a, got, want)
		}
		if got, code := impl.ReadFraction(want); code != impl.OK || got != a {
			t.Errorf("ReadFraction %q: %v, code %d, want %v", want, got, code, a)
		}
	}
	for _, a := range badFractions() {
		if got := impl.FractionText(a); got != "" {
			t.Errorf("FractionText %v: %q", a, got)
		}
	}
	for text, want := range map[string]impl.Fraction{
		"0": {Q: 1}, "-5": {P: -5, Q: 1}, "1000000000": {P: part, Q: 1}, "-1000000000": {P: -part, Q: 1}, "1/1000000000": {P: 1, Q: part},
		"-999999999/1000000000": {P: -999999999, Q: part}, "10/11": {P: 10, Q: 11}, "11/10": {P: 11, Q: 10},
	} {
		if got, code := impl.ReadFraction(text); code != impl.OK || got != want || impl.FractionText(want) != text {
			t.Errorf("ReadFraction %q: %v, code %d, and the text %q", text, got, code, impl.FractionText(want))
		}
	}
}

func TestTextsThatAreNearlyFractions(t *testing.T) {
	for _, text := range []string{
		"", " ", "-", "/", "1/", "/2", "-/2", "1/-", "+1", "+1/2", "1/+2", "-0", "0/1", "0/2", "00", "01", "-01", "1/02", "01/2", "1/1", "-3/1", "2/4", "-2/4", "6/3", "1/0", "0/0",
		"1/-2", "-1/-2", "--1", "1//2", "1/2/3", "1/2/", " 1", "1 ", "1 /2", "1/ 2", "1/2\n", "\n1/2", "1\t", "1.0", "0.5", "1e3", "0x1", "1_0", "1,0", "½", "١", "a", "1a", "a1", "1/2a", "−1", "\x00", "1\x00", "1/2\x00",
		"1000000001", "-1000000001", "1/1000000001", "1000000001/1000000002", "1000000000000000000", "9223372036854775807", "9223372036854775808", "-9223372036854775808", "-9223372036854775809", "18446744073709551617",
		"1/9223372036854775808", "1/18446744073709551618", "4294967297/8589934594", "1/-1", "1\n", "nan", "inf",
	} {
		if got, code := impl.ReadFraction(text); code != impl.ErrSyntax || !isZero(got) {
			t.Errorf("ReadFraction %q: %v, code %d, want ErrSyntax", text, got, code)
		}
	}
}
