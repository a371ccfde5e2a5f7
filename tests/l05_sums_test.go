package tests

import (
	"fmt"
	"math/big"
	"slices"
	"testing"

	"loop.example/g01169/impl"
)

// Promises 9 and 10 rest on sums whose terms are least flags, ascending and
// without 0, in whatever way they are made.

func TestLimitOfTerms(t *testing.T) {
	if impl.MaxTerms != 64 {
		t.Errorf("MaxTerms is %d", impl.MaxTerms)
	}
}

// A sum of one flag is valid just if this is least; of all flags of a kind,
// just if there are at most MaxTerms.
func TestValidSums(t *testing.T) {
	for _, k := range everyKind() {
		flags := flagsOf(k)
		for _, g := range everyGraph(k.size) {
			f := impl.Flag{Labels: k.typ.N, Graph: g}
			one := impl.FlagSum{Type: k.typ, Size: k.size, Terms: []impl.Term{{Flag: f, By: fr("-2/3")}}}
			if got, want := impl.ValidSum(one), slices.Contains(flags, f); got != want {
				t.Errorf("ValidSum %v: %t, want %t", one, got, want)
			}
		}
		for n := range len(flags) + 1 {
			if got, want := impl.ValidSum(ones(k, n)), n <= 64; got != want {
				t.Errorf("ValidSum of %d flags of the kind %v: %t", n, k, got)
			}
		}
		pair := ones(k, min(len(flags), 2))
		slices.Reverse(pair.Terms)
		if impl.ValidSum(pair) && len(flags) > 1 {
			t.Errorf("ValidSum %v: true", pair)
		}
	}
	for _, bad := range badSums() {
		if impl.ValidSum(bad) {
			t.Errorf("ValidSum %v: true", bad)
		}
	}
}

func TestSameSums(t *testing.T) {
	all := append(badSums(), impl.FlagSum{}, impl.FlagSum{Size: 1}, impl.FlagSum{Type: impl.Graph{N: 1}, Size: 1}, inOrder(impl.Graph{N: 1}, 2, "1 1"), inOrder(impl.Graph{N: 1}, 2, "1"), inOrder(impl.Graph{N: 1}, 2, "0 1"), inOrder(impl.Graph{N: 1}, 2, "1 2"))
	for _, a := range all {
		for _, b := range all {
			if got, want := impl.SameSum(a, b), fmt.Sprint(a) == fmt.Sprint(b); got != want {
				t.Errorf("SameSum %v %v: %t", a, b, got)
			}
		}
	}
	if !impl.SameSum(impl.FlagSum{}, impl.FlagSum{Terms: []impl.Term{}}) {
		t.Error("SameSum of nil and of an empty slice: false")
	}
}

// The graphs with more than three vertices are types of no sum.
func TestSumsWithoutTermsAndOfAllFlags(t *testing.T) {
	for _, typ := range graphsUpTo(5) {
		for _, size := range []int64{-1 << 63, -2, -1, 0, 1, 2, 3, 4, 5, 6, 7, 1<<63 - 1} {
			if typ.N > 3 && typ.Edges%37 > 0 {
				continue
			}
			k, want, wantAll := kind{typ, size}, int64(impl.OK), int64(impl.OK)
			var zero, all impl.FlagSum
			if typ.N > 3 || size < typ.N || size > 5 {
				want, wantAll = impl.ErrRange, impl.ErrRange
			} else if zero = (impl.FlagSum{Type: typ, Size: size}); len(flagsOf(k)) > 64 {
				wantAll = impl.ErrLimit
			} else {
				all = ones(k, len(flagsOf(k)))
			}
			got, code := impl.ZeroSum(typ, size)
			checkSum(t, fmt.Sprint("ZeroSum ", k), got, code, zero, want)
			got, code = impl.AllOnes(typ, size)
			checkSum(t, fmt.Sprint("AllOnes ", k), got, code, all, wantAll)
		}
	}
	for i, want := range []int{34, 0, 0, 0} {
		all, _ := impl.AllOnes(impl.Graph{N: int64(i)}, 5)
		if len(all.Terms) != want {
			t.Errorf("AllOnes of %d labels and 5 vertices has %d terms", i, len(all.Terms))
		}
	}
}

func TestSumOfOneFlag(t *testing.T) {
	for _, f := range flagsUpTo(5) {
		got, code := impl.SumOfFlag(f)
		want := impl.FlagSum{Type: typeOfFlag(f), Size: f.Graph.N, Terms: []impl.Term{{Flag: leastFlagTable()[f], By: fr("1")}}}
		checkSum(t, fmt.Sprint("SumOfFlag ", f), got, code, want, impl.OK)
	}
}

// Terms are turned, come in any order and more than once, and have fractions
// that are 0 or too large to be added.
func TestSumsOfTerms(t *testing.T) {
	random, limits, all := seeded(1), 0, everyKind()
	for round := range 4000 {
		k := all[random.IntN(len(all))]
		flags, y := flagsOf(k), newTally(k)
		fraction := someFractionsOf(random)[round%3]
		var terms []impl.Term
		for range random.IntN(2*len(flags) + 3) {
			f := flags[random.IntN(len(flags))]
			if random.IntN(2) == 0 {
				f = backwards(f)
			}
			terms = append(terms, impl.Term{Flag: f, By: fraction()})
			// What has come before is taken away again.
			if random.IntN(4) == 0 {
				before := terms[random.IntN(len(terms))]
				terms = append(terms, impl.Term{Flag: before.Flag, By: impl.Fraction{P: -before.By.P, Q: before.By.Q}})
			}
		}
		for _, term := range terms {
			y.put(term.Flag, rat(term.By))
		}
		want, wantCode := y.sum()
		if wantCode != impl.OK {
			limits++
		}
		got, code := impl.SumOfFlags(k.typ, k.size, terms)
		checkSum(t, fmt.Sprint("SumOfFlags ", k, terms), got, code, want, wantCode)
	}
	if limits < 500 || limits > 2000 {
		t.Errorf("%d of 4000 sums are too large", limits)
	}
}

func TestCoefficients(t *testing.T) {
	random := seeded(2)
	for _, k := range everyKind() {
		a := someSum(random, k, someFractionsOf(random)[0])
		by := map[impl.Flag]impl.Fraction{}
		for _, term := range a.Terms {
			by[term.Flag] = term.By
		}
		for _, g := range everyGraph(k.size) {
			f := impl.Flag{Labels: k.typ.N, Graph: g}
			want, wantCode := impl.Fraction{}, int64(impl.ErrRange)
			if typeOfFlag(f) == k.typ {
				want, wantCode = by[leastFlagTable()[f]], impl.OK
				if want.Q == 0 {
					want = fr("0")
				}
			}
			got, code := impl.CoefficientOf(a, f)
			checkFraction(t, fmt.Sprint("CoefficientOf ", a, f), got, code, want, wantCode)
		}
	}
}

// tallyOf returns a sum as a tally, with its fractions times another one.
func tallyOf(a impl.FlagSum, by *big.Rat) *tally {
	y := newTally(kind{a.Type, a.Size})
	for _, term := range a.Terms {
		y.put(term.Flag, y.mul(rat(term.By), by))
	}
	return y
}

func TestSumsOfSumsAndTimesFractions(t *testing.T) {
	random := seeded(3)
	one, limits := big.NewRat(1, 1), 0
	for _, k := range everyKind() {
		for round := range 60 {
			fraction := someFractionsOf(random)[round%3]
			a, b, by := someSum(random, k, fraction), someSum(random, k, fraction), fraction()
			if round%5 == 0 {
				b = sumOf(t)(impl.ScaleSum(a, fr("-1")))
			}
			y := tallyOf(a, one)
			for _, term := range b.Terms {
				y.put(term.Flag, rat(term.By))
			}
			want, wantCode := y.sum()
			got, code := impl.AddSums(a, b)
			checkSum(t, fmt.Sprint("AddSums ", a, b), got, code, want, wantCode)
			if got, code = impl.AddSums(b, a); code != wantCode || !sameSum(got, want) {
				t.Fatalf("AddSums turned round %v %v: %v, code %d", b, a, got, code)
			}
			want, wantCode = tallyOf(a, rat(by)).sum()
			got, code = impl.ScaleSum(a, by)
			checkSum(t, fmt.Sprint("ScaleSum ", a, by), got, code, want, wantCode)
			if wantCode != impl.OK {
				limits++
			}
			got, code = impl.ScaleSum(a, fr("0"))
			checkSum(t, fmt.Sprint("ScaleSum by 0 ", a), got, code, impl.FlagSum{Type: k.typ, Size: k.size}, impl.OK)
		}
	}
	if limits < 300 {
		t.Errorf("only %d sums are too large", limits)
	}
}
