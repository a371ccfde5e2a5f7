package tests

import (
	"fmt"
	"testing"

	"loop.example/g01169/impl"
)

// Promise 9, its first half: raising changes no value.

// Sums of all kinds are raised to all sizes; the fractions of the sum that is
// got are its densities in the flags of the size.
func TestRaisedSums(t *testing.T) {
	random, limits := seeded(11), 0
	for _, k := range everyKind() {
		for size := k.size; size <= 5; size++ {
			for round := range 12 {
				a := someSum(random, k, someFractionsOf(random)[round%3])
				want, wantCode := wantRaised(a, size)
				if wantCode != impl.OK {
					limits++
				}
				got, code := impl.RaiseSum(a, size)
				checkSum(t, fmt.Sprint("RaiseSum ", a, size), got, code, want, wantCode)
			}
		}
	}
	if limits < 100 {
		t.Errorf("only %d sums cannot be raised", limits)
	}
}

// Every flag of the type is looked at, turned too, also where it has the size
// of the sum itself.
func TestValuesOfSums(t *testing.T) {
	random, limits := seeded(12), 0
	for _, k := range everyKind() {
		for round := range 6 {
			a := someSum(random, k, someFractionsOf(random)[round%3])
			for n := k.size; n <= 5; n++ {
				for _, g := range flagsOf(kind{k.typ, n}) {
					var r reckoner
					x := valueWith(&r, a, g)
					want, wantCode := impl.Fraction{}, r.code(impl.OK)
					if wantCode == impl.OK {
						want = ofRat(x)
					} else {
						limits++
					}
					got, code := impl.ValueIn(a, backwards(g))
					checkFraction(t, fmt.Sprint("ValueIn ", a, g), got, code, want, wantCode)
				}
			}
		}
	}
	if limits < 100 {
		t.Errorf("only %d values are too large", limits)
	}
}

func TestRaisingChangesNoValue(t *testing.T) {
	random := seeded(13)
	for _, k := range everyKind() {
		for size := k.size; size <= 5; size++ {
			if size == 5 && k.typ.N > 0 {
				continue
			}
			a := someSum(random, k, someFractionsOf(random)[0])
			b := sumOf(t)(impl.RaiseSum(a, size))
			for n := size; n <= 5; n++ {
				for _, g := range flagsOf(kind{k.typ, n}) {
					one, other := valueOf(t)(impl.ValueIn(a, g)), valueOf(t)(impl.ValueIn(b, g))
					if one.Cmp(other) != 0 {
						t.Fatalf("%v is %v in %v, but raised to %d it is %v", a, one, g, size, other)
					}
				}
				if n == 5 && k.typ.N > 0 {
					continue
				}
				// At once, and by way of a size between.
				once, twice := sumOf(t)(impl.RaiseSum(a, n)), sumOf(t)(impl.RaiseSum(b, n))
				checkSum(t, fmt.Sprint("RaiseSum ", a, size, n), twice, impl.OK, once, impl.OK)
			}
		}
	}
}

// A sum is equal to itself at every size, and to no other one.
func TestEqualSums(t *testing.T) {
	random := seeded(14)
	for _, k := range everyKind() {
		for size := k.size; size <= 5; size++ {
			if size == 5 && k.typ.N > 0 {
				continue
			}
			a := someSum(random, k, someFractionsOf(random)[0])
			b := sumOf(t)(impl.RaiseSum(a, size))
			checkEqual(t, a, b, true, impl.OK)
			for _, h := range flagsOf(kind{k.typ, size}) {
				more := sumOf(t)(impl.SumOfFlag(h))
				checkEqual(t, a, sumOf(t)(impl.AddSums(b, more)), false, impl.OK)
			}
		}
	}
}

// checkEqual calls AreEqualSums both ways round.
func checkEqual(t *testing.T, a, b impl.FlagSum, want bool, wantCode int64) {
	t.Helper()
	for range 2 {
		if got, code := impl.AreEqualSums(a, b); got != want || code != wantCode {
			t.Errorf("AreEqualSums %v %v: %t, code %d, want %t, code %d", a, b, got, code, want, wantCode)
		}
		a, b = b, a
	}
}

func TestRaisedSumsThatAreWrittenOut(t *testing.T) {
	none, dot, apart, joined := impl.Graph{}, impl.Graph{N: 1}, impl.Graph{N: 2}, impl.Graph{N: 2, Edges: 1}
	for _, c := range []struct{ a, want impl.FlagSum }{
		{inOrder(dot, 2, "0 1"), inOrder(dot, 3, "0 1/2 1 0 1/2 1")}, {inOrder(dot, 2, "1 0"), inOrder(dot, 3, "1 1/2 0 1 1/2 0")}, {inOrder(dot, 2, "-3 5"), inOrder(dot, 3, "-3 1 5 -3 1 5")},
		{inOrder(dot, 2, "1 -1"), inOrder(dot, 3, "1 0 -1 1 0 -1")}, {inOrder(dot, 1, "2/3"), inOrder(dot, 3, "2/3 2/3 2/3 2/3 2/3 2/3")}, {inOrder(dot, 1, ""), inOrder(dot, 4, "")},
		{inOrder(none, 0, "7"), inOrder(none, 3, "7 7 7 7")}, {inOrder(none, 2, "0 1"), inOrder(none, 3, "0 1/3 2/3 1")}, {inOrder(none, 2, "0 3/2"), inOrder(none, 3, "0 1/2 1 3/2")}, {inOrder(none, 1, "1/2"), inOrder(none, 2, "1/2 1/2")},
		{inOrder(apart, 2, "4"), inOrder(apart, 3, "4 4 4 4")}, {inOrder(joined, 2, "-1/5"), inOrder(joined, 3, "-1/5 -1/5 -1/5 -1/5")}, {inOrder(dot, 3, "1 2 3 4 5 6"), inOrder(dot, 3, "1 2 3 4 5 6")},
	} {
		got, code := impl.RaiseSum(c.a, c.want.Size)
		checkSum(t, fmt.Sprint("RaiseSum ", c.a), got, code, c.want, impl.OK)
		checkEqual(t, c.a, c.want, true, impl.OK)
	}
	for _, c := range []struct{ a, b impl.FlagSum }{
		{inOrder(dot, 2, "0 1"), inOrder(dot, 3, "0 1/2 1 0 1/2")}, {inOrder(dot, 2, "0 1"), inOrder(dot, 2, "1 0")}, {inOrder(dot, 2, "0 1"), inOrder(dot, 2, "0 2")}, {inOrder(none, 0, "1"), inOrder(none, 1, "2")},
		{inOrder(dot, 2, ""), inOrder(dot, 2, "0 1")}, {inOrder(none, 2, "0 1"), inOrder(none, 3, "0 1/3 2/3 2")}, {inOrder(none, 2, ""), inOrder(none, 3, "0 0 0 1")},
	} {
		checkEqual(t, c.a, c.b, false, impl.OK)
	}
	checkEqual(t, inOrder(none, 0, ""), inOrder(none, 5, ""), true, impl.OK)
}

func TestValuesThatAreWrittenOut(t *testing.T) {
	dot, none := impl.Graph{N: 1}, impl.Graph{}
	house := flag(t, 0, "graph 5 0-1 0-2 1-2 1-3 2-4 3-4")
	for _, c := range []struct {
		a    impl.FlagSum
		g    impl.Flag
		want string
	}{
		{inOrder(dot, 2, "0 1"), flag(t, 1, "graph 3 0-1 1-2"), "1/2"}, {inOrder(dot, 2, "0 1"), flag(t, 1, "graph 3 0-1 0-2"), "1"}, {inOrder(dot, 2, "3 -1"), flag(t, 1, "graph 5 0-1 1-2"), "2"}, {inOrder(dot, 2, "5 7"), flag(t, 1, "graph 2 0-1"), "7"},
		{inOrder(none, 2, "0 1"), house, "3/5"}, {inOrder(none, 3, "1 10 100 1000"), house, "163"}, {inOrder(none, 3, "0 1/3 0 -1"), house, "0"}, {inOrder(none, 0, "1/7"), house, "1/7"}, {inOrder(none, 1, "-2"), house, "-2"}, {inOrder(none, 4, ""), house, "0"},
		{inOrder(impl.Graph{N: 2}, 3, "1 2 4 8"), flag(t, 2, "graph 5 0-2 1-2 0-3 1-3 0-4"), "6"}, {inOrder(none, 0, "5"), impl.Flag{}, "5"},
	} {
		got, code := impl.ValueIn(c.a, c.g)
		checkFraction(t, fmt.Sprint("ValueIn ", c.a, c.g), got, code, fr(c.want), impl.OK)
	}
}
