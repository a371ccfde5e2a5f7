package tests

import (
	"fmt"
	"math/big"
	"math/rand/v2"
	"slices"
	"sync"
	"testing"

	"loop.example/g01169/impl"
)

// The helpers keep a sum as a table of least flags, reckon with math/big, and
// take densities from choices of vertices.

// kind is what all flags of a sum have in common.
type kind struct {
	typ  impl.Graph
	size int64
}

// everyKind returns all types with all of their sizes.
func everyKind() []kind {
	var list []kind
	for _, typ := range everyType() {
		for size := typ.N; size <= 5; size++ {
			list = append(list, kind{typ, size})
		}
	}
	return list
}

// remembered returns a function that finds each value once.
func remembered[K comparable, V any](find func(K) V) func(K) V {
	var lock sync.Mutex
	known := map[K]V{}
	return func(key K) V {
		lock.Lock()
		defer lock.Unlock()
		if _, found := known[key]; !found {
			known[key] = find(key)
		}
		return known[key]
	}
}

// flagsOf returns the least flags of a kind.
var flagsOf = remembered(func(k kind) []impl.Flag { return flagsWith(k.typ, k.size) })

// places is a flag, and how many unlabelled vertices are chosen in it.
type places struct {
	g             impl.Flag
	first, second int64
}

var sharesIn = remembered(func(p places) map[impl.Flag]*big.Rat { return shares(p.g, p.first) })

var jointSharesIn = remembered(func(p places) map[[2]impl.Flag]*big.Rat { return jointShares(p.g, p.first, p.second) })

// shareOf returns the density of a flag in another one.
func shareOf(f, g impl.Flag) *big.Rat {
	found := sharesIn(places{g, f.Graph.N - f.Labels, 0})
	return rat(shareFor(found, leastFlagTable()[f]))
}

// jointShareOf returns the joint density of two flags in another one.
func jointShareOf(f, h, g impl.Flag) *big.Rat {
	found := jointSharesIn(places{g, f.Graph.N - f.Labels, h.Graph.N - h.Labels})
	return rat(shareFor(found, [2]impl.Flag{leastFlagTable()[f], leastFlagTable()[h]}))
}

// factorOf returns the part of the lists of labels that make a flag of its graph.
func factorOf(f impl.Flag) *big.Rat {
	lists, right := flagsOfLists(f.Graph, f.Labels), int64(0)
	for _, g := range lists {
		if leastFlagTable()[g] == leastFlagTable()[f] {
			right++
		}
	}
	return big.NewRat(right, int64(len(lists)))
}

// tally is a sum that is reckoned.
type tally struct {
	reckoner
	kind
	by map[impl.Flag]*big.Rat
}

func newTally(k kind) *tally {
	return &tally{kind: k, by: map[impl.Flag]*big.Rat{}}
}

// put adds a fraction to that of a flag, which need not be least.
func (y *tally) put(f impl.Flag, x *big.Rat) {
	least := leastFlagTable()[f]
	if y.by[least] == nil {
		y.by[least] = new(big.Rat)
	}
	y.by[least] = y.add(y.by[least], x)
}

// sum returns what a function has to return for the tally.
func (y *tally) sum() (impl.FlagSum, int64) {
	sum := impl.FlagSum{Type: y.typ, Size: y.size}
	for _, f := range flagsOf(y.kind) {
		if x := y.by[f]; x != nil && x.Sign() != 0 {
			sum.Terms = append(sum.Terms, impl.Term{Flag: f, By: ofRat(x)})
		}
	}
	if y.tooLarge || len(sum.Terms) > 64 {
		return impl.FlagSum{}, impl.ErrLimit
	}
	return sum, impl.OK
}

// wantOver returns what a function has to return that makes a fraction for each
// flag of a kind.
func wantOver(k kind, find func(r *reckoner, h impl.Flag) *big.Rat) (impl.FlagSum, int64) {
	if len(flagsOf(k)) > 64 {
		return impl.FlagSum{}, impl.ErrLimit
	}
	y := newTally(k)
	for _, h := range flagsOf(k) {
		y.put(h, find(&y.reckoner, h))
	}
	return y.sum()
}

func wantRaised(a impl.FlagSum, size int64) (impl.FlagSum, int64) {
	return wantOver(kind{a.Type, size}, func(r *reckoner, h impl.Flag) *big.Rat { return valueWith(r, a, h) })
}

// valueWith returns the value of a sum in a flag.
func valueWith(r *reckoner, a impl.FlagSum, g impl.Flag) *big.Rat {
	sum := new(big.Rat)
	for _, term := range a.Terms {
		sum = r.add(sum, r.mul(shareOf(term.Flag, g), rat(term.By)))
	}
	return sum
}

func wantProduct(a, b impl.FlagSum) (impl.FlagSum, int64) {
	return wantOver(kind{a.Type, a.Size + b.Size - a.Type.N}, func(r *reckoner, h impl.Flag) *big.Rat {
		sum := new(big.Rat)
		for _, one := range a.Terms {
			for _, other := range b.Terms {
				by := r.mul(rat(one.By), rat(other.By))
				sum = r.add(sum, r.mul(jointShareOf(one.Flag, other.Flag, h), by))
			}
		}
		return sum
	})
}

func wantForm(flags []impl.Flag, m [][]impl.Fraction) (impl.FlagSum, int64) {
	f := flags[0]
	return wantOver(kind{typeOfFlag(f), 2*f.Graph.N - f.Labels}, func(r *reckoner, h impl.Flag) *big.Rat {
		sum := new(big.Rat)
		for i := range flags {
			for j := range flags {
				sum = r.add(sum, r.mul(jointShareOf(flags[i], flags[j], h), rat(m[i][j])))
			}
		}
		return sum
	})
}

func wantAverage(a impl.FlagSum) (impl.FlagSum, int64) {
	y := newTally(kind{impl.Graph{}, a.Size})
	for _, term := range a.Terms {
		y.put(plain(term.Flag.Graph), y.mul(rat(term.By), factorOf(term.Flag)))
	}
	return y.sum()
}

// inOrder returns the sum in which the flags of a kind have the fractions of a
// text, in their order.
func inOrder(typ impl.Graph, size int64, text string) impl.FlagSum {
	sum := impl.FlagSum{Type: typ, Size: size}
	for i, by := range frs(text) {
		if by.P != 0 {
			sum.Terms = append(sum.Terms, impl.Term{Flag: flagsOf(kind{typ, size})[i], By: by})
		}
	}
	return sum
}

// someSum returns a sum with about half of the flags of a kind, at most 64, with
// fractions of a function, those that are 0 left out.
func someSum(random *rand.Rand, k kind, fraction func() impl.Fraction) impl.FlagSum {
	sum := impl.FlagSum{Type: k.typ, Size: k.size}
	for _, f := range flagsOf(k) {
		by := fraction()
		if by.P != 0 && random.IntN(2) == 0 && len(sum.Terms) < 64 {
			sum.Terms = append(sum.Terms, impl.Term{Flag: f, By: by})
		}
	}
	return sum
}

// ones returns the sum of the first flags of a kind, each times 1.
func ones(k kind, n int) impl.FlagSum {
	sum := impl.FlagSum{Type: k.typ, Size: k.size}
	for _, f := range flagsOf(k)[:n] {
		sum.Terms = append(sum.Terms, impl.Term{Flag: f, By: fr("1")})
	}
	return sum
}

// someFractionsOf returns functions that make small fractions, and great ones,
// whose sums and products are too large now and then.
func someFractionsOf(random *rand.Rand) []func() impl.Fraction {
	great := someGreatFractions()
	return []func() impl.Fraction{
		func() impl.Fraction { return someFraction(random, 4) },
		func() impl.Fraction { return someFraction(random, 600) },
		func() impl.Fraction { return great[random.IntN(len(great))] },
	}
}

// seeded returns random numbers that are the same each time.
func seeded(seed uint64) *rand.Rand { return rand.New(rand.NewPCG(5, seed)) }

// sameSum compares sums without the program's SameSum.
func sameSum(a, b impl.FlagSum) bool {
	return a.Type == b.Type && a.Size == b.Size && slices.Equal(a.Terms, b.Terms)
}

func noSum(a impl.FlagSum) bool { return sameSum(a, impl.FlagSum{}) }

// checkSum fails unless a call has returned a sum, which has to be valid, or
// nothing with a code that is not OK.
func checkSum(t *testing.T, what string, got impl.FlagSum, code int64, want impl.FlagSum, wantCode int64) {
	t.Helper()
	if code != wantCode || !sameSum(got, want) || code == impl.OK && !impl.ValidSum(got) {
		t.Fatalf("%s: %v, code %d, want %v, code %d", what, got, code, want, wantCode)
	}
}

// sumOf returns the sum of a call that has to succeed.
func sumOf(t *testing.T) func(a impl.FlagSum, code int64) impl.FlagSum {
	return func(a impl.FlagSum, code int64) impl.FlagSum {
		t.Helper()
		if code != impl.OK || !impl.ValidSum(a) {
			t.Fatalf("got %v and code %d", a, code)
		}
		return a
	}
}

// checkRefusedSum fails unless a call has returned no sum, and the code.
func checkRefusedSum(t *testing.T, a impl.FlagSum, code, want int64, what ...any) {
	t.Helper()
	isRefused(t, fmt.Sprintln(what...), noSum(a), code, want)
}

// badKinds returns types and sizes that no sum has, although the types are valid.
func badKinds() []kind {
	list := []kind{{impl.Graph{N: 4}, 4}, {impl.Graph{N: 4}, 5}, {impl.Graph{N: 5}, 5}, {impl.Graph{N: 4, Edges: 63}, 3}}
	for _, typ := range everyType() {
		for _, size := range []int64{-1 << 63, -1, typ.N - 1, 6, 1 << 32, 1<<63 - 1} {
			list = append(list, kind{typ, size})
		}
	}
	return list
}

// badSums returns sums that are not valid.
func badSums() []impl.FlagSum {
	var list []impl.FlagSum
	for _, k := range badKinds() {
		list = append(list, impl.FlagSum{Type: k.typ, Size: k.size})
	}
	for _, g := range badGraphs() {
		list = append(list, impl.FlagSum{Type: g, Size: 3}, impl.FlagSum{Type: g, Size: g.N})
	}
	dot := impl.Graph{N: 1}
	at := func(size int64, terms ...impl.Term) impl.FlagSum {
		return impl.FlagSum{Type: dot, Size: size, Terms: terms}
	}
	edge := impl.Term{Flag: impl.Flag{Labels: 1, Graph: impl.Graph{N: 2, Edges: 1}}, By: fr("1")}
	gap := impl.Term{Flag: impl.Flag{Labels: 1, Graph: impl.Graph{N: 2}}, By: fr("-1/2")}
	for _, bad := range badFractions() {
		list = append(list, at(2, impl.Term{Flag: edge.Flag, By: bad}), at(2, gap, impl.Term{Flag: edge.Flag, By: bad}))
	}
	for _, bad := range badFlags() {
		list = append(list, at(bad.Graph.N, impl.Term{Flag: bad, By: fr("1")}), at(2, gap, impl.Term{Flag: bad, By: fr("1")}))
	}
	turned := impl.Term{Flag: impl.Flag{Labels: 1, Graph: impl.Graph{N: 3, Edges: 6}}, By: fr("1")}
	none := impl.Term{Flag: edge.Flag, By: fr("0")}
	other := impl.Term{Flag: impl.Flag{Graph: edge.Flag.Graph}, By: fr("1")}
	two := impl.Term{Flag: impl.Flag{Labels: 2, Graph: edge.Flag.Graph}, By: fr("1")}
	joined := impl.FlagSum{Type: impl.Graph{N: 2, Edges: 1}, Size: 3, Terms: []impl.Term{{Flag: impl.Flag{Labels: 2, Graph: impl.Graph{N: 3}}, By: fr("1")}}}
	return append(list, at(2, edge, gap), at(2, edge, edge), at(2, gap, gap, edge), at(2, none), at(2, gap, none), at(3, turned), at(3, edge), at(2, gap, other), at(2, gap, two), joined, ones(kind{dot, 5}, 65), ones(kind{dot, 5}, 90))
}
