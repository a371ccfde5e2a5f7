package tests

import (
	"math/big"
	"slices"
	"sync"
	"testing"

	"loop.example/g01169/impl"
)

// The helpers choose vertices one after the other, in every order, where the
// program takes sets of them: each set is chosen equally often, so that the
// shares are the same.

// leastFlagTable has the least flag of each flag.
var leastFlagTable = sync.OnceValue(func() map[impl.Flag]impl.Flag {
	table := map[impl.Flag]impl.Flag{}
	for n := range int64(6) {
		for k := range min(n, 3) + 1 {
			orders := labelStayers(n, k)
			for _, g := range everyGraph(n) {
				f := impl.Flag{Labels: k, Graph: g}
				if _, known := table[f]; known {
					continue
				}
				for _, order := range orders {
					table[impl.Flag{Labels: k, Graph: graphOn(g, order)}] = f
				}
			}
		}
	}
	return table
})

// typeOfFlag returns the graph on the labelled vertices, pair by pair.
func typeOfFlag(f impl.Flag) impl.Graph {
	return graphOn(f.Graph, upTo(f.Labels))
}

// flagsWith returns the least flags of a type with n vertices.
func flagsWith(typ impl.Graph, n int64) []impl.Flag {
	var list []impl.Flag
	for _, g := range everyGraph(n) {
		f := impl.Flag{Labels: typ.N, Graph: g}
		if leastFlagTable()[f] == f && typeOfFlag(f) == typ {
			list = append(list, f)
		}
	}
	return list
}

// flagsOfType returns the least flags of a type, of all sizes.
func flagsOfType(typ impl.Graph) []impl.Flag {
	var list []impl.Flag
	for n := typ.N; n <= 5; n++ {
		list = append(list, flagsWith(typ, n)...)
	}
	return list
}

// leastGraphs returns the least graphs with up to five vertices.
func leastGraphs() []impl.Graph {
	var list []impl.Graph
	for _, f := range flagsOfType(impl.Graph{}) {
		list = append(list, f.Graph)
	}
	return list
}

// backwards returns a flag with its unlabelled vertices in the opposite order,
// which is alike it, and seldom least.
func backwards(f impl.Flag) impl.Flag {
	order := withOthers(f.Graph.N, upTo(f.Labels))
	slices.Reverse(order[f.Labels:])
	return impl.Flag{Labels: f.Labels, Graph: graphOn(f.Graph, order)}
}

// choices returns all lists of so many different unlabelled vertices.
func choices(g impl.Flag, count int64) [][]int64 {
	lists := listsWithout(g.Graph.N-g.Labels, count)
	for _, list := range lists {
		for i := range list {
			list[i] += g.Labels
		}
	}
	return lists
}

// flagOn returns the least flag on the labelled vertices and those of a list.
func flagOn(g impl.Flag, list []int64) impl.Flag {
	return leastFlagTable()[impl.Flag{Labels: g.Labels, Graph: graphOn(g.Graph, append(upTo(g.Labels), list...))}]
}

// shares returns the density in g of each least flag with so many unlabelled
// vertices, those that do not occur left out.
func shares(g impl.Flag, count int64) map[impl.Flag]*big.Rat {
	found := map[impl.Flag]*big.Rat{}
	lists := choices(g, count)
	for _, list := range lists {
		addTo(found, flagOn(g, list), big.NewRat(1, int64(len(lists))))
	}
	return found
}

// jointShares returns the joint density in g of each two least flags with so
// many unlabelled vertices.
func jointShares(g impl.Flag, first, second int64) map[[2]impl.Flag]*big.Rat {
	found := map[[2]impl.Flag]*big.Rat{}
	lists := choices(g, first+second)
	for _, list := range lists {
		addTo(found, [2]impl.Flag{flagOn(g, list[:first]), flagOn(g, list[first:])}, big.NewRat(1, int64(len(lists))))
	}
	return found
}

// flagsOfLists returns the flag for each list of k different vertices of a
// graph, these being its labelled ones.
func flagsOfLists(g impl.Graph, k int64) []impl.Flag {
	var list []impl.Flag
	for _, labels := range listsWithout(g.N, k) {
		list = append(list, impl.Flag{Labels: k, Graph: graphOn(g, withOthers(g.N, labels))})
	}
	return list
}

// averageShares returns the average of shares over flagsOfLists.
func averageShares(g impl.Graph, k, count int64) map[impl.Flag]*big.Rat {
	found := map[impl.Flag]*big.Rat{}
	flags := flagsOfLists(g, k)
	for _, f := range flags {
		for key, share := range shares(f, count) {
			addTo(found, key, new(big.Rat).Mul(share, big.NewRat(1, int64(len(flags)))))
		}
	}
	return found
}

// averageJointShares returns the average of jointShares over flagsOfLists.
func averageJointShares(g impl.Graph, k, first, second int64) map[[2]impl.Flag]*big.Rat {
	found := map[[2]impl.Flag]*big.Rat{}
	flags := flagsOfLists(g, k)
	for _, f := range flags {
		for key, share := range jointShares(f, first, second) {
			addTo(found, key, new(big.Rat).Mul(share, big.NewRat(1, int64(len(flags)))))
		}
	}
	return found
}

func addTo[K comparable](sums map[K]*big.Rat, key K, value *big.Rat) {
	if sums[key] == nil {
		sums[key] = new(big.Rat)
	}
	sums[key].Add(sums[key], value)
}

// shareFor returns what a map of shares has for a key, 0 if nothing.
func shareFor[K comparable](found map[K]*big.Rat, key K) impl.Fraction {
	if found[key] == nil {
		return impl.Fraction{Q: 1}
	}
	return ofRat(found[key])
}

// valueOf returns the fraction of a call that has to succeed.
func valueOf(t *testing.T) func(a impl.Fraction, code int64) *big.Rat {
	return func(a impl.Fraction, code int64) *big.Rat {
		t.Helper()
		if code != impl.OK || !impl.ValidFraction(a) {
			t.Fatalf("got %v and code %d", a, code)
		}
		return rat(a)
	}
}

// plain returns the flag of a graph without labels.
func plain(g impl.Graph) impl.Flag { return impl.Flag{Graph: g} }

// copiesOf returns a list in which a flag comes some times.
func copiesOf(f impl.Flag, n int) []impl.Flag {
	return slices.Repeat([]impl.Flag{f}, n)
}

// isRefused fails unless a call has returned a code, and nothing else.
func isRefused(t *testing.T, what string, zero bool, code, want int64) {
	t.Helper()
	if code != want || !zero {
		t.Errorf("%s: code %d, want %d, and nothing else (%t)", what, code, want, zero)
	}
}
