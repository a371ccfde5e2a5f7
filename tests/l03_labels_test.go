package tests

import (
	"fmt"
	"slices"
	"testing"

	"loop.example/g01169/impl"
)

// Promise 6, the second half: all lists of labels are those of the flags of all
// types; and the functions that give a flag other labels.

// fallingProduct returns how many lists of k different ones of n vertices there
// are.
func fallingProduct(n, k int64) int64 {
	product := int64(1)
	for i := range k {
		product *= n - i
	}
	return product
}

// Each list of labels belongs to just one of the flags of all types, which are
// those of AllFlags as far as they are not too many.
func TestAllListsOfLabelsAreThoseOfAllFlags(t *testing.T) {
	for n := range int64(6) {
		graphs, _ := impl.AllGraphs(n)
		for k := range min(n, 3) + 1 {
			counts := map[impl.Graph]int64{}
			for _, f := range flagsOfAllTypes(t, k, n) {
				count, code := impl.CountLabelings(f)
				if code != impl.OK {
					t.Fatalf("CountLabelings %v: code %d", f, code)
				}
				counts[leastOf(f.Graph)] += count
			}
			for _, g := range graphs {
				if counts[g] != fallingProduct(n, k) {
					t.Errorf("the flags of %v have %d lists of %d labels, want %d", g, counts[g], k, fallingProduct(n, k))
				}
			}
			if len(counts) != len(graphs) {
				t.Errorf("%d graphs with %d vertices have flags with %d labels, want %d", len(counts), n, k, len(graphs))
			}
		}
	}
}

// flagsOfAllTypes returns the least flags with k labels and n vertices.
func flagsOfAllTypes(t *testing.T, k, n int64) []impl.Flag {
	t.Helper()
	types, code := impl.AllTypes(k, nil)
	if code != impl.OK {
		t.Fatalf("AllTypes %d: code %d", k, code)
	}
	var flags []impl.Flag
	for _, typ := range types {
		some, code := impl.AllFlags(typ, n, nil)
		if code == impl.ErrLimit && n == 5 && k > 0 {
			some, code = leastFlagsOf(typ, n), impl.OK
		}
		if code != impl.OK {
			t.Fatalf("AllFlags %v %d: code %d", typ, n, code)
		}
		flags = append(flags, some...)
	}
	return flags
}

// CountLabelings of each flag is the number of lists that lead to it, and with
// CountSelfFlag it makes CountSelf of the graph.
func TestListsOfLabelsLeadToTheirFlags(t *testing.T) {
	for _, g := range graphsUpTo(5) {
		if g.N == 5 && leastOf(g) != g && g.Edges%61 != 0 {
			continue
		}
		for k := range min(g.N, 3) + 1 {
			lists := map[impl.Flag]int64{}
			for _, labels := range listsWithout(g.N, k) {
				lists[leastFlagOf(impl.Flag{Labels: k, Graph: graphOn(g, withOthers(g.N, labels))})]++
			}
			all, _ := impl.CountSelf(g)
			for f, want := range lists {
				got, one := impl.CountLabelings(f)
				self, two := impl.CountSelfFlag(f)
				if got != want || one != impl.OK || two != impl.OK || got*self != all {
					t.Fatalf("CountLabelings %v: %d, CountSelfFlag %d, codes %d %d, want %d lists and %d in all", f, got, self, one, two, want, all)
				}
			}
		}
	}
}

func TestNumbersOfLabelings(t *testing.T) {
	for _, c := range []struct {
		f    impl.Flag
		want int64
	}{
		{impl.Flag{}, 1}, {flag(t, 0, "graph 5 0-1 0-2"), 1}, {flag(t, 1, "graph 1"), 1}, {flag(t, 3, "graph 3"), 6}, {flag(t, 3, "graph 5"), 60}, {flag(t, 2, "graph 5"), 20},
		{flag(t, 1, "graph 3 0-1 0-2"), 1}, {flag(t, 1, "graph 3 0-1 1-2"), 2}, {flag(t, 1, "graph 3 0-2 1-2"), 2}, {flag(t, 2, "graph 3 0-1 1-2"), 2}, {flag(t, 3, "graph 3 0-1"), 2},
		{flag(t, 1, "graph 5 0-1 0-2 0-3 0-4"), 1}, {flag(t, 1, "graph 5 0-1 1-2 1-3 1-4"), 4}, {flag(t, 2, "graph 5 0-1 1-2 2-3 0-4 3-4"), 10},
	} {
		if got, code := impl.CountLabelings(c.f); code != impl.OK || got != c.want {
			t.Errorf("CountLabelings %v: %d, code %d, want %d", c.f, got, code, c.want)
		}
	}
}

// All flags with up to four vertices, and some with five, by all orders.
func TestTurnedLabels(t *testing.T) {
	for _, f := range flagsUpTo(5) {
		if f.Graph.N == 5 && f.Graph.Edges%29 != 3 {
			continue
		}
		for _, order := range listsWithout(f.Labels, f.Labels) {
			got, code := impl.TurnLabels(f, order)
			want := leastFlagOf(impl.Flag{Labels: f.Labels, Graph: graphOn(f.Graph, withOthers(f.Graph.N, order))})
			checkFlag(t, fmt.Sprint("TurnLabels ", f, order), got, code, want, impl.OK)
		}
	}
	// An order that is not its own reverse: the label 2 comes where 0 was.
	got, code := impl.TurnLabels(flag(t, 3, "graph 3 0-1"), []int64{1, 2, 0})
	checkFlag(t, "TurnLabels by 1 2 0", got, code, flag(t, 3, "graph 3 0-2"), impl.OK)
	got, code = impl.TurnLabels(flag(t, 3, "graph 5 0-3"), []int64{1, 2, 0})
	checkFlag(t, "TurnLabels by 1 2 0", got, code, flag(t, 3, "graph 5 2-3"), impl.OK)
	// The unlabelled vertices come into their least order.
	got, code = impl.TurnLabels(flag(t, 2, "graph 4 1-3"), []int64{1, 0})
	checkFlag(t, "TurnLabels by 1 0", got, code, flag(t, 2, "graph 4 0-2"), impl.OK)
}

func TestTurnedLabelsRefuse(t *testing.T) {
	for _, f := range []impl.Flag{{}, flag(t, 0, "graph 3 0-1"), flag(t, 1, "graph 1"), flag(t, 1, "graph 4 0-1"), flag(t, 2, "graph 5 0-4"), flag(t, 3, "graph 3 0-1"), flag(t, 3, "graph 5 0-1")} {
		for _, order := range [][]int64{
			nil, {0}, {1}, {0, 1}, {1, 1}, {0, 2}, {0, -1}, {1, 2}, {0, 1, 2}, {0, 1, 1}, {0, 1, 3}, {0, 2, 2}, {-1, 0, 1}, {0, 1, 2, 3}, {0, 1, 2, 2}, {0, 1, 2, 3, 4}, {1 << 62}, {0, -1 << 63}, {0, 1, 1<<63 - 1},
		} {
			sorted := slices.Clone(order)
			slices.Sort(sorted)
			if slices.Equal(sorted, upTo(f.Labels)) {
				continue
			}
			got, code := impl.TurnLabels(f, order)
			checkFlag(t, fmt.Sprint("TurnLabels ", f, order), got, code, impl.Flag{}, impl.ErrRange)
		}
	}
	for _, bad := range badFlags() {
		for _, order := range [][]int64{nil, {0}, {0, 1, 2}, {5, 5}} {
			got, code := impl.TurnLabels(bad, order)
			checkFlag(t, fmt.Sprint("TurnLabels ", bad, order), got, code, impl.Flag{}, impl.ErrInvalid)
		}
	}
}

func TestForgottenLabels(t *testing.T) {
	for _, f := range flagsUpTo(5) {
		if f.Graph.N == 5 && f.Graph.Edges%13 != 3 {
			continue
		}
		for keep := int64(-2); keep < 7; keep++ {
			want, wantCode := impl.Flag{}, int64(impl.ErrRange)
			if keep >= 0 && keep <= f.Labels {
				want, wantCode = leastFlagOf(impl.Flag{Labels: keep, Graph: f.Graph}), impl.OK
			}
			got, code := impl.ForgetLabels(f, keep)
			checkFlag(t, fmt.Sprint("ForgetLabels ", f, keep), got, code, want, wantCode)
		}
	}
	for _, keep := range []int64{-1 << 63, 1<<63 - 1, 1 << 32} {
		got, code := impl.ForgetLabels(flag(t, 2, "graph 3 0-1"), keep)
		checkFlag(t, fmt.Sprint("ForgetLabels ", keep), got, code, impl.Flag{}, impl.ErrRange)
	}
	// The first label stays at its vertex, though the edges could be less.
	got, code := impl.ForgetLabels(flag(t, 2, "graph 3 0-2 1-2"), 1)
	checkFlag(t, "ForgetLabels but one", got, code, flag(t, 1, "graph 3 0-1 1-2"), impl.OK)
	got, code = impl.ForgetLabels(flag(t, 2, "graph 3 0-1 0-2"), 1)
	checkFlag(t, "ForgetLabels but one", got, code, flag(t, 1, "graph 3 0-1 0-2"), impl.OK)
	for _, bad := range badFlags() {
		for _, keep := range []int64{-1, 0, 1, 9} {
			got, code := impl.ForgetLabels(bad, keep)
			checkFlag(t, fmt.Sprint("ForgetLabels ", bad, keep), got, code, impl.Flag{}, impl.ErrInvalid)
		}
	}
}

// unlabelledLists returns all lists of different unlabelled vertices of a flag.
func unlabelledLists(f impl.Flag) [][]int64 {
	var lists [][]int64
	for k := range f.Graph.N - f.Labels + 1 {
		for _, list := range listsWithout(f.Graph.N, k) {
			if !slices.ContainsFunc(list, func(v int64) bool { return v < f.Labels }) {
				lists = append(lists, list)
			}
		}
	}
	return lists
}

func TestPartsOfFlags(t *testing.T) {
	for _, f := range flagsUpTo(5) {
		if f.Graph.N == 5 && f.Graph.Edges%67 != 3 {
			continue
		}
		for _, list := range unlabelledLists(f) {
			got, code := impl.PartOfFlag(f, list)
			want := leastFlagOf(impl.Flag{Labels: f.Labels, Graph: graphOn(f.Graph, append(upTo(f.Labels), list...))})
			checkFlag(t, fmt.Sprint("PartOfFlag ", f, list), got, code, want, impl.OK)
		}
	}
	got, code := impl.PartOfFlag(flag(t, 2, "graph 5 0-1 1-2 0-4 3-4"), []int64{4, 3})
	checkFlag(t, "PartOfFlag on 4 and 3", got, code, flag(t, 2, "graph 4 0-1 0-2 2-3"), impl.OK)
	got, code = impl.PartOfFlag(flag(t, 2, "graph 5 0-1 1-2 0-4 3-4"), nil)
	checkFlag(t, "PartOfFlag on the labels", got, code, flag(t, 2, "graph 2 0-1"), impl.OK)
}

func TestPartsOfFlagsRefuse(t *testing.T) {
	for _, f := range []impl.Flag{{}, flag(t, 0, "graph 3 0-1"), flag(t, 1, "graph 1"), flag(t, 1, "graph 4 0-1"), flag(t, 2, "graph 5 0-4"), flag(t, 3, "graph 3 0-1"), flag(t, 3, "graph 5 0-1")} {
		last := f.Graph.N - 1
		for _, list := range [][]int64{{-1}, {f.Graph.N}, {f.Labels - 1}, {last, last}, {last, f.Labels - 1}, {last, f.Graph.N}, {last, last - 1, last}, {last, -1}, {1 << 62}, {-1 << 63}, {last, 1<<63 - 1}, {5, 4, 3, 2, 1, 0}} {
			got, code := impl.PartOfFlag(f, list)
			checkFlag(t, fmt.Sprint("PartOfFlag ", f, list), got, code, impl.Flag{}, impl.ErrRange)
		}
	}
	for _, bad := range badFlags() {
		for _, list := range [][]int64{nil, {0}, {4}, {-1}, {2, 2}} {
			got, code := impl.PartOfFlag(bad, list)
			checkFlag(t, fmt.Sprint("PartOfFlag ", bad, list), got, code, impl.Flag{}, impl.ErrInvalid)
		}
	}
}

func TestLabelingsOfInvalidFlags(t *testing.T) {
	for _, bad := range badFlags() {
		if got, code := impl.CountLabelings(bad); code != impl.ErrInvalid || got != 0 {
			t.Errorf("CountLabelings %v: %d, code %d, want ErrInvalid", bad, got, code)
		}
	}
}
