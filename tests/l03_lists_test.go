package tests

import (
	"fmt"
	"slices"
	"testing"

	"loop.example/g01169/impl"
)

// Promise 6: all flags of a type and a size are listed once, the least of those
// that are alike.

func TestAllTypes(t *testing.T) {
	for _, forbidden := range forbiddenLists(t) {
		for k := range int64(4) {
			var want []impl.Graph
			for _, typ := range everyGraph(k) {
				if !slices.ContainsFunc(forbidden, func(h impl.Graph) bool { return contains(typ, h) }) {
					want = append(want, typ)
				}
			}
			if got, code := impl.AllTypes(k, forbidden); code != impl.OK || !slices.Equal(got, want) {
				t.Errorf("AllTypes %d %v: %v, code %d, want %v", k, forbidden, got, code, want)
			}
		}
	}
	for k, want := range []int{1, 1, 2, 8} {
		if got, code := impl.AllTypes(int64(k), nil); code != impl.OK || len(got) != want {
			t.Errorf("AllTypes %d: %v, code %d, want %d types, also those that are alike as graphs", k, got, code, want)
		}
	}
}

func TestAllTypesRefuses(t *testing.T) {
	many := times(impl.Graph{N: 3, Edges: 7}, impl.MaxForbidden+1)
	for _, k := range []int64{-1 << 63, -1, 4, 5, 6, 1<<63 - 1} {
		for _, forbidden := range [][]impl.Graph{nil, {}, {{N: 3, Edges: 7}}, many[:impl.MaxForbidden]} {
			checkTypesCode(t, k, forbidden, impl.ErrRange)
		}
	}
	for _, k := range []int64{-1, 0, 3, 4} {
		checkTypesCode(t, k, many, impl.ErrLimit)
		for _, bad := range badGraphs() {
			checkTypesCode(t, k, []impl.Graph{bad}, impl.ErrInvalid)
			checkTypesCode(t, k, []impl.Graph{{N: 2}, {}, bad}, impl.ErrInvalid)
			checkTypesCode(t, k, append(slices.Clone(many), bad), impl.ErrInvalid)
		}
	}
}

func checkTypesCode(t *testing.T, k int64, forbidden []impl.Graph, want int64) {
	t.Helper()
	if got, code := impl.AllTypes(k, forbidden); code != want || len(got) > 0 {
		t.Errorf("AllTypes %d %v: %v, code %d, want code %d", k, forbidden, got, code, want)
	}
}

// All types, all sizes and many lists of forbidden parts, held against a walk
// through all graphs.
func TestAllFlags(t *testing.T) {
	for _, typ := range everyType() {
		for n := typ.N; n <= 5; n++ {
			flags := leastFlagsOf(typ, n)
			for _, forbidden := range forbiddenLists(t) {
				want, wantCode := withoutParts(flags, forbidden), int64(impl.OK)
				if len(want) > 64 {
					want, wantCode = nil, impl.ErrLimit
				}
				got, code := impl.AllFlags(typ, n, forbidden)
				checkFlags(t, fmt.Sprint("AllFlags ", typ, n, forbidden), got, code, want, wantCode)
			}
		}
	}
}

// The numbers are written out here, so that the walk above cannot go wrong
// together with the program.
func TestNumbersOfFlags(t *testing.T) {
	rows := []struct {
		typ    impl.Graph
		counts []int
	}{
		{impl.Graph{}, []int{1, 1, 2, 4, 11, 34}},
		{impl.Graph{N: 1}, []int{1, 2, 6, 20, 90}},
		{impl.Graph{N: 2}, []int{1, 4, 20, 120}},
		{impl.Graph{N: 2, Edges: 1}, []int{1, 4, 20, 120}},
		{impl.Graph{N: 3}, []int{1, 8, 72}},
		{impl.Graph{N: 3, Edges: 5}, []int{1, 8, 72}},
		{impl.Graph{N: 3, Edges: 7}, []int{1, 8, 72}},
	}
	for _, row := range rows {
		for more, want := range row.counts {
			got, code := impl.AllFlags(row.typ, row.typ.N+int64(more), nil)
			if want > impl.MaxFlags {
				checkFlags(t, fmt.Sprint("AllFlags ", row.typ, " and more ", more), got, code, nil, impl.ErrLimit)
			} else if len(got) != want || code != impl.OK {
				t.Errorf("AllFlags %v and %d more: %d flags, code %d, want %d", row.typ, more, len(got), code, want)
			}
		}
	}
}

// Lists of just MaxFlags flags, and of one less or more, that remain of more
// when parts are forbidden.
func TestAllFlagsUpToTheirLimit(t *testing.T) {
	star, path := graph(t, "5 0-1 0-2 0-3 0-4"), graph(t, "5 0-2 1-2 1-3 0-4")
	for _, c := range []struct {
		typ       impl.Graph
		forbidden []impl.Graph
		count     int
	}{
		{impl.Graph{N: 1}, []impl.Graph{star}, 63},
		{impl.Graph{N: 1}, []impl.Graph{graph(t, "5 0-1 0-2 1-2 0-3 1-3 0-4"), graph(t, "5 0-1 1-2 0-3 2-3 0-4 1-4")}, 64},
		{impl.Graph{N: 1}, []impl.Graph{graph(t, "5 0-1 0-2 1-2 0-3 0-4")}, 65},
		{impl.Graph{N: 2}, []impl.Graph{path}, 64},
		{impl.Graph{N: 2, Edges: 1}, []impl.Graph{graph(t, "4 0-1 0-2 1-2 0-3 1-3"), graph(t, "5 0-1 0-2 0-3 2-3 0-4 1-4")}, 65},
		{impl.Graph{N: 3, Edges: 1}, []impl.Graph{star}, 64},
		{impl.Graph{N: 3, Edges: 4}, []impl.Graph{star}, 64},
		{impl.Graph{N: 3}, []impl.Graph{graph(t, "4 0-1 0-2 1-2 0-3 1-3")}, 65},
	} {
		got, code := impl.AllFlags(c.typ, 5, c.forbidden)
		if c.count > 64 {
			checkFlags(t, fmt.Sprint("AllFlags ", c.typ, 5, c.forbidden), got, code, nil, impl.ErrLimit)
		} else if len(got) != c.count || code != impl.OK {
			t.Errorf("AllFlags %v 5 %v: %d flags, code %d, want %d", c.typ, c.forbidden, len(got), code, c.count)
		}
	}
}

func TestAllFlagsOfTypesWithForbiddenParts(t *testing.T) {
	triangle := impl.Graph{N: 3, Edges: 7}
	for n := int64(3); n <= 5; n++ {
		got, code := impl.AllFlags(triangle, n, []impl.Graph{triangle})
		checkFlags(t, fmt.Sprint("AllFlags of the forbidden type ", n), got, code, nil, impl.OK)
	}
	got, code := impl.AllFlags(impl.Graph{}, 0, []impl.Graph{{}})
	checkFlags(t, "AllFlags without vertices, which is forbidden", got, code, nil, impl.OK)
	got, code = impl.AllFlags(triangle, 3, []impl.Graph{{N: 4}})
	checkFlags(t, "AllFlags of the size of the type", got, code, []impl.Flag{{Labels: 3, Graph: triangle}}, impl.OK)
}

func TestAllFlagsRefuses(t *testing.T) {
	many := times(impl.Graph{N: 2, Edges: 1}, impl.MaxForbidden+1)
	check := func(typ impl.Graph, n int64, forbidden []impl.Graph, want int64) {
		t.Helper()
		got, code := impl.AllFlags(typ, n, forbidden)
		checkFlags(t, fmt.Sprint("AllFlags ", typ, n, forbidden), got, code, nil, want)
	}
	ranges := []struct {
		typ impl.Graph
		n   int64
	}{
		{impl.Graph{N: 4}, 4}, {impl.Graph{N: 4}, 5}, {impl.Graph{N: 4, Edges: 63}, 3}, {impl.Graph{N: 5}, 5}, {impl.Graph{N: 5, Edges: 1023}, 6},
		{impl.Graph{}, -1}, {impl.Graph{}, 6}, {impl.Graph{N: 1}, 0}, {impl.Graph{N: 3, Edges: 5}, 2}, {impl.Graph{N: 3}, 6}, {impl.Graph{N: 2}, -1 << 63}, {impl.Graph{N: 2}, 1<<63 - 1},
	}
	for _, r := range ranges {
		for _, forbidden := range [][]impl.Graph{nil, {{N: 2, Edges: 1}}, {{}}, many[:impl.MaxForbidden]} {
			check(r.typ, r.n, forbidden, impl.ErrRange)
		}
		check(r.typ, r.n, many, impl.ErrLimit)
		check(r.typ, r.n, append(slices.Clone(many), impl.Graph{N: 6}), impl.ErrInvalid)
		check(r.typ, r.n, []impl.Graph{{}, {N: 2, Edges: 2}}, impl.ErrInvalid)
	}
	check(impl.Graph{N: 1}, 2, many, impl.ErrLimit)
	for _, bad := range badGraphs() {
		for _, n := range []int64{-1, 0, 3, 6} {
			check(bad, n, nil, impl.ErrInvalid)
			check(bad, n, many, impl.ErrInvalid)
			check(impl.Graph{N: 1}, n, []impl.Graph{{N: 1}, bad}, impl.ErrInvalid)
		}
	}
}

// extensions returns those of some flags with one vertex more that become alike
// f when an unlabelled vertex is left away.
func extensions(f impl.Flag, larger []impl.Flag) []impl.Flag {
	same := turned(f)
	var list []impl.Flag
	for _, g := range larger {
		for left := g.Labels; left < g.Graph.N; left++ {
			rest := slices.DeleteFunc(upTo(g.Graph.N), func(v int64) bool { return v == left })
			if same[impl.Flag{Labels: g.Labels, Graph: graphOn(g.Graph, rest)}] > 0 {
				list = append(list, g)
				break
			}
		}
	}
	return list
}

// All flags with fewer than MaxVertices vertices, least or not, of each type.
func TestExtensions(t *testing.T) {
	for _, typ := range everyType() {
		for n := typ.N; n < 5; n++ {
			larger := leastFlagsOf(typ, n+1)
			for _, f := range everyFlag(n) {
				if f.Labels == typ.N && graphOn(f.Graph, upTo(typ.N)) == typ {
					got, code := impl.ExtensionsOf(f, nil)
					checkFlags(t, fmt.Sprint("ExtensionsOf ", f), got, code, extensions(f, larger), impl.OK)
				}
			}
		}
	}
}

func TestExtensionsWithoutParts(t *testing.T) {
	for _, typ := range []impl.Graph{{}, {N: 1}, {N: 2, Edges: 1}, {N: 3, Edges: 5}} {
		for n := typ.N; n < 5; n++ {
			larger := leastFlagsOf(typ, n+1)
			for _, forbidden := range forbiddenLists(t) {
				free := withoutParts(larger, forbidden)
				for _, f := range leastFlagsOf(typ, n) {
					got, code := impl.ExtensionsOf(f, forbidden)
					checkFlags(t, fmt.Sprint("ExtensionsOf ", f, forbidden), got, code, extensions(f, free), impl.OK)
				}
			}
		}
	}
}

func TestKnownExtensions(t *testing.T) {
	dot := impl.Graph{N: 1}
	got, code := impl.ExtensionsOf(impl.Flag{}, nil)
	checkFlags(t, "ExtensionsOf nothing", got, code, []impl.Flag{{Graph: dot}}, impl.OK)
	got, code = impl.ExtensionsOf(impl.Flag{Labels: 1, Graph: dot}, []impl.Graph{})
	checkFlags(t, "ExtensionsOf a label", got, code, []impl.Flag{flag(t, 1, "graph 2"), flag(t, 1, "graph 2 0-1")}, impl.OK)
	// A labelled vertex stays: an edge of two labels is in each extension.
	got, code = impl.ExtensionsOf(flag(t, 2, "graph 2 0-1"), []impl.Graph{{N: 3, Edges: 7}})
	checkFlags(t, "ExtensionsOf two labels", got, code, []impl.Flag{flag(t, 2, "graph 3 0-1"), flag(t, 2, "graph 3 0-1 0-2"), flag(t, 2, "graph 3 0-1 1-2")}, impl.OK)
	// A flag that has a forbidden part has no extension without it.
	got, code = impl.ExtensionsOf(flag(t, 1, "graph 3 0-1 0-2 1-2"), []impl.Graph{{N: 3, Edges: 7}})
	checkFlags(t, "ExtensionsOf a triangle, which is forbidden", got, code, nil, impl.OK)
	// There are more than MaxFlags flags with one label and five vertices, but
	// fewer extensions.
	got, code = impl.ExtensionsOf(flag(t, 1, "graph 4 0-1 1-2 2-3"), nil)
	if len(got) != 16 || code != impl.OK {
		t.Errorf("ExtensionsOf a path with a label at its end: %d flags, code %d, want 16", len(got), code)
	}
}

func TestExtensionsRefuse(t *testing.T) {
	many := times(impl.Graph{N: 2, Edges: 1}, impl.MaxForbidden+1)
	check := func(f impl.Flag, forbidden []impl.Graph, want int64) {
		t.Helper()
		got, code := impl.ExtensionsOf(f, forbidden)
		checkFlags(t, fmt.Sprint("ExtensionsOf ", f, forbidden), got, code, nil, want)
	}
	for _, f := range []impl.Flag{{Graph: impl.Graph{N: 5}}, {Labels: 1, Graph: impl.Graph{N: 5, Edges: 1023}}, {Labels: 3, Graph: impl.Graph{N: 5, Edges: 77}}} {
		for _, forbidden := range [][]impl.Graph{nil, {}, {{}}, {{N: 2, Edges: 1}}, many[:impl.MaxForbidden]} {
			check(f, forbidden, impl.ErrRange)
		}
	}
	for _, f := range []impl.Flag{{}, {Labels: 1, Graph: impl.Graph{N: 4}}, {Labels: 1, Graph: impl.Graph{N: 5}}} {
		check(f, many, impl.ErrLimit)
		for _, bad := range badGraphs() {
			check(f, []impl.Graph{bad}, impl.ErrInvalid)
			check(f, append(slices.Clone(many), bad), impl.ErrInvalid)
		}
	}
	for _, bad := range badFlags() {
		for _, forbidden := range [][]impl.Graph{nil, {{N: 3, Edges: 7}}, many, {{N: -1}}} {
			check(bad, forbidden, impl.ErrInvalid)
		}
	}
}
