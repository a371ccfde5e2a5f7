package tests

import (
	"fmt"
	"slices"
	"testing"

	"loop.example/g01169/impl"
)

// Promise 14, its first half: what a free pattern makes is free.

// wantFirst returns the first map of h to parts with weights, and the code.
func wantFirst(p impl.Pattern, h impl.Graph) ([]int64, int64) {
	for _, list := range mapsTo(p.Graph.N, h.N) {
		good := true
		for i, part := range list {
			good = good && p.Weights[part].P > 0
			for j := range i {
				good = good && (meet(p, part, list[j]) || !hasBit(h, int64(i), int64(j)))
			}
		}
		if good {
			return list, impl.OK
		}
	}
	return nil, impl.ErrNotFound
}

// checkFirst holds FirstMapOf and IsPatternFree of one graph against all maps,
// and returns the map.
func checkFirst(t *testing.T, p impl.Pattern, h impl.Graph) []int64 {
	t.Helper()
	want, wantCode := wantFirst(p, h)
	list, code := impl.FirstMapOf(p, h)
	if code != wantCode || !slices.Equal(list, want) {
		t.Fatalf("FirstMapOf %v, %v: %v, code %d, want %v, code %d", p, h, list, code, want, wantCode)
	}
	free, code := impl.IsPatternFree(p, []impl.Graph{h})
	if code != impl.OK || free != (wantCode == impl.ErrNotFound) {
		t.Fatalf("IsPatternFree %v, %v: %t, code %d", p, h, free, code)
	}
	return list
}

// The parts with the weight 0 are all that weights have to do with maps.
func TestFirstMaps(t *testing.T) {
	random := seeded(93)
	for round, s := range shapesUpTo(4) {
		p := s.with(someWeights(random, s.graph.N, []int64{1, 2, 3, 5, 1000000000}[round%5]))
		for n := range int64(4) {
			for _, h := range everyGraph(n) {
				checkFirst(t, p, h)
			}
		}
		all := slices.Concat(everyGraph(4), everyGraph(5))
		for range 12 {
			checkFirst(t, p, all[random.IntN(len(all))])
		}
	}
}

func TestMapsThatAreWrittenOut(t *testing.T) {
	none := []int64{9}
	for _, c := range []struct {
		edges   string
		loops   uint32
		weights string
		h       string
		want    []int64
	}{
		{"2 0-1", 0, "1/2 1/2", "3 0-1 1-2", []int64{0, 1, 0}}, {"2 0-1", 0, "1/2 1/2", "3 0-1 0-2", []int64{0, 1, 1}}, {"2 0-1", 0, "1/2 1/2", "3 0-1 0-2 1-2", none}, {"2 0-1", 2, "1/2 1/2", "3 0-1 0-2 1-2", []int64{0, 1, 1}}, {"2 0-1", 1, "1/2 1/2", "3 0-1 0-2 1-2", []int64{0, 0, 0}}, {"2", 2, "1/2 1/2", "3 0-1 0-2 1-2", []int64{1, 1, 1}},
		// Vertices that are not joined may lie in parts that are.
		{"2 0-1", 0, "1/2 1/2", "3", []int64{0, 0, 0}}, {"1", 1, "1", "5", []int64{0, 0, 0, 0, 0}}, {"2", 2, "1/2 1/2", "3 1-2", []int64{0, 1, 1}}, {"2", 2, "0 1", "3 1-2", []int64{1, 1, 1}}, {"2", 2, "1 0", "3 1-2", none}, {"2 0-1", 0, "0 1", "2 0-1", none}, {"2 0-1", 0, "0 1", "2", []int64{1, 1}}, {"3 0-1 0-2 1-2", 0, "1/2 0 1/2", "2 0-1", []int64{0, 2}}, {"3 0-1 0-2 1-2", 0, "1/2 0 1/2", "3 0-1 0-2 1-2", none}, {"3 0-1 0-2 1-2", 0, "1/1000000000 999999999/1000000000 0", "2 0-1", []int64{0, 1}},
		{"1", 0, "1", "0", []int64{}}, {"2", 0, "0 1", "0", []int64{}}, {"1", 0, "1", "1", []int64{0}}, {"4", 0, "0 0 0 1", "1", []int64{3}}, {"4 0-1 1-2 0-3 2-3", 0, "1/4 1/4 1/4 1/4", "5 0-1 1-2 2-3 0-4 3-4", none}, {"4 0-1 1-2 0-3 2-3", 8, "1/4 1/4 1/4 1/4", "5 0-1 1-2 2-3 0-4 3-4", []int64{0, 1, 0, 3, 3}}, {"4 0-1 1-2 0-3 2-3", 8, "1/4 1/4 1/2 0", "5 0-1 1-2 2-3 0-4 3-4", none},
	} {
		p, h := pattern(t, c.edges, c.loops, c.weights), graph(t, c.h)
		list := checkFirst(t, p, h)
		if slices.Equal(c.want, none) {
			c.want = nil
		}
		if !slices.Equal(list, c.want) {
			t.Errorf("FirstMapOf %v, %v: %v, want %v", p, h, list, c.want)
		}
	}
}

// sizesOf returns how many vertices a map takes to each of some parts.
func sizesOf(list []int64, parts int64) []int64 {
	sizes := make([]int64, parts)
	for _, part := range list {
		sizes[part]++
	}
	return sizes
}

// checkBlownUp fails unless all that a free pattern makes is free, and one of the
// graphs that another one makes is not.
func checkBlownUp(t *testing.T, p impl.Pattern, forbidden []impl.Graph) bool {
	t.Helper()
	free, code := impl.IsPatternFree(p, forbidden)
	if code != impl.OK {
		t.Fatalf("IsPatternFree %v, %v: code %d", p, forbidden, code)
	}
	if !free {
		i := slices.IndexFunc(forbidden, func(h impl.Graph) bool { return len(checkFirst(t, p, h)) > 0 || h.N == 0 })
		if i < 0 {
			t.Fatalf("IsPatternFree %v, %v: no map", p, forbidden)
		}
		list, _ := impl.FirstMapOf(p, forbidden[i])
		g := made(t)(impl.BlowUp(p, sizesOf(list, p.Graph.N)))
		if !contains(g, forbidden[i]) {
			t.Fatalf("%v makes %v by %v, but not %v", p, g, list, forbidden[i])
		}
		return false
	}
	for _, h := range forbidden {
		checkFirst(t, p, h)
	}
	for _, list := range mapsTo(p.Graph.N, 5) {
		if slices.ContainsFunc(list, func(part int64) bool { return p.Weights[part].P == 0 }) || !slices.IsSorted(list) {
			continue
		}
		g := made(t)(impl.BlowUp(p, sizesOf(list, p.Graph.N)))
		for _, h := range forbidden {
			if contains(g, h) {
				t.Fatalf("%v is free of %v, but makes %v", p, h, g)
			}
		}
	}
	return true
}

func TestWhatFreePatternsMakeIsFree(t *testing.T) {
	random := seeded(94)
	lists, free, not := forbiddenLists(t), 0, 0
	for round, s := range shapesUpTo(4) {
		p := s.with(someWeights(random, s.graph.N, []int64{1, 2, 3, 12}[round%4]))
		for i, forbidden := range lists {
			if s.graph.N == 4 && i%8 != round%8 {
				continue
			}
			if checkBlownUp(t, p, forbidden) {
				free++
			} else {
				not++
			}
		}
	}
	if free < 300 || not < 300 {
		t.Errorf("%d patterns are free, and %d are not", free, not)
	}
}

// Graphs with a forbidden part have no density in a free pattern.
func TestGraphsThatAreNotFreeHaveNoDensity(t *testing.T) {
	random := seeded(95)
	count := 0
	for range 250 {
		p := somePattern(random, 4, 1+random.Int64N(5))
		for n := range int64(5) {
			for _, part := range freeOf(n, nil) {
				if free, _ := impl.IsPatternFree(p, []impl.Graph{part}); !free {
					continue
				}
				for _, h := range freeOf(4, nil) {
					if contains(h, part) {
						count++
						checkFraction(t, fmt.Sprint("density of ", h, " in ", p), mustDensity(t, p, h), impl.OK, fr("0"), impl.OK)
					}
				}
			}
		}
	}
	if count < 1000 {
		t.Errorf("only %d densities", count)
	}
}

func TestListsOfForbiddenParts(t *testing.T) {
	p := pattern(t, "2 0-1", 0, "1/2 1/2")
	triangle, edge, pentagon := graph(t, "3 0-1 0-2 1-2"), graph(t, "2 0-1"), graph(t, "5 0-1 1-2 2-3 0-4 3-4")
	for _, c := range []struct {
		forbidden []impl.Graph
		free      bool
		code      int64
	}{
		{nil, true, impl.OK}, {[]impl.Graph{triangle}, true, impl.OK}, {[]impl.Graph{triangle, pentagon}, true, impl.OK}, {[]impl.Graph{triangle, edge}, false, impl.OK}, {[]impl.Graph{edge, triangle}, false, impl.OK}, {[]impl.Graph{{}}, false, impl.OK}, {[]impl.Graph{triangle, {}}, false, impl.OK}, {[]impl.Graph{{N: 1}}, false, impl.OK}, {[]impl.Graph{{N: 5}}, false, impl.OK},
		{times(triangle, 6), true, impl.OK}, {append(times(triangle, 5), edge), false, impl.OK}, {times(triangle, 7), false, impl.ErrLimit}, {times(edge, 7), false, impl.ErrLimit},
		{append(times(edge, 6), impl.Graph{N: 6}), false, impl.ErrInvalid}, {append(times(edge, 7), impl.Graph{N: 6}), false, impl.ErrInvalid}, {[]impl.Graph{edge, {N: -1}}, false, impl.ErrInvalid},
	} {
		free, code := impl.IsPatternFree(p, c.forbidden)
		if free != c.free || code != c.code {
			t.Errorf("IsPatternFree %v, %v: %t, code %d, want %t, code %d", p, c.forbidden, free, code, c.free, c.code)
		}
	}
}

// BlowUp makes the vertices of each part, those of the first part first.
func TestBlowUps(t *testing.T) {
	random := seeded(96)
	right, refused := 0, 0
	for _, s := range shapesUpTo(4) {
		p := s.with(someWeights(random, s.graph.N, 2))
		for range 40 {
			var sizes, list []int64
			good := true
			for part := range s.graph.N + random.Int64N(3)/2 - random.Int64N(3)/2 {
				size := random.Int64N(8 - s.graph.N)
				if random.IntN(30) == 0 {
					size = -1
				}
				sizes, good = append(sizes, size), good && size >= 0
				for range size {
					list = append(list, part)
				}
			}
			g, code := impl.BlowUp(p, sizes)
			if len(sizes) != int(s.graph.N) || !good || len(list) > 5 {
				refused++
				isRefused(t, fmt.Sprint("BlowUp ", p, sizes), g == impl.Graph{}, code, impl.ErrRange)
				continue
			}
			right++
			if want := graphFrom(p, list); g != want || code != impl.OK {
				t.Fatalf("BlowUp %v, %v: %v, code %d, want %v", p, sizes, g, code, want)
			}
		}
	}
	if right < 5000 || refused < 5000 {
		t.Errorf("%d graphs made, %d refused", right, refused)
	}
}

func TestBlowUpsThatAreWrittenOut(t *testing.T) {
	const ok, outside = impl.OK, impl.ErrRange
	for _, c := range []struct {
		edges string
		loops uint32
		sizes []int64
		want  string
		code  int64
	}{
		{"2 0-1", 0, []int64{2, 1}, "3 0-2 1-2", ok}, {"2 0-1", 0, []int64{1, 2}, "3 0-1 0-2", ok}, {"2 0-1", 1, []int64{2, 1}, "3 0-1 0-2 1-2", ok}, {"2 0-1", 2, []int64{2, 1}, "3 0-2 1-2", ok}, {"2", 1, []int64{3, 2}, "5 0-1 0-2 1-2", ok}, {"2", 2, []int64{3, 2}, "5 3-4", ok}, {"2 0-1", 2, []int64{0, 5}, "5 0-1 0-2 1-2 0-3 1-3 2-3 0-4 1-4 2-4 3-4", ok}, {"2 0-1", 2, []int64{5, 0}, "5", ok}, {"2 0-1", 0, []int64{0, 0}, "0", ok}, {"1", 1, []int64{0}, "0", ok}, {"4 0-1 1-2 0-3 2-3", 0, []int64{1, 1, 1, 2}, "5 0-1 1-2 0-3 2-3 0-4 2-4", ok}, {"4 0-1 1-2 0-3 2-3", 8, []int64{1, 1, 1, 2}, "5 0-1 1-2 0-3 2-3 0-4 2-4 3-4", ok},
		{"2 0-1", 0, []int64{3, 3}, "0", outside}, {"2 0-1", 0, []int64{6, 0}, "0", outside}, {"2 0-1", 0, []int64{0, 6}, "0", outside}, {"2 0-1", 0, []int64{6, -1}, "0", outside}, {"2 0-1", 0, []int64{-1, 6}, "0", outside}, {"2 0-1", 0, []int64{-1, 1}, "0", outside}, {"2 0-1", 0, []int64{1, -1}, "0", outside}, {"2 0-1", 0, nil, "0", outside}, {"2 0-1", 0, []int64{1}, "0", outside}, {"2 0-1", 0, []int64{1, 1, 0}, "0", outside}, {"1", 0, nil, "0", outside}, {"1", 0, []int64{0, 0}, "0", outside}, {"4", 0, []int64{2, 2, 1, 1}, "0", outside},
		// Sums of sizes that are beyond all numbers.
		{"2 0-1", 0, []int64{1<<63 - 1, 1<<63 - 1}, "0", outside}, {"2 0-1", 0, []int64{1<<63 - 1, 3}, "0", outside}, {"4", 0, []int64{1 << 62, 1 << 62, 1 << 62, 1 << 62}, "0", outside}, {"2 0-1", 0, []int64{-1 << 63, -1 << 63}, "0", outside}, {"2 0-1", 0, []int64{-1 << 63, 1<<63 - 1}, "0", outside}, {"2 0-1", 0, []int64{5, 1<<63 - 5}, "0", outside}, {"2 0-1", 0, []int64{1 << 32, 0}, "0", outside},
	} {
		p, code := impl.EvenPattern(graph(t, c.edges), c.loops)
		if code != ok {
			t.Fatalf("EvenPattern %v: code %d", c, code)
		}
		if g, code := impl.BlowUp(p, c.sizes); g != graph(t, c.want) || code != c.code {
			t.Errorf("BlowUp %v, %v: %v, code %d, want %s, code %d", p, c.sizes, g, code, c.want, c.code)
		}
	}
}
