package tests

import (
	"slices"
	"testing"

	"loop.example/g01169/impl"
)

// Promise 2, the first half: graphs are made of their pairs again.

func TestCodeNames(t *testing.T) {
	names := []string{"ok", "invalid", "range", "limit", "state", "syntax", "notfound", "budget", "proof"}
	codes := []int64{impl.OK, impl.ErrInvalid, impl.ErrRange, impl.ErrLimit, impl.ErrState, impl.ErrSyntax, impl.ErrNotFound, impl.ErrBudget, impl.ErrProof}
	for i, name := range names {
		if codes[i] != int64(i) || impl.CodeName(int64(i)) != name {
			t.Errorf("code %d is %d with the name %q, want %q", i, codes[i], impl.CodeName(int64(i)), name)
		}
	}
	for _, code := range []int64{-1, 9, 256, 1 << 32, -1 << 63, 1<<63 - 1} {
		if got := impl.CodeName(code); got != "" {
			t.Errorf("CodeName %d is %q, want none", code, got)
		}
	}
}

func TestLimits(t *testing.T) {
	if impl.MaxVertices != 5 || impl.MaxForbidden != 6 {
		t.Errorf("MaxVertices %d and MaxForbidden %d, want 5 and 6", impl.MaxVertices, impl.MaxForbidden)
	}
}

func TestValidGraphs(t *testing.T) {
	for _, g := range graphsUpTo(5) {
		if !impl.ValidGraph(g) {
			t.Errorf("%v is not valid", g)
		}
	}
	for _, g := range badGraphs() {
		if impl.ValidGraph(g) {
			t.Errorf("%v is valid", g)
		}
	}
	for n := range int64(6) {
		for bit := bitsOf(n); bit < 32; bit++ {
			if g := (impl.Graph{N: n, Edges: 1 << bit}); impl.ValidGraph(g) {
				t.Errorf("%v is valid", g)
			}
		}
	}
}

func TestOrderOfBits(t *testing.T) {
	pairs := [][2]int64{{0, 1}, {0, 2}, {1, 2}, {0, 3}, {1, 3}, {2, 3}, {0, 4}, {1, 4}, {2, 4}, {3, 4}}
	for bit, pair := range pairs {
		for _, p := range [][2]int64{pair, {pair[1], pair[0]}} {
			g := mustGraph(t, 5, p)
			if want := (impl.Graph{N: 5, Edges: 1 << bit}); g != want {
				t.Errorf("GraphOf 5 %v is %v, want %v", p, g, want)
			}
		}
	}
	all, code := impl.PairsOf(impl.Graph{N: 5, Edges: 1023})
	if code != impl.OK || !slices.Equal(all, pairs) {
		t.Errorf("PairsOf the complete graph: %v, code %d, want %v", all, code, pairs)
	}
}

func TestPairsMakeTheirGraphAgain(t *testing.T) {
	for _, g := range graphsUpTo(5) {
		pairs, code := impl.PairsOf(g)
		if code != impl.OK {
			t.Fatalf("PairsOf %v: code %d", g, code)
		}
		for i, pair := range pairs {
			if pair[0] >= pair[1] || !hasBit(g, pair[0], pair[1]) {
				t.Fatalf("PairsOf %v has %v", g, pair)
			}
			if i > 0 && bitOf(pairs[i-1][0], pairs[i-1][1]) >= bitOf(pair[0], pair[1]) {
				t.Fatalf("PairsOf %v is not in the order of the bits: %v", g, pairs)
			}
		}
		var turned [][2]int64
		for _, pair := range slices.Backward(pairs) {
			turned = append(turned, [2]int64{pair[1], pair[0]}, pair)
		}
		for _, list := range [][][2]int64{pairs, turned} {
			if again, code := impl.GraphOf(g.N, list); code != impl.OK || again != g {
				t.Fatalf("GraphOf %d %v is %v, code %d, want %v", g.N, list, again, code, g)
			}
		}
	}
}

func TestGraphOfRefuses(t *testing.T) {
	last := int64(impl.MaxVertices - 1)
	bad := []struct {
		n     int64
		pairs [][2]int64
	}{
		{-1, nil}, {6, nil}, {-1 << 63, nil}, {1<<63 - 1, nil}, {6, [][2]int64{{0, 1}}},
		{0, [][2]int64{{0, 1}}}, {0, [][2]int64{{0, 0}}}, {1, [][2]int64{{0, 0}}}, {1, [][2]int64{{0, 1}}},
		{3, [][2]int64{{1, 1}}}, {3, [][2]int64{{0, 3}}}, {3, [][2]int64{{3, 0}}}, {3, [][2]int64{{-1, 0}}}, {3, [][2]int64{{0, -1}}},
		{3, [][2]int64{{0, 1}, {1, 2}, {2, 2}}}, {5, [][2]int64{{last, last + 1}}}, {5, [][2]int64{{-1 << 63, 1<<63 - 1}}},
	}
	for _, b := range bad {
		if g, code := impl.GraphOf(b.n, b.pairs); code != impl.ErrRange || g != (impl.Graph{}) {
			t.Errorf("GraphOf %d %v: %v, code %d, want ErrRange", b.n, b.pairs, g, code)
		}
	}
	if g := mustGraph(t, 5, [2]int64{last, last - 1}); g.Edges != 512 {
		t.Errorf("the last pair makes %v", g)
	}
	if g := mustGraph(t, 0); g != (impl.Graph{}) {
		t.Errorf("no vertices make %v", g)
	}
}

func TestEdges(t *testing.T) {
	for _, g := range graphsUpTo(4) {
		for i := int64(-2); i < 7; i++ {
			for j := int64(-2); j < 7; j++ {
				checkEdge(t, g, i, j)
			}
		}
	}
	checkEdge(t, impl.Graph{N: 5, Edges: 1023}, 1<<63-1, 0)
	checkEdge(t, impl.Graph{N: 5, Edges: 1023}, 4, -1<<63)
	for _, g := range badGraphs() {
		if on, code := impl.HasEdge(g, 0, 0); on || code != impl.ErrInvalid {
			t.Errorf("HasEdge of %v: %v, code %d", g, on, code)
		}
		if h, code := impl.WithEdge(g, -1, 9, true); code != impl.ErrInvalid || h != (impl.Graph{}) {
			t.Errorf("WithEdge of %v: %v, code %d", g, h, code)
		}
	}
}

func checkEdge(t *testing.T, g impl.Graph, i, j int64) {
	t.Helper()
	has, one := impl.HasEdge(g, i, j)
	on, two := impl.WithEdge(g, i, j, true)
	off, three := impl.WithEdge(g, i, j, false)
	if i == j || i < 0 || j < 0 || i >= g.N || j >= g.N {
		if has || on != (impl.Graph{}) || off != on || one != impl.ErrRange || two != impl.ErrRange || three != impl.ErrRange {
			t.Errorf("%v with %d and %d: %v %v %v, codes %d %d %d, want ErrRange", g, i, j, has, on, off, one, two, three)
		}
		return
	}
	bit := bitOf(i, j)
	if one != impl.OK || has != (g.Edges&bit != 0) {
		t.Errorf("HasEdge %v %d %d: %v, code %d", g, i, j, has, one)
	}
	if two != impl.OK || three != impl.OK || on != (impl.Graph{N: g.N, Edges: g.Edges | bit}) || off != (impl.Graph{N: g.N, Edges: g.Edges &^ bit}) {
		t.Errorf("WithEdge %v %d %d: %v and %v, codes %d %d", g, i, j, on, off, two, three)
	}
}

func TestKnownGraphs(t *testing.T) {
	for n := range int64(6) {
		complete, path, star := impl.Graph{N: n}, impl.Graph{N: n}, impl.Graph{N: n}
		for j := range n {
			for i := range j {
				complete.Edges += bitOf(i, j)
			}
			if j > 0 {
				path.Edges += bitOf(j-1, j)
				star.Edges += bitOf(0, j)
			}
		}
		if got := made(t)(impl.CompleteGraph(n)); got != complete {
			t.Errorf("CompleteGraph %d is %v", n, got)
		}
		if got := made(t)(impl.PathGraph(n)); got != path {
			t.Errorf("PathGraph %d is %v", n, got)
		}
		if got := made(t)(impl.StarGraph(n)); got != star {
			t.Errorf("StarGraph %d is %v", n, got)
		}
		if n >= 3 {
			path.Edges += bitOf(n-1, 0)
			if got := made(t)(impl.CycleGraph(n)); got != path {
				t.Errorf("CycleGraph %d is %v", n, got)
			}
		}
	}
	for _, n := range []int64{-1 << 63, -1, 6, 1<<63 - 1, 0, 1, 2} {
		for i, make := range []func(int64) (impl.Graph, int64){impl.CycleGraph, impl.CompleteGraph, impl.PathGraph, impl.StarGraph} {
			if i > 0 && n >= 0 && n < 6 {
				continue
			}
			if g, code := make(n); code != impl.ErrRange || g != (impl.Graph{}) {
				t.Errorf("known graph %d of %d: %v, code %d, want ErrRange", i, n, g, code)
			}
		}
	}
}

func TestOppositesAndDegrees(t *testing.T) {
	for _, g := range graphsUpTo(5) {
		opposite, code := impl.OppositeGraph(g)
		if want := (impl.Graph{N: g.N, Edges: 1<<bitsOf(g.N) - 1 - g.Edges}); code != impl.OK || opposite != want {
			t.Errorf("OppositeGraph %v: %v, code %d, want %v", g, opposite, code, want)
		}
		want := make([]int64, g.N)
		for i := range g.N {
			for j := range g.N {
				if i != j && hasBit(g, i, j) {
					want[i]++
				}
			}
		}
		if got, code := impl.DegreesOf(g); code != impl.OK || !slices.Equal(got, want) {
			t.Errorf("DegreesOf %v: %v, code %d, want %v", g, got, code, want)
		}
	}
}

func TestPairsOfInvalidGraphs(t *testing.T) {
	for _, g := range badGraphs() {
		if pairs, code := impl.PairsOf(g); len(pairs) > 0 || code != impl.ErrInvalid {
			t.Errorf("PairsOf %v: %v, code %d", g, pairs, code)
		}
		if h, code := impl.OppositeGraph(g); h != (impl.Graph{}) || code != impl.ErrInvalid {
			t.Errorf("OppositeGraph %v: %v, code %d", g, h, code)
		}
		if list, code := impl.DegreesOf(g); len(list) > 0 || code != impl.ErrInvalid {
			t.Errorf("DegreesOf %v: %v, code %d", g, list, code)
		}
	}
}

func TestTextsOfGraphs(t *testing.T) {
	texts := map[string]bool{}
	for _, g := range graphsUpTo(5) {
		text := impl.GraphText(g)
		if texts[text] {
			t.Errorf("%q is the text of two graphs", text)
		}
		texts[text] = true
		if again, code := impl.ReadGraph(text); code != impl.OK || again != g {
			t.Errorf("ReadGraph %q: %v, code %d, want %v", text, again, code, g)
		}
	}
	for text, g := range map[string]impl.Graph{
		"graph 0":         {},
		"graph 1":         {N: 1},
		"graph 3 0-1 1-2": {N: 3, Edges: 5},
		"graph 5 0-1 0-2 1-2 0-3 1-3 2-3 0-4 1-4 2-4 3-4": {N: 5, Edges: 1023},
	} {
		if got := impl.GraphText(g); got != text {
			t.Errorf("GraphText %v is %q, want %q", g, got, text)
		}
	}
	for _, g := range badGraphs() {
		if text := impl.GraphText(g); text != "" {
			t.Errorf("GraphText %v is %q, want none", g, text)
		}
	}
}

func TestTextsThatAreNearlyRight(t *testing.T) {
	for _, text := range []string{
		"", " ", "graph", "graph ", "graph  3", " graph 3", "graph 3 ", "graph 3\n", "\ngraph 3", "graph\t3", "Graph 3", "graphs 3", "grap 3", "3",
		"graph 03", "graph +3", "graph -0", "graph -1", "graph 6", "graph x", "graph 3.0", "graph 0x3", "graph 1_0", "graph 99999999999999999999", "graph 9223372036854775807",
		"graph 3 1-0", "graph 3 0-0", "graph 3 0-3", "graph 3 1-2 0-1", "graph 3 0-1 0-1", "graph 3 0-1  1-2", "graph 3 0-1 1-2 ", "graph 3 0-1, 1-2",
		"graph 3 0 1", "graph 3 01", "graph 3 0--1", "graph 3 -0-1", "graph 3 0-1-2", "graph 3 0-", "graph 3 -1", "graph 3 -", "graph 3 00-1", "graph 3 0-01", "graph 3 +0-1", "graph 3 0-+1",
		"graph 2 0-2", "graph 0 0-1", "graph 1 0-0", "graph 5 4-5", "graph 5 3-4 0-1", "graph 3 0–1", "graph 3 ０-1", "graph 3\x00", "graph 3 0-1\xff", "graph 3 graph 3",
	} {
		if g, code := impl.ReadGraph(text); code != impl.ErrSyntax || g != (impl.Graph{}) {
			t.Errorf("ReadGraph %q: %v, code %d, want ErrSyntax", text, g, code)
		}
	}
}

// Each text is changed by one byte: what is read then has just that text.
func TestTextsWithOneOtherByte(t *testing.T) {
	for _, text := range []string{"graph 0", "graph 3 0-1 1-2", "graph 5 0-1 2-3 1-4"} {
		for at := range len(text) {
			for b := range 256 {
				changed := text[:at] + string([]byte{byte(b)}) + text[at+1:]
				g, code := impl.ReadGraph(changed)
				if code == impl.OK && impl.GraphText(g) != changed || code != impl.OK && (code != impl.ErrSyntax || g != (impl.Graph{})) {
					t.Fatalf("ReadGraph %q: %v, code %d", changed, g, code)
				}
			}
			shorter := text[:at] + text[at+1:]
			if g, code := impl.ReadGraph(shorter); code == impl.OK && impl.GraphText(g) != shorter {
				t.Fatalf("ReadGraph %q: %v", shorter, g)
			}
		}
	}
}
