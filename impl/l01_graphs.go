package impl

import (
	"iter"
	"math/bits"
	"slices"
	"strconv"
	"strings"
)

// Codes of errors.
const (
	OK          = 0
	ErrInvalid  = 1
	ErrRange    = 2
	ErrLimit    = 3
	ErrState    = 4
	ErrSyntax   = 5
	ErrNotFound = 6
	ErrBudget   = 7
	ErrProof    = 8
)

// Limits of graphs.
const (
	MaxVertices  = 5
	MaxForbidden = 6
)

// Graph has vertices and edges.
type Graph struct {
	N     int64
	Edges uint32
}

// CodeName returns the name of an error code.
func CodeName(code int64) string {
	switch code {
	case OK:
		return "ok"
	case ErrInvalid:
		return "invalid"
	case ErrRange:
		return "range"
	case ErrLimit:
		return "limit"
	case ErrState:
		return "state"
	case ErrSyntax:
		return "syntax"
	case ErrNotFound:
		return "notfound"
	case ErrBudget:
		return "budget"
	case ErrProof:
		return "proof"
	}
	return ""
}

// isVertexCount reports whether a graph may have n vertices.
func isVertexCount(n int64) bool {
	return n >= 0 && n <= MaxVertices
}

// pairCount returns how many pairs n vertices have, which is also the number
// of the first bit of the pairs whose greater vertex is n.
func pairCount(n int64) int64 {
	return n * (n - 1) / 2
}

// allEdges returns the bits of all pairs of n vertices.
func allEdges(n int64) uint32 {
	return 1<<pairCount(n) - 1
}

// pairBit returns the bit of two different vertices, in whichever order.
func pairBit(i, j int64) uint32 {
	return 1 << (pairCount(max(i, j)) + min(i, j))
}

// isPair reports whether i and j are two different ones of n vertices.
func isPair(n, i, j int64) bool {
	return i >= 0 && i < n && j >= 0 && j < n && i != j
}

// ValidGraph reports whether a graph is valid.
func ValidGraph(g Graph) bool {
	return isVertexCount(g.N) && g.Edges&^allEdges(g.N) == 0
}

// areValidGraphs reports whether all graphs of a list are valid.
func areValidGraphs(list []Graph) bool {
	for _, g := range list {
		if !ValidGraph(g) {
			return false
		}
	}
	return true
}

// joined reports whether there is an edge between two different vertices.
func (g Graph) joined(i, j int64) bool {
	return g.Edges&pairBit(i, j) != 0
}

// apart reports whether there is no edge between two different vertices.
func (g Graph) apart(i, j int64) bool {
	return !g.joined(i, j)
}

// pairsThat yields the pairs of vertices that are as told, the lesser vertex
// first, in the order of their bits.
func pairsThat(g Graph, are func(g Graph, i, j int64) bool) iter.Seq2[int64, int64] {
	return func(yield func(i, j int64) bool) {
		for j := range g.N {
			for i := range j {
				if are(g, i, j) && !yield(i, j) {
					return
				}
			}
		}
	}
}

// edgesOf yields the pairs of all edges.
func edgesOf(g Graph) iter.Seq2[int64, int64] {
	return pairsThat(g, Graph.joined)
}

// HasEdge reports whether two vertices are joined.
func HasEdge(g Graph, i, j int64) (bool, int64) {
	if !ValidGraph(g) {
		return false, ErrInvalid
	}
	if !isPair(g.N, i, j) {
		return false, ErrRange
	}
	return g.joined(i, j), OK
}

// WithEdge returns the graph with an edge, or without it.
func WithEdge(g Graph, i, j int64, on bool) (Graph, int64) {
	if !ValidGraph(g) {
		return Graph{}, ErrInvalid
	}
	if !isPair(g.N, i, j) {
		return Graph{}, ErrRange
	}
	if on {
		g.Edges |= pairBit(i, j)
	} else {
		g.Edges &^= pairBit(i, j)
	}
	return g, OK
}

// GraphOf returns the graph with some edges.
func GraphOf(n int64, pairs [][2]int64) (Graph, int64) {
	if !isVertexCount(n) {
		return Graph{}, ErrRange
	}
	g := Graph{N: n}
	for _, pair := range pairs {
		if !isPair(n, pair[0], pair[1]) {
			return Graph{}, ErrRange
		}
		g.Edges |= pairBit(pair[0], pair[1])
	}
	return g, OK
}

// PairsOf returns the pairs of all edges.
func PairsOf(g Graph) ([][2]int64, int64) {
	if !ValidGraph(g) {
		return nil, ErrInvalid
	}
	var pairs [][2]int64
	for i, j := range edgesOf(g) {
		pairs = append(pairs, [2]int64{i, j})
	}
	return pairs, OK
}

// CompleteGraph returns the graph with all edges.
func CompleteGraph(n int64) (Graph, int64) {
	if !isVertexCount(n) {
		return Graph{}, ErrRange
	}
	return Graph{N: n, Edges: allEdges(n)}, OK
}

// CycleGraph returns a cycle.
func CycleGraph(n int64) (Graph, int64) {
	if n < 3 {
		return Graph{}, ErrRange
	}
	g, code := PathGraph(n)
	if code != OK {
		return Graph{}, code
	}
	g.Edges |= pairBit(n-1, 0)
	return g, OK
}

// PathGraph returns a path.
func PathGraph(n int64) (Graph, int64) {
	if !isVertexCount(n) {
		return Graph{}, ErrRange
	}
	g := Graph{N: n}
	for i := int64(1); i < n; i++ {
		g.Edges |= pairBit(i-1, i)
	}
	return g, OK
}

// StarGraph returns a star.
func StarGraph(n int64) (Graph, int64) {
	if !isVertexCount(n) {
		return Graph{}, ErrRange
	}
	g := Graph{N: n}
	for i := int64(1); i < n; i++ {
		g.Edges |= pairBit(0, i)
	}
	return g, OK
}

// OppositeGraph returns the graph with the other edges.
func OppositeGraph(g Graph) (Graph, int64) {
	if !ValidGraph(g) {
		return Graph{}, ErrInvalid
	}
	opposite := Graph{N: g.N}
	for i, j := range pairsThat(g, Graph.apart) {
		opposite.Edges |= pairBit(i, j)
	}
	return opposite, OK
}

// DegreesOf returns how many edges each vertex has.
func DegreesOf(g Graph) ([]int64, int64) {
	if !ValidGraph(g) {
		return nil, ErrInvalid
	}
	degrees := make([]int64, g.N)
	for i, j := range edgesOf(g) {
		degrees[i]++
		degrees[j]++
	}
	return degrees, OK
}

// areDifferent reports whether a list has only some of n vertices, each at
// most once.
func areDifferent(n int64, list []int64) bool {
	var seen [MaxVertices]bool
	for _, v := range list {
		if v < 0 || v >= n || seen[v] {
			return false
		}
		seen[v] = true
	}
	return true
}

// inducedOn returns the graph on a list of different vertices.
func inducedOn(g Graph, list []int64) Graph {
	part := Graph{N: int64(len(list))}
	for j, to := range list {
		for i, from := range list[:j] {
			if g.joined(from, to) {
				part.Edges |= pairBit(int64(i), int64(j))
			}
		}
	}
	return part
}

// RenameGraph returns the graph with its vertices in another order.
func RenameGraph(g Graph, order []int64) (Graph, int64) {
	if !ValidGraph(g) {
		return Graph{}, ErrInvalid
	}
	if int64(len(order)) != g.N || !areDifferent(g.N, order) {
		return Graph{}, ErrRange
	}
	return inducedOn(g, order), OK
}

// InducedOn returns the graph on some vertices.
func InducedOn(g Graph, list []int64) (Graph, int64) {
	if !ValidGraph(g) {
		return Graph{}, ErrInvalid
	}
	if !areDifferent(g.N, list) {
		return Graph{}, ErrRange
	}
	return inducedOn(g, list), OK
}

// listsOf yields the lists of k different ones of n vertices, in their order.
// All of them are in the same memory: a list is good until the next one.
func listsOf(n, k int64) iter.Seq[[]int64] {
	return func(yield func([]int64) bool) {
		longerLists(n, k, make([]int64, 0, k), yield)
	}
}

// longerLists yields the lists that begin with list; it returns false if no
// more are wanted.
func longerLists(n, k int64, list []int64, yield func([]int64) bool) bool {
	if int64(len(list)) == k {
		return yield(list)
	}
	for v := range n {
		if slices.Contains(list, v) {
			continue
		}
		if !longerLists(n, k, append(list, v), yield) {
			return false
		}
	}
	return true
}

// ordersOf yields all orders of n vertices, in the same memory as listsOf.
func ordersOf(n int64) iter.Seq[[]int64] {
	return listsOf(n, n)
}

// setsOf yields the sets of k of n vertices, as ascending lists.
func setsOf(n, k int64) iter.Seq[[]int64] {
	return func(yield func([]int64) bool) {
		for set := range uint32(1) << n {
			if int64(bits.OnesCount32(set)) == k && !yield(verticesOf(set)) {
				return
			}
		}
	}
}

// verticesOf returns the numbers of the bits that are 1, ascending.
func verticesOf(set uint32) []int64 {
	var list []int64
	for set != 0 {
		list = append(list, int64(bits.TrailingZeros32(set)))
		set &= set - 1
	}
	return list
}

// leastGraph is LeastGraph of a valid graph.
func leastGraph(g Graph) Graph {
	least := g
	for order := range ordersOf(g.N) {
		least.Edges = min(least.Edges, inducedOn(g, order).Edges)
	}
	return least
}

// LeastGraph returns the least graph that is alike.
func LeastGraph(g Graph) (Graph, int64) {
	if !ValidGraph(g) {
		return Graph{}, ErrInvalid
	}
	return leastGraph(g), OK
}

// AreAlike reports whether two graphs are alike.
func AreAlike(g, h Graph) (bool, int64) {
	if !ValidGraph(g) || !ValidGraph(h) {
		return false, ErrInvalid
	}
	return leastGraph(g) == leastGraph(h), OK
}

// CountSelf returns how many orders lead to the graph itself.
func CountSelf(g Graph) (int64, int64) {
	if !ValidGraph(g) {
		return 0, ErrInvalid
	}
	var count int64
	for order := range ordersOf(g.N) {
		if inducedOn(g, order) == g {
			count++
		}
	}
	return count, OK
}

// AllGraphs returns the least graphs with so many vertices.
func AllGraphs(n int64) ([]Graph, int64) {
	if !isVertexCount(n) {
		return nil, ErrRange
	}
	var all []Graph
	least := map[Graph]Graph{}
	for edges := range allEdges(n) + 1 {
		g := Graph{N: n, Edges: edges}
		// Edges ascend, so the first graph of those that are alike is the least.
		if _, known := least[g]; known {
			continue
		}
		for order := range ordersOf(n) {
			least[inducedOn(g, order)] = g
		}
		all = append(all, g)
	}
	return all, OK
}

// IndexOfGraph returns the index of a graph in the list of all.
func IndexOfGraph(g Graph) (int64, int64) {
	if !ValidGraph(g) {
		return 0, ErrInvalid
	}
	all, code := AllGraphs(g.N)
	if code != OK {
		return 0, code
	}
	return int64(slices.Index(all, leastGraph(g))), OK
}

// CountCopies returns how many copies a graph has in another one.
func CountCopies(h, g Graph) (int64, int64) {
	if !ValidGraph(h) || !ValidGraph(g) {
		return 0, ErrInvalid
	}
	wanted := leastGraph(h)
	var count int64
	for set := range setsOf(g.N, h.N) {
		if leastGraph(inducedOn(g, set)) == wanted {
			count++
		}
	}
	return count, OK
}

// hasPart is HasPart of valid graphs.
func hasPart(g, h Graph) bool {
next:
	for list := range listsOf(g.N, h.N) {
		for i, j := range edgesOf(h) {
			if g.apart(list[i], list[j]) {
				continue next
			}
		}
		return true
	}
	return false
}

// isFree is IsFree of valid graphs.
func isFree(g Graph, forbidden []Graph) bool {
	for _, h := range forbidden {
		if hasPart(g, h) {
			return false
		}
	}
	return true
}

// checkForbidden returns ErrInvalid or ErrLimit if a list cannot be one of
// forbidden parts.
func checkForbidden(forbidden []Graph) int64 {
	if !areValidGraphs(forbidden) {
		return ErrInvalid
	}
	if len(forbidden) > MaxForbidden {
		return ErrLimit
	}
	return OK
}

// HasPart reports whether a graph has another one as a part.
func HasPart(g, h Graph) (bool, int64) {
	if !ValidGraph(g) || !ValidGraph(h) {
		return false, ErrInvalid
	}
	return hasPart(g, h), OK
}

// IsFree reports whether a graph has none of some parts.
func IsFree(g Graph, forbidden []Graph) (bool, int64) {
	if !ValidGraph(g) {
		return false, ErrInvalid
	}
	if code := checkForbidden(forbidden); code != OK {
		return false, code
	}
	return isFree(g, forbidden), OK
}

// FreeGraphs returns all graphs that have none of some parts.
func FreeGraphs(n int64, forbidden []Graph) ([]Graph, int64) {
	if code := checkForbidden(forbidden); code != OK {
		return nil, code
	}
	all, code := AllGraphs(n)
	if code != OK {
		return nil, code
	}
	var free []Graph
	for _, g := range all {
		if isFree(g, forbidden) {
			free = append(free, g)
		}
	}
	return free, OK
}

// GraphText returns the text of a graph.
func GraphText(g Graph) string {
	if !ValidGraph(g) {
		return ""
	}
	var text strings.Builder
	text.WriteString("graph " + strconv.FormatInt(g.N, 10))
	for i, j := range edgesOf(g) {
		text.WriteString(" " + strconv.FormatInt(i, 10) + "-" + strconv.FormatInt(j, 10))
	}
	return text.String()
}

// ReadGraph returns the graph with a text.
func ReadGraph(text string) (Graph, int64) {
	g, read := readGraphWords(strings.Split(text, " "))
	// Reading forgives signs, zeros in front, and any order of the pairs; none
	// of these is the text of a graph.
	if !read || GraphText(g) != text {
		return Graph{}, ErrSyntax
	}
	return g, OK
}

// readGraphWords returns the graph that the words name, in whichever way they
// write its numbers and order its pairs.
func readGraphWords(words []string) (Graph, bool) {
	if len(words) < 2 || words[0] != "graph" {
		return Graph{}, false
	}
	n, err := strconv.ParseInt(words[1], 10, 64)
	if err != nil {
		return Graph{}, false
	}
	var pairs [][2]int64
	for _, word := range words[2:] {
		pair, read := readPair(word)
		if !read {
			return Graph{}, false
		}
		pairs = append(pairs, pair)
	}
	g, code := GraphOf(n, pairs)
	return g, code == OK
}

// readPair returns the two numbers around the first "-" of a word.
func readPair(word string) ([2]int64, bool) {
	first, second, found := strings.Cut(word, "-")
	if !found {
		return [2]int64{}, false
	}
	i, err := strconv.ParseInt(first, 10, 64)
	if err != nil {
		return [2]int64{}, false
	}
	j, err := strconv.ParseInt(second, 10, 64)
	if err != nil {
		return [2]int64{}, false
	}
	return [2]int64{i, j}, true
}
