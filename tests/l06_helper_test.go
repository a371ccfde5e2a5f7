package tests

import (
	"fmt"
	"math/big"
	"math/rand/v2"
	"slices"
	"strings"
	"testing"

	"loop.example/g01169/impl"
)

// The helpers reckon slacks with math/big, from choices of vertices, and find
// faults one block and one graph after the other.

// chosen is a graph, and how many of its vertices are labelled, and chosen for
// each flag of a pair.
type chosen struct {
	g              impl.Graph
	labels, others int64
}

var averagesIn = remembered(func(p chosen) map[[2]impl.Flag]*big.Rat {
	return averageJointShares(p.g, p.labels, p.others, p.others)
})

// blockIn returns the value of a block in a graph.
func blockIn(r *reckoner, b impl.Block, g impl.Graph) *big.Rat {
	var least []impl.Flag
	for _, f := range b.Flags {
		least = append(least, leastFlagTable()[f])
	}
	found := averagesIn(chosen{g, least[0].Labels, least[0].Graph.N - least[0].Labels})
	sum := new(big.Rat)
	for i, row := range ratRows(b.Matrix) {
		var averages []*big.Rat
		for _, h := range least {
			averages = append(averages, rat(shareFor(found, [2]impl.Flag{least[i], h})))
		}
		sum = r.add(sum, r.dot(row, averages))
	}
	return sum
}

// wantSlack returns what SlackAt has to return for a graph that is free.
func wantSlack(s impl.Statement, c impl.Certificate, g impl.Graph) (impl.Fraction, int64) {
	var r reckoner
	left := r.sub(rat(s.Bound), valueWith(&r, s.Target, plain(g)))
	for _, b := range c.Blocks {
		left = r.sub(left, blockIn(&r, b, g))
	}
	if r.tooLarge {
		return impl.Fraction{}, impl.ErrLimit
	}
	return ofRat(left), impl.OK
}

// freeOf returns the least graphs with n vertices that have none of the parts.
func freeOf(n int64, forbidden []impl.Graph) []impl.Graph {
	var free []impl.Graph
	for _, f := range withoutParts(flagsOf(kind{impl.Graph{}, n}), forbidden) {
		free = append(free, f.Graph)
	}
	return free
}

// proof is what the functions of chapter 6 have to return for a valid statement
// and a certificate that is valid for it.
type proof struct {
	slacks     []impl.Fraction
	slacksCode int64
	fault, at  int64
	faultCode  int64
	tight      []impl.Graph
	best       impl.Fraction
	tightCode  int64
	bestCode   int64
	proved     bool
	provedCode int64
	graphs     []impl.Graph
}

// wantSlacks sets what has to do with all slacks, and the first fault of these.
func (p *proof) wantSlacks(s impl.Statement, c impl.Certificate) {
	p.faultCode = impl.ErrNotFound
	for i, g := range freeOf(c.Size, s.Forbidden) {
		p.graphs = append(p.graphs, g)
		left, code := wantSlack(s, c, g)
		if code != impl.OK {
			p.slacksCode = code
		}
		if p.faultCode == impl.ErrNotFound && code != impl.OK {
			p.faultCode = code
		}
		if p.faultCode == impl.ErrNotFound && left.P < 0 {
			p.fault, p.at, p.faultCode = impl.FtSlack, int64(i), impl.OK
		}
		p.slacks = append(p.slacks, left)
	}
	if p.slacksCode != impl.OK {
		p.slacks = nil
	}
}

// wantMatrices sets the first fault of the matrices, and returns the code that
// keeps TightGraphs and BestBound from looking at slacks.
func (p *proof) wantMatrices(blocks []impl.Block) int64 {
	for i, b := range blocks {
		switch _, _, code, _, _ := wantSquares(b.Matrix); code {
		case impl.ErrLimit:
			p.fault, p.at, p.faultCode = 0, 0, impl.ErrLimit
			return impl.ErrLimit
		case impl.ErrState:
			p.fault, p.at, p.faultCode = impl.FtMatrix, int64(i), impl.OK
			return impl.ErrProof
		}
	}
	return impl.OK
}

func wantProof(s impl.Statement, c impl.Certificate) proof {
	var p proof
	p.wantSlacks(s, c)
	code := p.wantMatrices(c.Blocks)
	p.proved, p.provedCode = p.faultCode == impl.ErrNotFound, p.faultCode
	if p.proved {
		p.provedCode = impl.OK
	}
	if code == impl.OK {
		code = p.slacksCode
	}
	p.tightCode, p.bestCode = code, code
	if code != impl.OK {
		return p
	}
	if len(p.slacks) == 0 {
		p.bestCode = impl.ErrNotFound
		return p
	}
	least := rat(p.slacks[0])
	for i, left := range p.slacks {
		if left.P == 0 {
			p.tight = append(p.tight, p.graphs[i])
		}
		if rat(left).Cmp(least) < 0 {
			least = rat(left)
		}
	}
	var r reckoner
	best := r.sub(rat(s.Bound), least)
	p.bestCode = r.code(impl.OK)
	if p.bestCode == impl.OK {
		p.best = ofRat(best)
	}
	return p
}

// checkProof holds all functions about proofs against what is wanted, for a
// valid statement and a certificate that is valid for it.
func checkProof(t *testing.T, s impl.Statement, c impl.Certificate) proof {
	t.Helper()
	if !impl.ValidStatement(s) || !impl.ValidCertificate(s, c) {
		t.Fatalf("not valid: %v, %v", s, c)
	}
	want := wantProof(s, c)
	slacks, code := impl.SlacksOf(s, c)
	if code != want.slacksCode || !slices.Equal(slacks, want.slacks) {
		t.Fatalf("SlacksOf %v, %v: %v, code %d, want %v, code %d", s, c, slacks, code, want.slacks, want.slacksCode)
	}
	fault, at, code := impl.FirstFault(s, c)
	if fault != want.fault || at != want.at || code != want.faultCode {
		t.Fatalf("FirstFault %v, %v: %d at %d, code %d, want %d at %d, code %d", s, c, fault, at, code, want.fault, want.at, want.faultCode)
	}
	if proved, code := impl.IsProved(s, c); proved != want.proved || code != want.provedCode {
		t.Fatalf("IsProved %v, %v: %t, code %d, want %t, code %d", s, c, proved, code, want.proved, want.provedCode)
	}
	tight, code := impl.TightGraphs(s, c)
	if code != want.tightCode || !slices.Equal(tight, want.tight) {
		t.Fatalf("TightGraphs %v, %v: %v, code %d, want %v, code %d", s, c, tight, code, want.tight, want.tightCode)
	}
	best, code := impl.BestBound(s, c)
	checkFraction(t, fmt.Sprint("BestBound ", s, c), best, code, want.best, want.bestCode)
	return want
}

// edgeSum is the sum of the example of the document.
func edgeSum() impl.FlagSum { return inOrder(impl.Graph{}, 2, "0 1") }

// mantel is the statement of the example: without triangles, at most so many of
// all pairs are edges.
func mantel(bound string) impl.Statement {
	return impl.Statement{Forbidden: []impl.Graph{{N: 3, Edges: 7}}, Target: edgeSum(), Bound: fr(bound)}
}

// blockOn returns the block with the first flags of a kind, as many as the
// matrix has rows.
func blockOn(k kind, matrix string) impl.Block {
	m := mat(matrix)
	return impl.Block{Flags: slices.Clone(flagsOf(k)[:len(m)]), Matrix: m}
}

// pair is the kind of the flags of the example.
var pair = kind{impl.Graph{N: 1}, 2}

// certificateOf returns the certificate with a size and some blocks.
func certificateOf(size int64, blocks ...impl.Block) impl.Certificate {
	return impl.Certificate{Size: size, Blocks: blocks}
}

// certified is the certificate of the example.
func certified() impl.Certificate {
	return certificateOf(3, blockOn(pair, "1/2 -1/2;-1/2 1/2"))
}

// roomIn returns the room of blocks of a kind.
func roomIn(k kind) int64 { return 2*k.size - k.typ.N }

// kindsInRoom returns the kinds whose blocks have at most so much room.
func kindsInRoom(size int64) []kind {
	var list []kind
	for _, k := range everyKind() {
		if roomIn(k) <= size {
			list = append(list, k)
		}
	}
	return list
}

// squareOn returns a block that is a sum of squares of small whole numbers.
func squareOn(random *rand.Rand, k kind) impl.Block {
	flags, _ := someForm(random, k, func() impl.Fraction { return fr("0") })
	n := len(flags)
	sum := make([][]*big.Rat, n)
	for i := range sum {
		sum[i] = zeroRats(n)
	}
	for range 1 + random.IntN(3) {
		row := rats(someFractions(random, n, 2))
		for i := range row {
			for j := range row {
				sum[i][j].Add(sum[i][j], new(big.Rat).Mul(row[i], row[j]))
			}
		}
	}
	b := impl.Block{Flags: flags}
	for _, row := range sum {
		b.Matrix = append(b.Matrix, ofRats(row))
	}
	return b
}

// someBlock returns a block of some kind with at most so much room, whose matrix
// is a sum of squares, has only 0, or has fractions of a function.
func someBlock(random *rand.Rand, size int64, fraction func() impl.Fraction) impl.Block {
	kinds := kindsInRoom(size)
	k := kinds[random.IntN(len(kinds))]
	switch random.IntN(6) {
	case 0:
		fraction = func() impl.Fraction { return fr("0") }
	case 1, 2, 3:
		return squareOn(random, k)
	}
	flags, m := someForm(random, k, fraction)
	return impl.Block{Flags: flags, Matrix: m}
}

// someCase returns a valid statement and a certificate that is valid for it.
func someCase(t *testing.T, random *rand.Rand, fraction func() impl.Fraction) (impl.Statement, impl.Certificate) {
	t.Helper()
	size := random.Int64N(6)
	lists := forbiddenLists(t)
	s := impl.Statement{Forbidden: lists[random.IntN(len(lists))], Bound: fraction()}
	s.Target = someSum(random, kind{impl.Graph{}, random.Int64N(size + 1)}, fraction)
	c := impl.Certificate{Size: size}
	for range random.IntN(4) {
		c.Blocks = append(c.Blocks, someBlock(random, size, fraction))
	}
	return s, c
}

// sameBlocks compares blocks without the program's functions.
func sameBlocks(a, b []impl.Block) bool {
	return slices.EqualFunc(a, b, func(a, b impl.Block) bool {
		return slices.Equal(a.Flags, b.Flags) && equalRows(a.Matrix, b.Matrix)
	})
}

func sameCertificates(c, d impl.Certificate) bool {
	return c.Size == d.Size && sameBlocks(c.Blocks, d.Blocks)
}

func sameStatements(s, t impl.Statement) bool {
	return slices.Equal(s.Forbidden, t.Forbidden) && sameSum(s.Target, t.Target) && s.Bound == t.Bound
}

func noCertificate(c impl.Certificate) bool { return sameCertificates(c, impl.Certificate{}) }

func noStatement(s impl.Statement) bool { return sameStatements(s, impl.Statement{}) }

func noBlock(b impl.Block) bool { return sameBlocks([]impl.Block{b}, []impl.Block{{}}) }

// badStatements returns statements that are not valid.
func badStatements() []impl.Statement {
	list := []impl.Statement{{}, {Target: edgeSum()}, {Target: inOrder(pair.typ, 2, "0 1"), Bound: fr("1")}, {Target: inOrder(impl.Graph{N: 3}, 3, ""), Bound: fr("1")}}
	seven := mantel("1/2")
	seven.Forbidden = times(impl.Graph{N: 3, Edges: 7}, impl.MaxForbidden+1)
	list = append(list, seven)
	for _, bad := range badGraphs() {
		for _, forbidden := range [][]impl.Graph{{bad}, {{N: 3, Edges: 7}, bad}, append(times(impl.Graph{N: 5}, 5), bad)} {
			list = append(list, impl.Statement{Forbidden: forbidden, Target: edgeSum(), Bound: fr("1")})
		}
	}
	for _, bad := range badSums() {
		list = append(list, impl.Statement{Target: bad, Bound: fr("1")})
	}
	for _, bad := range badFractions() {
		list = append(list, mantel("1/2"))
		list[len(list)-1].Bound = bad
	}
	return list
}

// badBlocks returns blocks that are not valid.
func badBlocks() []impl.Block {
	gap, edge := flagsOf(pair)[0], flagsOf(pair)[1]
	many := func(n int) impl.Block {
		return impl.Block{Flags: copiesOf(edge, n), Matrix: symmetric(n, slices.Repeat(frs("0"), n*(n+1)/2))}
	}
	list := []impl.Block{{}, {Flags: []impl.Flag{}, Matrix: [][]impl.Fraction{}}, {Matrix: mat("1")}, many(9), {Flags: copiesOf(edge, 9), Matrix: mat("1")}}
	for n := range 9 {
		for _, b := range []impl.Block{many(n), {}} {
			b.Flags = copiesOf(edge, n+1)
			list = append(list, b)
			b.Flags, b.Matrix = copiesOf(edge, n), many(n+1).Matrix
			list = append(list, b)
		}
	}
	for _, other := range []impl.Flag{{Graph: edge.Graph}, {Labels: 2, Graph: edge.Graph}, {Labels: 1, Graph: impl.Graph{N: 3, Edges: 1}}, {Labels: 1, Graph: impl.Graph{N: 1}}, {}} {
		list = append(list, impl.Block{Flags: []impl.Flag{gap, other}, Matrix: mat("0 0;0 0")}, impl.Block{Flags: []impl.Flag{other, gap, gap}, Matrix: mat("0 0 0;0 0 0;0 0 0")})
	}
	// The types have as many vertices, but only one of them has the edge.
	list = append(list, impl.Block{Flags: []impl.Flag{{Labels: 2, Graph: impl.Graph{N: 3}}, {Labels: 2, Graph: impl.Graph{N: 3, Edges: 1}}}, Matrix: mat("0 0;0 0")})
	for _, bad := range badFlags() {
		list = append(list, impl.Block{Flags: []impl.Flag{bad}, Matrix: mat("1")}, impl.Block{Flags: []impl.Flag{gap, bad}, Matrix: mat("1 0;0 1")})
	}
	for _, bad := range badMatrices() {
		list = append(list, impl.Block{Flags: copiesOf(edge, len(bad)), Matrix: bad})
	}
	return list
}

// badCertificates returns certificates that are not valid for the statement of
// the example.
func badCertificates() []impl.Certificate {
	good := certified().Blocks[0]
	list := []impl.Certificate{{}, certificateOf(-1), certificateOf(0), certificateOf(1), certificateOf(2, good), certificateOf(6), certificateOf(6, good), certificateOf(-1 << 63), certificateOf(1<<63 - 1), certificateOf(1<<32 + 3), certificateOf(3, slices.Repeat([]impl.Block{good}, 7)...)}
	for _, bad := range badBlocks() {
		list = append(list, certificateOf(5, bad), certificateOf(5, good, bad), certificateOf(5, bad, good))
	}
	for _, k := range everyKind() {
		if roomIn(k) > 3 {
			wide := impl.Block{Flags: slices.Clone(flagsOf(k)[:1]), Matrix: mat("0")}
			list = append(list, certificateOf(min(5, roomIn(k)-1), good, wide), certificateOf(3, wide))
		}
	}
	return list
}

// textOfStatement writes a statement as the document tells, with the texts of
// its parts.
func textOfStatement(s impl.Statement) string {
	text := "statement " + impl.FractionText(s.Bound) + "\n"
	for _, g := range s.Forbidden {
		text += "without " + impl.GraphText(g) + "\n"
	}
	return text + textOf(s.Target)
}

// textOfCertificate writes a certificate so.
func textOfCertificate(c impl.Certificate) string {
	lines := []string{fmt.Sprint("certificate ", c.Size, " ", len(c.Blocks))}
	for _, b := range c.Blocks {
		lines = append(lines, fmt.Sprint("block ", len(b.Flags)))
		for _, f := range b.Flags {
			lines = append(lines, impl.FlagText(f))
		}
		for _, row := range b.Matrix {
			var words []string
			for _, a := range row {
				words = append(words, impl.FractionText(a))
			}
			lines = append(lines, strings.Join(words, " "))
		}
	}
	return strings.Join(lines, "\n") + "\n"
}

// bigRat returns a fraction whose first part is at least and at most as told.
func bigRat(random *rand.Rand, least, most int64) *big.Rat {
	return big.NewRat(least+random.Int64N(most-least+1), 1+random.Int64N(4))
}
