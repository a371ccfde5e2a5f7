package tests

import (
	"fmt"
	"slices"
	"strings"
	"testing"

	"loop.example/g01169/impl"
)

// Promise 1, for chapter 6: every function returns for all arguments, modifies
// no argument, and returns equal results for equal arguments.

// calls6 calls every function of chapter 6, and returns all results.
func calls6(s impl.Statement, c, d impl.Certificate, b impl.Block, g impl.Graph, pivots []impl.Fraction, rows [][]impl.Fraction, text string) []any {
	out := []any{impl.ValidStatement(s), impl.SameStatement(s, s), impl.ValidBlock(b), impl.ValidCertificate(s, c), impl.SameCertificate(c, d), impl.StatementText(s), impl.CertificateText(c)}
	add := func(results ...any) { out = append(out, results...) }
	value, code := impl.BlockValue(b, g)
	add(value, code)
	value, code = impl.SlackAt(s, c, g)
	add(value, code)
	slacks, code := impl.SlacksOf(s, c)
	add(slacks, code)
	fault, at, code := impl.FirstFault(s, c)
	add(fault, at, code)
	proved, code := impl.IsProved(s, c)
	add(proved, code)
	tight, code := impl.TightGraphs(s, c)
	add(tight, code)
	value, code = impl.BestBound(s, c)
	add(value, code)
	block, code := impl.BlockOfSquares(b.Flags, pivots, rows)
	add(block, code)
	both, code := impl.MergeCertificates(s, c, d)
	add(both, code)
	small, code := impl.ShrinkCertificate(s, c)
	add(small, code)
	statement, code := impl.ReadStatement(text)
	add(statement, code)
	certificate, code := impl.ReadCertificate(text)
	add(certificate, code)
	return out
}

// statementWithRoom, blockWithRoom and certificateWithRoom return copies that
// have more elements in all unused capacities.

func statementWithRoom(s impl.Statement) impl.Statement {
	s.Forbidden, _ = withRoom(s.Forbidden, impl.Graph{N: 7})
	s.Target, _ = sumWithRoom(s.Target)
	return s
}

func blockWithRoom(b impl.Block) impl.Block {
	b.Flags, _ = withRoom(b.Flags, impl.Flag{Labels: 7})
	b.Matrix, _ = rowsWithRoom(b.Matrix)
	return b
}

func certificateWithRoom(c impl.Certificate) impl.Certificate {
	var blocks []impl.Block
	for _, b := range c.Blocks {
		blocks = append(blocks, blockWithRoom(b))
	}
	c.Blocks, _ = withRoom(blocks, impl.Block{Flags: copiesOf(impl.Flag{Labels: 7}, 1)})
	return c
}

// memoryOf returns all that is in the memory of some arguments, to the end of
// their capacities.
func memoryOf(s impl.Statement, blocks ...impl.Block) string {
	text := fmt.Sprint(s.Forbidden[:cap(s.Forbidden)], s.Target.Terms[:cap(s.Target.Terms)], s.Bound)
	for _, b := range blocks {
		text += fmt.Sprint(b.Flags[:cap(b.Flags)], memory(b.Matrix))
	}
	return text
}

func TestCertificateCallsModifyNothingAndRepeat(t *testing.T) {
	random := seeded(72)
	badS, badC, badB := badStatements(), badCertificates(), badBlocks()
	texts := []string{"", textOfStatement(mantel("1/2")), textOfCertificate(certified()), "certificate 3 0\n", "statement 1\n"}
	for round := range 300 {
		s, c := someCase(t, random, someFractionsOf(random)[round%3])
		d := certificateOf(5, someBlock(random, 5, someFractionsOf(random)[0]))
		b := someBlock(random, 4, someFractionsOf(random)[round%3])
		switch round % 10 {
		case 7:
			s = badS[random.IntN(len(badS))]
		case 8:
			c = badC[random.IntN(len(badC))]
		case 9:
			b = badB[random.IntN(len(badB))]
		}
		pivots, rows := somePivots(random, random.IntN(4), -1, 2)
		s, c, d, b = statementWithRoom(s), certificateWithRoom(c), certificateWithRoom(d), blockWithRoom(b)
		pivots, _ = withRoom(pivots, fr("77/78"))
		rows, _ = rowsWithRoom(rows)
		all := func() string {
			blocks := slices.Concat(c.Blocks[:cap(c.Blocks)], d.Blocks[:cap(d.Blocks)], []impl.Block{b})
			return fmt.Sprint(memoryOf(s, blocks...), pivots[:cap(pivots)], memory(rows))
		}
		g, text := everyGraph(int64(round % 6))[0], texts[round%5]
		before := all()
		first := fmt.Sprint(calls6(s, c, d, b, g, pivots, rows, text))
		second := fmt.Sprint(calls6(s, c, d, b, g, pivots, rows, text))
		if after := all(); before != after {
			t.Fatalf("arguments %s became %s", before, after)
		}
		if first != second {
			t.Fatalf("two results for %v and %v: %s and %s", s, c, first, second)
		}
	}
}

func TestCertificateCallsTakeNilAndEmptyAlike(t *testing.T) {
	none := impl.Graph{}
	s, target := impl.Statement{Bound: fr("1")}, impl.FlagSum{Terms: []impl.Term{}}
	empty := impl.Statement{Forbidden: []impl.Graph{}, Target: target, Bound: fr("1")}
	first := fmt.Sprint(calls6(s, impl.Certificate{}, impl.Certificate{Size: 5}, impl.Block{}, none, nil, nil, ""))
	second := fmt.Sprint(calls6(empty, impl.Certificate{Blocks: []impl.Block{}}, impl.Certificate{Size: 5, Blocks: []impl.Block{}}, impl.Block{Flags: []impl.Flag{}, Matrix: [][]impl.Fraction{}}, none, []impl.Fraction{}, [][]impl.Fraction{}, ""))
	if first != second {
		t.Errorf("%s with nil, and %s with empty slices", first, second)
	}
}

// spoil overwrites a block, to the end of all capacities.
func spoil(b impl.Block) {
	overwrite(b.Flags, impl.Flag{Labels: 77})
	for _, row := range b.Matrix {
		overwrite(row, impl.Fraction{P: 77, Q: 78})
	}
	overwrite(b.Matrix, nil)
}

// Results are overwritten, to the end of their capacity: neither arguments nor
// later results, nor other parts of the same result, change by it.
func TestCertificateResultsAreNewMemory(t *testing.T) {
	s, c := mantel("1/2"), certified()
	c.Blocks = append(c.Blocks, blockOn(pair, "1 1;1 1"))
	pivots, rows := frs("1 2"), mat("1 2;3 4")
	results := func() []any {
		return append(calls6(s, c, certified(), c.Blocks[0], impl.Graph{N: 3}, pivots, rows, impl.StatementText(s)), calls6(s, c, c, c.Blocks[0], impl.Graph{N: 3}, pivots, rows, impl.CertificateText(c))...)
	}
	before := fmt.Sprint(results(), s, c, pivots, rows)
	for _, result := range results() {
		switch result := result.(type) {
		case []impl.Fraction:
			overwrite(result, impl.Fraction{P: 77, Q: 78})
		case []impl.Graph:
			overwrite(result, impl.Graph{N: 77})
		case impl.Block:
			spoil(result)
		case impl.Statement:
			overwrite(result.Forbidden, impl.Graph{N: 77})
			overwrite(result.Target.Terms, impl.Term{})
		case impl.Certificate:
			checkApart(t, result)
			overwrite(result.Blocks, impl.Block{})
		}
	}
	if after := fmt.Sprint(results(), s, c, pivots, rows); before != after {
		t.Errorf("results %s became %s", before, after)
	}
}

// checkApart overwrites one block of a certificate after the other, and fails if
// a later one changes by it.
func checkApart(t *testing.T, c impl.Certificate) {
	t.Helper()
	for i, b := range c.Blocks {
		behind := fmt.Sprint(c.Blocks[i+1:])
		for k, row := range b.Matrix {
			rest := fmt.Sprint(b.Flags, b.Matrix[k+1:])
			overwrite(row, impl.Fraction{P: 77, Q: 78})
			if after := fmt.Sprint(b.Flags, b.Matrix[k+1:]); rest != after {
				t.Errorf("%s became %s", rest, after)
			}
		}
		spoil(b)
		if after := fmt.Sprint(c.Blocks[i+1:]); behind != after {
			t.Errorf("blocks %s became %s", behind, after)
		}
	}
}

func TestCertificateCallsOfSeveralGoroutines(t *testing.T) {
	s, c := mantel("1/2"), certified()
	c.Size = 5
	wide := certificateOf(5, blockOn(kind{impl.Graph{N: 1}, 3}, "1 0 1/2;0 2 0;1/2 0 1"), blockOn(pair, tooGreat))
	checkGoroutines(t, func() string {
		return fmt.Sprint(calls6(s, c, wide, c.Blocks[0], impl.Graph{N: 5}, frs("1 2"), mat("1 2;3 4"), impl.StatementText(s)), calls6(impl.Statement{Bound: fr("1/65537")}, wide, c, c.Blocks[0], impl.Graph{N: 5}, nil, nil, impl.CertificateText(wide)))
	})
}

// The greatest arguments for which every function has to return.
func TestCertificateCallsOfGreatArguments(t *testing.T) {
	const many = 1000000
	s, c := mantel("1/2"), certified()
	flags, row := copiesOf(flagsOf(pair)[1], many), slices.Repeat(frs("1"), many)
	long := impl.Statement{Forbidden: times(impl.Graph{N: 3}, many), Target: edgeSum(), Bound: fr("1")}
	wide := impl.Statement{Target: impl.FlagSum{Size: 5, Terms: slices.Repeat(ones(kind{impl.Graph{}, 5}, 1).Terms, many)}, Bound: fr("1")}
	blocks := certificateOf(3, slices.Repeat(c.Blocks, many/10)...)
	for _, b := range []impl.Block{{Flags: flags}, {Flags: flags, Matrix: mat("1")}, {Flags: flags[:1], Matrix: [][]impl.Fraction{row}}, {Flags: flags[:8], Matrix: slices.Repeat([][]impl.Fraction{nil}, many)}} {
		for _, size := range []int64{-1 << 63, 3, 1<<63 - 1} {
			for _, g := range []impl.Graph{{N: 5}, {N: -1 << 63}, {N: 1<<63 - 1, Edges: 1<<32 - 1}} {
				calls6(long, certificateOf(size, b), blocks, b, g, row, b.Matrix, strings.Repeat("\n", many))
				calls6(s, certificateOf(size, c.Blocks[0], b), c, b, g, frs("1"), [][]impl.Fraction{row}, strings.Repeat("statement ", many/10))
			}
		}
		checkRefusedCase(t, s, certificateOf(3, b))
	}
	checkRefusedCase(t, long, c)
	checkRefusedCase(t, wide, certificateOf(5))
	checkRefusedCase(t, s, blocks)
	got, code := impl.BlockOfSquares(flags, frs("1"), mat("1"))
	isRefused(t, "BlockOfSquares of many flags", noBlock(got), code, impl.ErrState)
	flags[many-1].Labels = 4
	got, code = impl.BlockOfSquares(flags, frs("1"), mat("1"))
	isRefused(t, "BlockOfSquares of many flags, the last one not valid", noBlock(got), code, impl.ErrInvalid)
}
