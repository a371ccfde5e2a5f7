package tests

import (
	"fmt"
	"math/rand/v2"
	"slices"
	"testing"

	"loop.example/g01169/impl"
)

// Promise 12, its first half: squares with pivots from 0 on are positive; and
// certificates that are made of others.

// checkMadeBlock holds BlockOfSquares against what is wanted: the error of the
// squares, or that of the block, or the block.
func checkMadeBlock(t *testing.T, flags []impl.Flag, pivots []impl.Fraction, rows [][]impl.Fraction, want int64) impl.Block {
	t.Helper()
	wanted := impl.Block{}
	if want == impl.OK {
		wanted.Flags = flags
		wanted.Matrix, _ = wantFromSquares(pivots, rows)
	}
	got, code := impl.BlockOfSquares(flags, pivots, rows)
	if code != want || !sameBlocks([]impl.Block{got}, []impl.Block{wanted}) || code == impl.OK && !impl.ValidBlock(got) {
		t.Fatalf("BlockOfSquares %v, %v, %v: %v, code %d, want %v, code %d", flags, pivots, rows, got, code, wanted, want)
	}
	return got
}

// somePivots returns n pivots, and as many rows.
func somePivots(random *rand.Rand, n int, least, most int64) ([]impl.Fraction, [][]impl.Fraction) {
	var pivots []impl.Fraction
	rows := make([][]impl.Fraction, n)
	for i := range rows {
		pivots = append(pivots, ofRat(bigRat(random, least, most)))
		rows[i] = someFractions(random, n, 3)
	}
	return pivots, rows
}

func TestBlocksOfSquaresArePositive(t *testing.T) {
	random := seeded(67)
	counts := map[string]int{}
	for _, k := range everyKind() {
		for n := 1; n <= impl.MaxMatrix; n++ {
			flags := slices.Repeat(flagsOf(k), impl.MaxMatrix)[:n]
			flags[0] = backwards(flags[0])
			for _, least := range []int64{0, -3} {
				pivots, rows := somePivots(random, min(n, 5), least, 4)
				if n > 5 {
					pivots, rows = widened(pivots, rows, n)
				}
				_, code := wantFromSquares(pivots, rows)
				b := checkMadeBlock(t, flags, pivots, rows, code)
				counts[fmt.Sprint("code ", code)]++
				if code != impl.OK {
					continue
				}
				positive, code := impl.IsPositive(b.Matrix)
				if least == 0 && code == impl.OK && !positive {
					t.Fatalf("the block of %v and %v is not positive", pivots, rows)
				}
				counts[fmt.Sprint("positive ", positive, " ", code, " from ", least)]++
			}
		}
	}
	if counts["positive true 0 from 0"] < 100 || counts["positive false 0 from -3"] < 100 {
		t.Errorf("too few of one kind: %v", counts)
	}
}

// widened returns pivots and rows that are 0 behind those that are given.
func widened(pivots []impl.Fraction, rows [][]impl.Fraction, n int) ([]impl.Fraction, [][]impl.Fraction) {
	more := make([][]impl.Fraction, n)
	for i := range more {
		var row []impl.Fraction
		if i < len(rows) {
			row = rows[i]
		}
		more[i] = append(slices.Clone(row), slices.Repeat(frs("0"), n-len(row))...)
	}
	return append(slices.Clone(pivots), slices.Repeat(frs("0"), n-len(pivots))...), more
}

// The squares of a positive matrix make its block again, and what it proves.
func TestBlocksAreMadeOfTheirSquares(t *testing.T) {
	random := seeded(68)
	for _, k := range everyKind() {
		b := squareOn(random, k)
		pivots, rows, code := impl.SquaresOf(b.Matrix)
		if code != impl.OK {
			t.Fatalf("SquaresOf %v: code %d", b.Matrix, code)
		}
		if got := checkMadeBlock(t, b.Flags, pivots, rows, impl.OK); !sameBlocks([]impl.Block{got}, []impl.Block{b}) {
			t.Fatalf("%v is made of its squares as %v", b, got)
		}
	}
	s, c := mantel("1/2"), certified()
	got := checkMadeBlock(t, c.Blocks[0].Flags, frs("1/2 0"), mat("1 -1;0 0"), impl.OK)
	checkProof(t, s, certificateOf(3, got))
	if !sameCertificates(certificateOf(3, got), c) {
		t.Errorf("the squares of the example make %v", got)
	}
}

func TestBlocksOfSquaresThatAreRefused(t *testing.T) {
	gap, edge := flagsOf(pair)[0], flagsOf(pair)[1]
	both, strange := []impl.Flag{gap, edge}, []impl.Flag{gap, {Graph: edge.Graph}}
	ones := func(n int) []impl.Fraction { return slices.Repeat(frs("1"), n) }
	large := mat("31623 0;0 1")
	for _, c := range []struct {
		flags  []impl.Flag
		pivots []impl.Fraction
		rows   [][]impl.Fraction
		code   int64
	}{
		{both, frs("1 1"), mat("1 0;0 1"), impl.OK}, {both, frs("-1 0"), mat("1 0;0 1"), impl.OK}, {both, frs("1 1"), large, impl.ErrLimit}, {strange, frs("1 1"), large, impl.ErrLimit}, {nil, frs("1 1"), large, impl.ErrLimit}, {both, frs("2 1"), mat("31622 0;0 1"), impl.ErrLimit},
		{both, frs("1"), mat("1"), impl.ErrState}, {both, nil, nil, impl.ErrState}, {nil, nil, nil, impl.ErrState}, {nil, frs("1"), mat("1"), impl.ErrState}, {both, frs("1 1 1"), mat("1 0 0;0 1 0;0 0 1"), impl.ErrState}, {strange, frs("1 1"), mat("1 0;0 1"), impl.ErrState}, {[]impl.Flag{gap, flag(t, 1, "graph 3")}, frs("1 1"), mat("1 0;0 1"), impl.ErrState},
		{copiesOf(edge, 9), ones(9), slices.Repeat([][]impl.Fraction{ones(9)}, 9), impl.ErrRange}, {copiesOf(edge, 9), ones(8), slices.Repeat([][]impl.Fraction{ones(8)}, 8), impl.ErrState}, {copiesOf(edge, 8), ones(8), slices.Repeat([][]impl.Fraction{ones(8)}, 8), impl.OK}, {copiesOf(edge, 7), ones(8), slices.Repeat([][]impl.Fraction{ones(8)}, 8), impl.ErrState},
		{both, frs("1 1"), mat("1 0"), impl.ErrRange}, {both, frs("1 1"), mat("1 0;0"), impl.ErrRange}, {both, frs("1 1"), mat("31623 0;0 31623;1 1"), impl.ErrRange}, {strange, frs("1"), mat("1;1"), impl.ErrRange}, {nil, frs("1"), nil, impl.ErrRange}, {nil, nil, mat("1"), impl.ErrRange},
		{both, ones(257), nil, impl.ErrInvalid}, {both, ones(256), nil, impl.ErrRange}, {both, frs("1 1"), [][]impl.Fraction{ones(257), ones(2)}, impl.ErrInvalid}, {strange, ones(257), nil, impl.ErrInvalid}, {nil, nil, [][]impl.Fraction{ones(257)}, impl.ErrInvalid},
	} {
		checkMadeBlock(t, c.flags, c.pivots, c.rows, c.code)
	}
	for _, bad := range badFlags() {
		for _, flags := range [][]impl.Flag{{bad}, {gap, bad}, append(copiesOf(edge, 9), bad)} {
			checkMadeBlock(t, flags, frs("1 1"), mat("1 0;0 1"), impl.ErrInvalid)
			checkMadeBlock(t, flags, frs("1 1"), large, impl.ErrInvalid)
			checkMadeBlock(t, flags, nil, mat("1"), impl.ErrInvalid)
		}
	}
	for _, bad := range badFractions() {
		for _, flags := range [][]impl.Flag{both, strange, nil} {
			checkMadeBlock(t, flags, []impl.Fraction{bad}, mat("1"), impl.ErrInvalid)
			checkMadeBlock(t, flags, []impl.Fraction{fr("1"), bad}, nil, impl.ErrInvalid)
			checkMadeBlock(t, flags, frs("1 1"), append(slices.Clone(large), []impl.Fraction{bad}), impl.ErrInvalid)
		}
	}
}

func TestMergedCertificates(t *testing.T) {
	random := seeded(69)
	s := impl.Statement{Target: edgeSum(), Bound: fr("1")}
	for size := int64(2); size <= 5; size++ {
		for other := int64(2); other <= 5; other++ {
			for n := range impl.MaxBlocks + 1 {
				for m := range impl.MaxBlocks + 1 {
					c, d := certificateOf(size), certificateOf(other)
					for range n {
						c.Blocks = append(c.Blocks, someBlock(random, size, someFractionsOf(random)[2]))
					}
					for range m {
						d.Blocks = append(d.Blocks, someBlock(random, other, someFractionsOf(random)[2]))
					}
					want, wantCode := certificateOf(max(size, other), slices.Concat(c.Blocks, d.Blocks)...), int64(impl.OK)
					if n+m > impl.MaxBlocks {
						want, wantCode = impl.Certificate{}, impl.ErrLimit
					}
					got, code := impl.MergeCertificates(s, c, d)
					if code != wantCode || !sameCertificates(got, want) || code == impl.OK && !impl.ValidCertificate(s, got) {
						t.Fatalf("MergeCertificates %v, %v: %v, code %d, want code %d", c, d, got, code, wantCode)
					}
				}
			}
		}
	}
	// Twice the example takes more than there is.
	both, code := impl.MergeCertificates(mantel("1/2"), certified(), certified())
	if p := checkProof(t, mantel("1/2"), both); code != impl.OK || !slices.Equal(p.slacks, frs("-1/2 1/2 1/6")) {
		t.Errorf("twice the example leaves %v, code %d", p.slacks, code)
	}
}

// checkShrunk holds ShrinkCertificate against the blocks that are not 0, and the
// least of all sizes.
func checkShrunk(t *testing.T, s impl.Statement, c impl.Certificate) impl.Certificate {
	t.Helper()
	want := impl.Certificate{}
	for _, b := range c.Blocks {
		if !equalRows(b.Matrix, symmetric(len(b.Flags), slices.Repeat(frs("0"), 36))) {
			want.Blocks = append(want.Blocks, b)
		}
	}
	for !impl.ValidCertificate(s, want) && want.Size <= 5 {
		want.Size++
	}
	got, code := impl.ShrinkCertificate(s, c)
	if code != impl.OK || !sameCertificates(got, want) || !impl.ValidCertificate(s, got) {
		t.Fatalf("ShrinkCertificate %v, %v: %v, code %d, want %v", s, c, got, code, want)
	}
	again, code := impl.ShrinkCertificate(s, got)
	if code != impl.OK || !sameCertificates(again, got) {
		t.Fatalf("ShrinkCertificate %v, %v: %v, code %d", s, got, again, code)
	}
	return got
}

func TestShrunkCertificates(t *testing.T) {
	random := seeded(70)
	for round := range 600 {
		s, c := someCase(t, random, someFractionsOf(random)[round%3])
		small := checkShrunk(t, s, c)
		// In the same size, blocks that have only 0 change no slack.
		for _, g := range freeOf(c.Size, s.Forbidden)[:min(2, len(freeOf(c.Size, s.Forbidden)))] {
			first, code := impl.SlackAt(s, c, g)
			second, codeOfSecond := impl.SlackAt(s, impl.Certificate{Size: c.Size, Blocks: small.Blocks}, g)
			checkFraction(t, fmt.Sprint("SlackAt ", s, small, g), second, codeOfSecond, first, code)
		}
	}
}

func TestShrunkCertificatesThatAreWrittenOut(t *testing.T) {
	full, zero := certified().Blocks[0], blockOn(pair, "0 0;0 0")
	wide, wideZero := blockOn(kind{impl.Graph{}, 2}, "0 0;0 1"), blockOn(kind{impl.Graph{N: 3}, 4}, "0 0 0;0 0 0;0 0 0")
	corner, point := blockOn(pair, "0 0;0 1/9"), blockOn(kind{impl.Graph{}, 0}, "-1")
	beside := blockOn(pair, "0 1;1 0")
	for _, c := range []struct {
		of    int64
		given impl.Certificate
		want  impl.Certificate
	}{
		{2, certificateOf(5), certificateOf(2)}, {0, certificateOf(5), certificateOf(0)}, {5, certificateOf(5), certificateOf(5)}, {0, certificateOf(0), certificateOf(0)}, {2, certificateOf(5, full), certificateOf(3, full)}, {4, certificateOf(5, full), certificateOf(4, full)}, {2, certificateOf(3, full), certificateOf(3, full)},
		{2, certificateOf(5, zero), certificateOf(2)}, {2, certificateOf(5, zero, full, zero), certificateOf(3, full)}, {1, certificateOf(5, wideZero, wideZero), certificateOf(1)}, {1, certificateOf(5, wide, wideZero, full), certificateOf(4, wide, full)}, {1, certificateOf(5, full, wide), certificateOf(4, full, wide)},
		{3, certificateOf(5, corner, zero), certificateOf(3, corner)}, {0, certificateOf(5, beside), certificateOf(3, beside)}, {0, certificateOf(5, point), certificateOf(0, point)}, {0, certificateOf(3, zero, zero, zero, zero, zero, zero), certificateOf(0)}, {0, certificateOf(5, full, full, full, full, full, full), certificateOf(3, full, full, full, full, full, full)},
	} {
		s := impl.Statement{Target: ones(kind{impl.Graph{}, c.of}, 1), Bound: fr("1")}
		if got := checkShrunk(t, s, c.given); !sameCertificates(got, c.want) {
			t.Errorf("ShrinkCertificate %v for the size %d: %v, want %v", c.given, c.of, got, c.want)
		}
	}
}
