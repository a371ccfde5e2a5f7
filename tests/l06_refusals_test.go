package tests

import (
	"fmt"
	"testing"

	"loop.example/g01169/impl"
)

// Promises 11 and 12 where there is no result: each function returns the error
// that the document names first, and nothing else.

// checkRefusedCase calls all functions of a statement and a certificate, one of
// which is not valid.
func checkRefusedCase(t *testing.T, s impl.Statement, c impl.Certificate) {
	t.Helper()
	what := fmt.Sprint(s, c)
	for _, g := range []impl.Graph{{}, {N: 3, Edges: 7}, {N: c.Size}, {N: -1}} {
		value, code := impl.SlackAt(s, c, g)
		isRefused(t, fmt.Sprint("SlackAt ", what, g), isZero(value), code, impl.ErrInvalid)
	}
	slacks, code := impl.SlacksOf(s, c)
	isRefused(t, "SlacksOf "+what, len(slacks) == 0, code, impl.ErrInvalid)
	fault, at, code := impl.FirstFault(s, c)
	isRefused(t, "FirstFault "+what, fault == 0 && at == 0, code, impl.ErrInvalid)
	proved, code := impl.IsProved(s, c)
	isRefused(t, "IsProved "+what, !proved, code, impl.ErrInvalid)
	tight, code := impl.TightGraphs(s, c)
	isRefused(t, "TightGraphs "+what, len(tight) == 0, code, impl.ErrInvalid)
	best, code := impl.BestBound(s, c)
	isRefused(t, "BestBound "+what, isZero(best), code, impl.ErrInvalid)
	small, code := impl.ShrinkCertificate(s, c)
	isRefused(t, "ShrinkCertificate "+what, noCertificate(small), code, impl.ErrInvalid)
	full := impl.Certificate{Size: 5}
	for range impl.MaxBlocks {
		full.Blocks = append(full.Blocks, certified().Blocks[0])
	}
	for _, d := range []impl.Certificate{certified(), full, c} {
		both, code := impl.MergeCertificates(s, c, d)
		isRefused(t, "MergeCertificates "+what, noCertificate(both), code, impl.ErrInvalid)
		both, code = impl.MergeCertificates(s, d, c)
		isRefused(t, "MergeCertificates turned round "+what, noCertificate(both), code, impl.ErrInvalid)
	}
}

func TestWhatIsNotValidIsRefused(t *testing.T) {
	notPositive, great := certificateOf(3, blockOn(pair, wrong)), certificateOf(3, blockOn(pair, tooGreat))
	for _, s := range badStatements() {
		for _, c := range []impl.Certificate{certified(), notPositive, great, {}, certificateOf(5)} {
			checkRefusedCase(t, s, c)
		}
	}
	for _, c := range badCertificates() {
		checkRefusedCase(t, mantel("1/2"), c)
		checkRefusedCase(t, impl.Statement{}, c)
	}
	// A certificate that is valid for one statement is not for another one.
	greater := mantel("1/2")
	greater.Target = inOrder(impl.Graph{}, 4, "1")
	checkRefusedCase(t, greater, certified())
	both, code := impl.MergeCertificates(greater, certificateOf(5), certificateOf(4))
	isRefused(t, "MergeCertificates of two that are large enough", sameCertificates(both, certificateOf(5)), code, impl.OK)
}

func TestBlockValuesThatAreRefused(t *testing.T) {
	good := certified().Blocks[0]
	for _, bad := range badBlocks() {
		for _, g := range []impl.Graph{{}, {N: 3, Edges: 3}, {N: 5}, {N: 6}} {
			value, code := impl.BlockValue(bad, g)
			isRefused(t, fmt.Sprint("BlockValue ", bad, g), isZero(value), code, impl.ErrInvalid)
		}
	}
	for _, bad := range badGraphs() {
		for _, b := range []impl.Block{good, blockOn(kind{impl.Graph{}, 5}, "1"), blockOn(kind{impl.Graph{}, 0}, "0"), {}} {
			value, code := impl.BlockValue(b, bad)
			isRefused(t, fmt.Sprint("BlockValue ", b, bad), isZero(value), code, impl.ErrInvalid)
		}
	}
	// As many vertices as the room, and one less, with a matrix that is too
	// large as soon as there is room.
	for _, k := range everyKind() {
		for n := range int64(6) {
			for _, m := range []string{"0", "1", "1000000000 1000000000;1000000000 1000000000"} {
				b := impl.Block{Flags: copiesOf(flagsOf(k)[0], len(mat(m))), Matrix: mat(m)}
				value, code := impl.BlockValue(b, impl.Graph{N: n})
				switch {
				case n < roomIn(k):
					isRefused(t, fmt.Sprint("BlockValue ", b, n), isZero(value), code, impl.ErrRange)
				case len(m) > 1 && k.typ.Edges == 0:
					isRefused(t, fmt.Sprint("BlockValue ", b, n), isZero(value), code, impl.ErrLimit)
				default:
					isRefused(t, fmt.Sprint("BlockValue ", b, n), value.Q > 0, code, impl.OK)
				}
			}
		}
	}
}

// The number of vertices comes before the parts, and these before slacks that
// are too large.
func TestSlacksThatAreRefused(t *testing.T) {
	s, c := mantel("1/2"), certified()
	great := slacksAs("LLLL")
	great.Forbidden = []impl.Graph{{N: 3, Edges: 3}}
	for _, bad := range badGraphs() {
		value, code := impl.SlackAt(s, c, bad)
		isRefused(t, fmt.Sprint("SlackAt ", bad), isZero(value), code, impl.ErrInvalid)
	}
	for _, g := range graphsUpTo(5) {
		for _, s := range []impl.Statement{s, great} {
			want := int64(impl.OK)
			switch {
			case g.N != 3:
				want = impl.ErrRange
			case contains(g, s.Forbidden[0]):
				want = impl.ErrState
			case s.Target.Size == 3:
				want = impl.ErrLimit
			}
			value, code := impl.SlackAt(s, c, g)
			isRefused(t, fmt.Sprint("SlackAt ", s, g), isZero(value) == (want != impl.OK), code, want)
		}
	}
	all := impl.Statement{Forbidden: []impl.Graph{{}}, Bound: fr("0")}
	value, code := impl.SlackAt(all, impl.Certificate{}, impl.Graph{})
	isRefused(t, "SlackAt of a graph that has all parts", isZero(value), code, impl.ErrState)
}
