package tests

import (
	"fmt"
	"slices"
	"testing"

	"loop.example/g01169/impl"
)

// Promise 11, where fractions are too large: which error or which fault comes
// first.

// Matrices: positive, not positive, and with a check that is too large (one of
// them would be positive, and one would not).
const (
	fine      = "1/2 -1/2;-1/2 1/2"
	wrong     = "1 2;2 1"
	tooGreat  = "1 31623;31623 1000000000"
	tooGreat2 = "1 40000;40000 1000000000"
)

// checkCodes holds the codes of all functions about proofs against those that
// are told.
func checkCodes(t *testing.T, s impl.Statement, c impl.Certificate, fault, at, codeOfFault, tight, best, slacks int64) {
	t.Helper()
	checkProof(t, s, c)
	gotFault, gotAt, code := impl.FirstFault(s, c)
	if gotFault != fault || gotAt != at || code != codeOfFault {
		t.Errorf("FirstFault %v, %v: %d at %d, code %d, want %d at %d, code %d", s, c, gotFault, gotAt, code, fault, at, codeOfFault)
	}
	proved, code := impl.IsProved(s, c)
	if wanted := codeOfFault == impl.ErrNotFound; proved != wanted || code != codeOfFault && !wanted || code != impl.OK && wanted {
		t.Errorf("IsProved %v, %v: %t, code %d", s, c, proved, code)
	}
	graphs, code := impl.TightGraphs(s, c)
	isRefused(t, fmt.Sprint("TightGraphs ", s, c), tight == impl.OK || len(graphs) == 0, code, tight)
	bound, code := impl.BestBound(s, c)
	isRefused(t, fmt.Sprint("BestBound ", s, c), best == impl.OK || isZero(bound), code, best)
	list, code := impl.SlacksOf(s, c)
	isRefused(t, fmt.Sprint("SlacksOf ", s, c), slacks == impl.OK || len(list) == 0, code, slacks)
}

func TestMatricesWhoseCheckIsTooLarge(t *testing.T) {
	const ok, limit, proof, none = impl.OK, impl.ErrLimit, impl.ErrProof, impl.ErrNotFound
	// The flags of the blocks make all values whole numbers that are small
	// enough, for a graph without vertices.
	point := kind{impl.Graph{}, 0}
	for _, c := range []struct {
		blocks               []string
		fault, at, faultCode int64
		tight                int64
	}{
		{nil, 0, 0, none, ok}, {[]string{fine}, 0, 0, none, ok}, {[]string{wrong}, impl.FtMatrix, 0, ok, proof}, {[]string{tooGreat}, 0, 0, limit, limit}, {[]string{tooGreat2}, 0, 0, limit, limit},
		{[]string{wrong, tooGreat}, impl.FtMatrix, 0, ok, proof}, {[]string{tooGreat, wrong}, 0, 0, limit, limit}, {[]string{tooGreat2, wrong}, 0, 0, limit, limit}, {[]string{fine, wrong, tooGreat}, impl.FtMatrix, 1, ok, proof}, {[]string{fine, tooGreat, wrong}, 0, 0, limit, limit}, {[]string{fine, fine, tooGreat}, 0, 0, limit, limit},
		{[]string{"0", fine, "0", "-1", tooGreat}, impl.FtMatrix, 3, ok, proof}, {[]string{"0", "0", "0", "0", "0", "-1"}, impl.FtMatrix, 5, ok, proof}, {[]string{"0", "0", "0", "0", "0", tooGreat}, 0, 0, limit, limit}, {[]string{"0", "1", "2"}, 0, 0, none, ok},
	} {
		certificate := impl.Certificate{}
		for _, m := range c.blocks {
			b := impl.Block{Flags: copiesOf(flagsOf(point)[0], len(mat(m))), Matrix: mat(m)}
			certificate.Blocks = append(certificate.Blocks, b)
		}
		// With a graph, with none, and with a bound that is not proved.
		best := int64(impl.ErrNotFound)
		if c.tight != impl.OK {
			best = c.tight
		}
		certificate.Size = 2
		checkCodes(t, impl.Statement{Forbidden: []impl.Graph{{N: 2}}, Bound: fr("1")}, certificate, c.fault, c.at, c.faultCode, c.tight, best, impl.OK)
		certificate.Size = 0
		slack := wantProof(impl.Statement{Bound: fr("-1")}, certificate).slacksCode
		if c.faultCode == none {
			checkCodes(t, impl.Statement{Bound: fr("1000")}, certificate, 0, 0, none, ok, ok, ok)
			checkCodes(t, impl.Statement{Bound: fr("-1")}, certificate, impl.FtSlack, 0, ok, ok, ok, ok)
		} else {
			checkCodes(t, impl.Statement{Bound: fr("-1")}, certificate, c.fault, c.at, c.faultCode, c.tight, c.tight, slack)
		}
	}
}

// The slacks of graphs are told one by one, by a target with as many vertices:
// "L" is too large, "-" is less than 0, "0" is 0, and "+" is more.
func slacksAs(words string) impl.Statement {
	s := impl.Statement{Target: impl.FlagSum{Size: 3}, Bound: fr("1/65536")}
	for i, word := range words {
		by := map[rune]string{'L': "1/65537", '-': "1", '0': "1/65536", '+': "-1"}[word]
		s.Target.Terms = append(s.Target.Terms, impl.Term{Flag: flagsOf(kind{impl.Graph{}, 3})[i], By: fr(by)})
	}
	return s
}

func TestSlacksThatAreTooLarge(t *testing.T) {
	const ok, limit, none = impl.OK, impl.ErrLimit, impl.ErrNotFound
	for _, a := range "L-0+" {
		for _, b := range "L-0+" {
			for _, c := range "L-0+" {
				for _, d := range "L-0+" {
					words := string([]rune{a, b, c, d})
					large, less := slices.Index([]byte(words), 'L'), slices.Index([]byte(words), '-')
					s, certificate := slacksAs(words), certificateOf(3)
					switch {
					case large >= 0 && less >= 0 && less < large:
						checkCodes(t, s, certificate, impl.FtSlack, int64(less), ok, limit, limit, limit)
					case large >= 0:
						checkCodes(t, s, certificate, 0, 0, limit, limit, limit, limit)
					case less >= 0:
						checkCodes(t, s, certificate, impl.FtSlack, int64(less), ok, ok, ok, ok)
					default:
						checkCodes(t, s, certificate, 0, 0, none, ok, ok, ok)
					}
				}
			}
		}
	}
}

// All matrices come before all slacks.
func TestMatricesComeBeforeSlacks(t *testing.T) {
	const ok, limit, proof = impl.OK, impl.ErrLimit, impl.ErrProof
	great := blockOn(pair, tooGreat)
	for _, words := range []string{"LLLL", "----", "-L--", "L---", "0000", "++++"} {
		s := slacksAs(words)
		checkCodes(t, s, certificateOf(3, blockOn(pair, "-1")), impl.FtMatrix, 0, ok, proof, proof, wantProof(s, certificateOf(3, blockOn(pair, "-1"))).slacksCode)
		checkCodes(t, s, certificateOf(3, blockOn(pair, "0"), blockOn(pair, "0 1;1 0")), impl.FtMatrix, 1, ok, proof, proof, wantProof(s, certificateOf(3, blockOn(pair, "0 1;1 0"))).slacksCode)
		checkCodes(t, s, certificateOf(3, great), 0, 0, limit, limit, limit, limit)
		s.Forbidden = []impl.Graph{{N: 3}}
		checkCodes(t, s, certificateOf(3, blockOn(pair, "-1")), impl.FtMatrix, 0, ok, proof, proof, ok)
		checkCodes(t, s, certificateOf(3, great), 0, 0, limit, limit, limit, ok)
	}
}

// Bound less the least slack is too large, although no slack is.
func TestBestBoundsAtTheLimit(t *testing.T) {
	const ok, limit = impl.OK, impl.ErrLimit
	for _, c := range []struct {
		bound, target, block, best string
	}{
		{"1000000000", "1000000000", "1000000000", ""}, {"1000000000", "1000000000", "0", "1000000000"}, {"1000000000", "999999999", "1", "1000000000"}, {"1000000000", "999999999", "2", ""}, {"0", "-1000000000", "1000000000", "0"}, {"-1", "-1000000000", "0", "-1000000000"}, {"-500000000", "-1000000000", "500000001", "-499999999"},
		// Each two of three primes make a denominator, all three do not.
		{"337/1022117", "1/1032247", "1/1028171", ""}, {"337/1022117", "1/1032247", "0", "1/1032247"}, {"1000000000", "0", "0", "0"}, {"-1000000000", "0", "0", "0"}, {"1/65536", "1/65536", "1/65537", ""}, {"1/65536", "0", "1/65536", "1/65536"},
	} {
		s := impl.Statement{Target: inOrder(impl.Graph{}, 0, c.target), Bound: fr(c.bound)}
		certificate := impl.Certificate{Blocks: []impl.Block{{Flags: []impl.Flag{{}}, Matrix: mat(c.block)}}}
		p := checkProof(t, s, certificate)
		want, wantCode := impl.Fraction{}, int64(limit)
		if c.best != "" {
			want, wantCode = fr(c.best), ok
		}
		best, code := impl.BestBound(s, certificate)
		checkFraction(t, fmt.Sprint("BestBound ", c), best, code, want, wantCode)
		isRefused(t, fmt.Sprint("SlacksOf ", c), len(p.slacks) == 1, p.slacksCode, ok)
	}
}
