package tests

import (
	"slices"
	"testing"

	"loop.example/g01169/impl"
)

// What is valid, and what is the same: the statements, blocks and certificates
// of which promises 11 and 12 speak.

func TestValidStatements(t *testing.T) {
	none, triangle := impl.Graph{}, impl.Graph{N: 3, Edges: 7}
	good := []impl.Statement{mantel("1/2"), mantel("0"), mantel("1000000000"), mantel("-1000000000"), mantel("1/1000000000"), mantel("-999999999/1000000000"), {Bound: fr("0")}, {Target: inOrder(none, 0, "7"), Bound: fr("1")}}
	for n := range impl.MaxForbidden + 1 {
		good = append(good, impl.Statement{Forbidden: times(triangle, n), Target: edgeSum(), Bound: fr("1")})
	}
	for _, forbidden := range forbiddenLists(t) {
		good = append(good, impl.Statement{Forbidden: forbidden, Target: inOrder(none, 5, "1 -1 1/2"), Bound: fr("1")})
	}
	for size := range int64(6) {
		k := kind{none, size}
		good = append(good, impl.Statement{Target: ones(k, 0), Bound: fr("1")}, impl.Statement{Target: ones(k, len(flagsOf(k))), Bound: fr("1")})
	}
	for _, s := range good {
		if !impl.ValidStatement(s) {
			t.Errorf("not valid: %v", s)
		}
	}
	bad := badStatements()
	for _, k := range everyKind() {
		if k.typ.N > 0 {
			bad = append(bad, impl.Statement{Target: ones(k, 0), Bound: fr("1")}, impl.Statement{Target: ones(k, 1), Bound: fr("1")})
		}
	}
	for _, s := range bad {
		if impl.ValidStatement(s) {
			t.Errorf("valid: %v", s)
		}
	}
}

func TestValidBlocks(t *testing.T) {
	for _, k := range everyKind() {
		flags := flagsOf(k)
		for n := 1; n <= impl.MaxMatrix; n++ {
			some := slices.Repeat(flags, impl.MaxMatrix)[:n]
			b := impl.Block{Flags: some, Matrix: symmetric(n, slices.Repeat(frs("-1000000000"), n*(n+1)/2))}
			if !impl.ValidBlock(b) {
				t.Errorf("not valid: %v", b)
			}
			b.Flags = append([]impl.Flag{backwards(flags[len(flags)-1])}, some[1:]...)
			if !impl.ValidBlock(b) {
				t.Errorf("not valid with a turned flag: %v", b)
			}
		}
	}
	for _, b := range badBlocks() {
		if impl.ValidBlock(b) {
			t.Errorf("valid: %v", b)
		}
	}
}

func TestValidCertificates(t *testing.T) {
	random := seeded(61)
	for size := int64(-1); size <= 6; size++ {
		for of := range int64(6) {
			s := impl.Statement{Target: ones(kind{impl.Graph{}, of}, 1), Bound: fr("1/2")}
			if got, want := impl.ValidCertificate(s, certificateOf(size)), size >= of && size <= 5; got != want {
				t.Errorf("the size %d for a sum of the size %d: %t", size, of, got)
			}
		}
		s := impl.Statement{Bound: fr("0")}
		for _, k := range everyKind() {
			for n := 1; n <= 7; n++ {
				c := certificateOf(size)
				for range n {
					c.Blocks = append(c.Blocks, squareOn(random, kind{impl.Graph{}, 0}))
				}
				c.Blocks[random.IntN(n)] = squareOn(random, k)
				if got, want := impl.ValidCertificate(s, c), size >= roomIn(k) && size >= 0 && size <= 5 && n <= impl.MaxBlocks; got != want {
					t.Errorf("%d blocks, one of them of %v, in the size %d: %t", n, k, size, got)
				}
			}
		}
	}
	for _, c := range badCertificates() {
		if impl.ValidCertificate(mantel("1/2"), c) {
			t.Errorf("valid: %v", c)
		}
	}
	for _, s := range badStatements() {
		for _, c := range []impl.Certificate{{}, certified(), certificateOf(5), certificateOf(s.Target.Size)} {
			if impl.ValidCertificate(s, c) {
				t.Errorf("valid for a statement that is not: %v, %v", s, c)
			}
		}
	}
	if !impl.ValidCertificate(impl.Statement{Bound: fr("0")}, impl.Certificate{}) {
		t.Error("the certificate of size 0 is not valid")
	}
}

// Each two of these are different, although each differs from the first one in
// just one place.
func TestSameStatements(t *testing.T) {
	list := []impl.Statement{mantel("1/2"), {}}
	change := func(by func(s *impl.Statement)) {
		s := mantel("1/2")
		by(&s)
		list = append(list, s)
	}
	change(func(s *impl.Statement) { s.Bound.P = 2 })
	change(func(s *impl.Statement) { s.Bound.Q = 0 })
	change(func(s *impl.Statement) { s.Forbidden = nil })
	change(func(s *impl.Statement) { s.Forbidden[0].N = -3 })
	change(func(s *impl.Statement) { s.Forbidden[0].Edges = 3 })
	change(func(s *impl.Statement) { s.Forbidden = times(s.Forbidden[0], 2) })
	change(func(s *impl.Statement) { s.Target.Size = 3 })
	change(func(s *impl.Statement) { s.Target.Type.N = 1 })
	change(func(s *impl.Statement) { s.Target.Type.Edges = 1 })
	change(func(s *impl.Statement) { s.Target.Terms = nil })
	change(func(s *impl.Statement) { s.Target.Terms[0].By.Q = 2 })
	change(func(s *impl.Statement) { s.Target.Terms[0].Flag.Labels = 9 })
	change(func(s *impl.Statement) { s.Target.Terms = append(s.Target.Terms, s.Target.Terms[0]) })
	for i, a := range list {
		for j, b := range list {
			b.Forbidden, b.Target.Terms = slices.Clone(b.Forbidden), slices.Clone(b.Target.Terms)
			if impl.SameStatement(a, b) != (i == j) {
				t.Errorf("SameStatement %v, %v: %t", a, b, i != j)
			}
		}
	}
	if !impl.SameStatement(impl.Statement{}, impl.Statement{Forbidden: []impl.Graph{}, Target: impl.FlagSum{Terms: []impl.Term{}}}) {
		t.Error("nil and empty lists make different statements")
	}
}

func TestSameCertificates(t *testing.T) {
	list := []impl.Certificate{certified(), {}}
	change := func(by func(c *impl.Certificate, b *impl.Block)) {
		c := certified()
		by(&c, &c.Blocks[0])
		list = append(list, c)
	}
	change(func(c *impl.Certificate, b *impl.Block) { c.Size = -1 })
	change(func(c *impl.Certificate, b *impl.Block) { c.Blocks = nil })
	change(func(c *impl.Certificate, b *impl.Block) { c.Blocks = append(c.Blocks, *b) })
	change(func(c *impl.Certificate, b *impl.Block) { c.Blocks = append(c.Blocks, impl.Block{}) })
	change(func(c *impl.Certificate, b *impl.Block) { b.Flags = nil })
	change(func(c *impl.Certificate, b *impl.Block) { b.Flags = b.Flags[:1] })
	change(func(c *impl.Certificate, b *impl.Block) { b.Flags = append(b.Flags, b.Flags[1]) })
	change(func(c *impl.Certificate, b *impl.Block) { b.Flags[1].Labels = 0 })
	change(func(c *impl.Certificate, b *impl.Block) { b.Flags[1].Graph.N = 3 })
	change(func(c *impl.Certificate, b *impl.Block) { b.Flags[0].Graph.Edges = 1 })
	change(func(c *impl.Certificate, b *impl.Block) { b.Matrix = nil })
	change(func(c *impl.Certificate, b *impl.Block) { b.Matrix = b.Matrix[:1] })
	change(func(c *impl.Certificate, b *impl.Block) { b.Matrix = append(b.Matrix, nil) })
	change(func(c *impl.Certificate, b *impl.Block) { b.Matrix[1] = b.Matrix[1][:1] })
	change(func(c *impl.Certificate, b *impl.Block) { b.Matrix[1][0].P = 1 })
	change(func(c *impl.Certificate, b *impl.Block) { b.Matrix[1][1].Q = 0 })
	for i, a := range list {
		for j, b := range list {
			if impl.SameCertificate(a, copyOfCertificate(b)) != (i == j) {
				t.Errorf("SameCertificate %v, %v: %t", a, b, i != j)
			}
		}
	}
	empty := impl.Certificate{Blocks: []impl.Block{{Flags: []impl.Flag{}, Matrix: [][]impl.Fraction{{}}}}}
	if !impl.SameCertificate(impl.Certificate{}, impl.Certificate{Blocks: []impl.Block{}}) || !impl.SameCertificate(empty, impl.Certificate{Blocks: []impl.Block{{Matrix: [][]impl.Fraction{nil}}}}) {
		t.Error("nil and empty lists make different certificates")
	}
}

// copyOfCertificate returns a certificate in new memory.
func copyOfCertificate(c impl.Certificate) impl.Certificate {
	made := impl.Certificate{Size: c.Size}
	for _, b := range c.Blocks {
		block := impl.Block{Flags: slices.Clone(b.Flags)}
		for _, row := range b.Matrix {
			block.Matrix = append(block.Matrix, slices.Clone(row))
		}
		made.Blocks = append(made.Blocks, block)
	}
	return made
}
