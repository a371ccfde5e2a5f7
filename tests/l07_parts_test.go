package tests

import (
	"fmt"
	"slices"
	"testing"

	"loop.example/g01169/impl"
)

// Promise 13, its second half: a part that is divided changes no density, nor
// does one that is made of two.

// validOr returns the pattern and OK if the weights are those of a valid one, and
// otherwise nothing and ErrLimit.
func validOr(r *reckoner, p impl.Pattern) (impl.Pattern, int64) {
	if r.tooLarge {
		return impl.Pattern{}, impl.ErrLimit
	}
	sum := rat(p.Weights[0])
	for _, weight := range p.Weights[1:] {
		sum = r.add(sum, rat(weight))
	}
	if r.tooLarge {
		return impl.Pattern{}, impl.ErrLimit
	}
	return p, impl.OK
}

// wantSplit returns what SplitPart has to return for a part and a share that
// there are.
func wantSplit(p impl.Pattern, part int64, share impl.Fraction) (impl.Pattern, int64) {
	n := p.Graph.N
	if n == 4 {
		return impl.Pattern{}, impl.ErrLimit
	}
	made := impl.Pattern{Graph: impl.Graph{N: n + 1, Edges: p.Graph.Edges}, Loops: p.Loops, Weights: slices.Clone(p.Weights)}
	for other := range n {
		if meet(p, other, part) {
			made.Graph.Edges += bitOf(other, n)
		}
	}
	if meet(p, part, part) {
		made.Loops += 1 << n
	}
	var r reckoner
	further := r.mul(rat(share), rat(p.Weights[part]))
	left := r.sub(rat(p.Weights[part]), further)
	if !r.tooLarge {
		made.Weights[part] = ofRat(left)
		made.Weights = append(made.Weights, ofRat(further))
	}
	return validOr(&r, made)
}

// wantJoined returns what JoinParts has to return for a valid pattern.
func wantJoined(p impl.Pattern, a, b int64) (impl.Pattern, int64) {
	n := p.Graph.N
	if a < 0 || b < 0 || a >= n || b >= n || a == b {
		return impl.Pattern{}, impl.ErrRange
	}
	if meet(p, a, a) != meet(p, b, b) || meet(p, a, b) != meet(p, a, a) {
		return impl.Pattern{}, impl.ErrState
	}
	var others []int64
	for part := range n {
		if part != a && part != b && meet(p, part, a) != meet(p, part, b) {
			return impl.Pattern{}, impl.ErrState
		}
		if part != b {
			others = append(others, part)
		}
	}
	var r reckoner
	var made impl.Pattern
	both := r.add(rat(p.Weights[a]), rat(p.Weights[b]))
	if r.tooLarge {
		return impl.Pattern{}, impl.ErrLimit
	}
	made.Graph = graphOn(p.Graph, others)
	for i, part := range others {
		if meet(p, part, part) {
			made.Loops += 1 << i
		}
		if part == a {
			made.Weights = append(made.Weights, ofRat(both))
		} else {
			made.Weights = append(made.Weights, p.Weights[part])
		}
	}
	return validOr(&r, made)
}

// checkSplit holds SplitPart against what is wanted, and returns the pattern.
func checkSplit(t *testing.T, p impl.Pattern, part int64, share impl.Fraction) (impl.Pattern, int64) {
	t.Helper()
	want, wantCode := wantSplit(p, part, share)
	q, code := impl.SplitPart(p, part, share)
	checkPattern(t, fmt.Sprint("SplitPart ", p, part, share), q, code, want, wantCode)
	return q, code
}

// checkJoin does so for JoinParts.
func checkJoin(t *testing.T, p impl.Pattern, a, b int64) (impl.Pattern, int64) {
	t.Helper()
	want, wantCode := wantJoined(p, a, b)
	q, code := impl.JoinParts(p, a, b)
	checkPattern(t, fmt.Sprint("JoinParts ", p, a, b), q, code, want, wantCode)
	return q, code
}

// checkSameDensities fails unless two patterns have the same densities of all
// graphs with so many vertices.
func checkSameDensities(t *testing.T, p, q impl.Pattern, n int64) {
	t.Helper()
	one, code := impl.DensitiesIn(p, n)
	other, code2 := impl.DensitiesIn(q, n)
	if code != impl.OK || code2 != impl.OK || !slices.Equal(one, other) {
		t.Fatalf("DensitiesIn of %d vertices: %v, code %d in %v, and %v, code %d in %v", n, one, code, p, other, code2, q)
	}
}

func TestPartsThatAreDividedChangeNoDensity(t *testing.T) {
	random := seeded(89)
	shares := frs("0 1 1/2 1/3 5/7")
	for round, s := range shapesUpTo(3) {
		p := s.with(someWeights(random, s.graph.N, 12))
		for part := range s.graph.N {
			for i, share := range shares {
				q, _ := checkSplit(t, p, part, share)
				checkSameDensities(t, p, q, 2)
				if i == round%5 {
					checkSameDensities(t, p, q, 3)
					checkSameDensities(t, p, q, 4)
				}
				// Joined again, the parts are what they have been; in the other
				// order, the part is the last one now.
				again, code := checkJoin(t, q, part, p.Graph.N)
				checkPattern(t, fmt.Sprint("JoinParts ", q), again, code, p, impl.OK)
				last, _ := checkJoin(t, q, p.Graph.N, part)
				checkSameDensities(t, p, last, 3)
			}
		}
	}
	for range 12 {
		p := somePattern(random, 3, 4)
		q, _ := checkSplit(t, p, random.Int64N(p.Graph.N), fr("1/2"))
		checkSameDensities(t, p, q, 5)
	}
}

// Parts that are divided again and again, until there are MaxParts.
func TestPartsThatAreDividedAgain(t *testing.T) {
	random := seeded(90)
	for range 60 {
		p := somePattern(random, 1, 1)
		q := p
		for q.Graph.N < impl.MaxParts {
			q, _ = checkSplit(t, q, random.Int64N(q.Graph.N), fr([]string{"0", "1", "1/2", "2/3"}[random.IntN(4)]))
			checkSameDensities(t, p, q, 4)
		}
		for part := range int64(4) {
			checkSplit(t, q, part, fr("1/2"))
		}
		for q.Graph.N > 1 {
			order := listsWithout(q.Graph.N, 2)
			pair := order[random.IntN(len(order))]
			q, _ = checkJoin(t, q, pair[0], pair[1])
			checkSameDensities(t, p, q, 3)
		}
		checkPattern(t, "one part again", q, impl.OK, p, impl.OK)
	}
}

func TestPartsThatAreJoined(t *testing.T) {
	random := seeded(91)
	codes := map[int64]int{}
	for _, s := range shapesUpTo(4) {
		p := s.with(someWeights(random, s.graph.N, 6))
		for a := int64(-1); a <= s.graph.N; a++ {
			for b := int64(-1); b <= s.graph.N; b++ {
				q, code := checkJoin(t, p, a, b)
				codes[code]++
				if code == impl.OK {
					checkSameDensities(t, p, q, 2)
					checkSameDensities(t, p, q, 3)
				}
			}
		}
	}
	if codes[impl.OK] < 500 || codes[impl.ErrState] < 5000 || codes[impl.ErrLimit] > 0 {
		t.Errorf("codes %v", codes)
	}
}

// Parts that are joined or not, with and without loops, and joined to others in
// the same way or in another one.
func TestPartsThatCanBeJoined(t *testing.T) {
	const ok, state, outside = impl.OK, impl.ErrState, impl.ErrRange
	for _, c := range []struct {
		edges string
		loops uint32
		a, b  int64
		want  int64
	}{
		{"2", 0, 0, 1, ok}, {"2 0-1", 3, 0, 1, ok}, {"2", 3, 0, 1, state}, {"2 0-1", 0, 0, 1, state}, {"2", 1, 0, 1, state}, {"2", 2, 0, 1, state}, {"2 0-1", 1, 0, 1, state}, {"2 0-1", 2, 1, 0, state},
		{"3 0-1 1-2", 0, 0, 2, ok}, {"3 0-1 1-2", 0, 2, 0, ok}, {"3 0-1 1-2", 2, 0, 2, ok}, {"3 0-1 1-2", 0, 0, 1, state}, {"3 0-1", 0, 0, 2, state}, {"3 0-1", 0, 1, 2, state}, {"3 0-1 0-2 1-2", 7, 2, 1, ok}, {"3 0-1 0-2 1-2", 6, 2, 1, ok}, {"3 0-1 0-2 1-2", 5, 2, 1, state}, {"3 0-1", 3, 0, 1, ok}, {"3 0-1 1-2", 3, 0, 1, state},
		{"4 0-1 1-2 0-3 2-3", 0, 0, 2, ok}, {"4 0-1 1-2 0-3 2-3", 0, 3, 1, ok}, {"4 0-1 1-2 0-3 2-3", 5, 0, 2, state}, {"4 0-1 1-2 0-3 2-3", 10, 0, 2, ok}, {"4 0-1 1-2 2-3", 0, 0, 2, state}, {"4 0-1 1-2 2-3", 0, 0, 3, state},
		{"2", 0, 0, 0, outside}, {"2", 0, 1, 1, outside}, {"2", 0, 0, 2, outside}, {"2", 0, 2, 0, outside}, {"2", 0, -1, 0, outside}, {"2", 0, 0, -1, outside}, {"2", 0, -1, -1, outside}, {"2", 0, 2, 2, outside}, {"2", 0, 0, 1 << 32, outside}, {"2", 0, -1 << 63, 1<<63 - 1, outside},
		{"1", 0, 0, 0, outside}, {"1", 1, 0, 1, outside}, {"1", 0, 1, 0, outside},
	} {
		g := graph(t, c.edges)
		p, code := impl.EvenPattern(g, c.loops)
		if code != impl.OK {
			t.Fatalf("EvenPattern %v, %d: code %d", g, c.loops, code)
		}
		q, code := checkJoin(t, p, c.a, c.b)
		isRefused(t, fmt.Sprint("JoinParts ", p, c.a, c.b), noPattern(q) == (c.want != ok), code, c.want)
	}
}

func TestPartsThatAreWrittenOut(t *testing.T) {
	half := pattern(t, "2 0-1", 0, "1/2 1/2")
	for _, c := range []struct {
		p     impl.Pattern
		part  int64
		share string
		want  impl.Pattern
	}{
		{half, 0, "1/2", pattern(t, "3 0-1 1-2", 0, "1/4 1/2 1/4")}, {half, 1, "1/3", pattern(t, "3 0-1 0-2", 0, "1/2 1/3 1/6")}, {half, 0, "0", pattern(t, "3 0-1 1-2", 0, "1/2 1/2 0")}, {half, 0, "1", pattern(t, "3 0-1 1-2", 0, "0 1/2 1/2")},
		{pattern(t, "1", 1, "1"), 0, "2/5", pattern(t, "2 0-1", 3, "3/5 2/5")}, {pattern(t, "1", 0, "1"), 0, "2/5", pattern(t, "2", 0, "3/5 2/5")},
		{pattern(t, "2", 2, "1/4 3/4"), 1, "1/3", pattern(t, "3 1-2", 6, "1/4 1/2 1/4")}, {pattern(t, "2", 2, "1/4 3/4"), 0, "1/2", pattern(t, "3", 2, "1/8 3/4 1/8")}, {pattern(t, "3 0-1 1-2", 5, "1/2 1/2 0"), 2, "1/2", pattern(t, "4 0-1 1-2 1-3 2-3", 13, "1/2 1/2 0 0")},
	} {
		q, code := impl.SplitPart(c.p, c.part, fr(c.share))
		checkPattern(t, fmt.Sprint("SplitPart ", c.p, c.part, c.share), q, code, c.want, impl.OK)
		back, code := impl.JoinParts(c.want, c.part, c.p.Graph.N)
		checkPattern(t, fmt.Sprint("JoinParts ", c.want), back, code, c.p, impl.OK)
	}
	// The part that is left away has the lesser number.
	q, code := impl.JoinParts(pattern(t, "4 0-1 1-2 0-3 2-3", 8, "1/2 1/8 1/4 1/8"), 2, 0)
	checkPattern(t, "JoinParts 2, 0", q, code, pattern(t, "3 0-1 1-2", 4, "1/8 3/4 1/8"), impl.OK)
}

// Fractions, and sums of weights, that are too large; and what comes ahead of
// them.
func TestPartsThatAreTooLarge(t *testing.T) {
	const ok, limit = impl.OK, impl.ErrLimit
	for _, c := range []struct {
		edges, weights string
		part           int64
		share          string
		want           int64
	}{
		{"2", "1/31622 31621/31622", 0, "1/31622", ok}, {"2", "1/31622 31621/31622", 0, "1/31623", ok}, {"2", "1/31623 31622/31623", 0, "1/31623", limit}, {"2", "1/31623 31622/31623", 1, "1/31623", limit}, {"2", "1/31623 31622/31623", 1, "1/31622", ok}, {"1", "1", 0, "1/1000000000", ok}, {"1", "1", 0, "999999999/1000000000", ok}, {"2", "1/1000000000 999999999/1000000000", 0, "1/2", limit}, {"2", "1/1000000000 999999999/1000000000", 0, "1", ok}, {"2", "1/1000000000 999999999/1000000000", 0, "0", ok}, {"2", "0 1", 0, "1/999999999", ok}, {"2", "1/500000000 499999999/500000000", 0, "1/2", ok},
		// The further part is small enough, but not what is left.
		{"2", "1/31721 31720/31721", 0, "31721/31723", limit},
		// Both parts are, but not the sum of the first ones.
		{"3", "1/2 1/63442 15860/31721", 0, "1/31723", limit}, {"3", "1/2 1/63442 15860/31721", 0, "1/31721", ok}, {"3", "1/63442 1/2 15860/31721", 1, "1/31723", limit}, {"3", "1/63442 15860/31721 1/2", 2, "1/31723", ok},
		{"4", "1/31623 31622/31623 0 0", 0, "1/31623", limit}, {"4", "1/2 1/2 0 0", 0, "1/2", limit}, {"4", "1/2 1/2 0 0", 3, "0", limit},
	} {
		p := pattern(t, c.edges, 1, c.weights)
		q, code := checkSplit(t, p, c.part, fr(c.share))
		isRefused(t, fmt.Sprint("SplitPart ", p, c.part, c.share), noPattern(q) == (c.want != ok), code, c.want)
	}
	for _, c := range []struct {
		edges   string
		a, b, n int64
		want    int64
	}{
		{"4", 0, 1, 3, ok}, {"4", 2, 3, 3, ok}, {"4", 0, 2, 0, limit}, {"4", 2, 0, 0, limit}, {"4", 1, 3, 0, limit}, {"4", 1, 2, 0, limit}, {"4 0-2", 0, 2, 0, impl.ErrState}, {"4", 0, 0, 0, impl.ErrRange}, {"4", 0, 4, 0, impl.ErrRange},
	} {
		p := pattern(t, c.edges, 0, wideSums)
		q, code := checkJoin(t, p, c.a, c.b)
		isRefused(t, fmt.Sprint("JoinParts ", p, c.a, c.b), q.Graph.N == c.n, code, c.want)
	}
	random, codes := seeded(92), map[int64]int{}
	for range 3000 {
		p := somePattern(random, 4, []int64{12, 31623, 999999937, 1000000000}[random.IntN(4)])
		share := someWeights(random, 2, []int64{1, 3, 31622, 500000003}[random.IntN(4)])[0]
		_, code := checkSplit(t, p, random.Int64N(p.Graph.N), share)
		codes[code]++
		list := slices.Concat(someWeights(random, 2, 31721), someWeights(random, 2, 31723))
		for i := range list {
			list[i], _ = impl.MulFractions(list[i], fr("1/2"))
		}
		p = impl.Pattern{Graph: impl.Graph{N: 4, Edges: []uint32{0, 63}[random.IntN(2)]}, Weights: list}
		if p.Graph.Edges == 63 {
			p.Loops = 15
		}
		_, code = checkJoin(t, p, random.Int64N(4), random.Int64N(4))
		codes[code]++
	}
	if codes[ok] < 1000 || codes[limit] < 1000 {
		t.Errorf("codes %v", codes)
	}
}
