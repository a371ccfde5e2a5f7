package tests

import (
	"fmt"
	"slices"
	"strings"
	"testing"

	"loop.example/g01169/impl"
)

// Promise 1, for chapter 5: every function returns for all arguments, modifies
// no argument, and returns equal results for equal arguments.

// calls5 calls every function of chapter 5, and returns all results.
func calls5(a, b impl.FlagSum, f impl.Flag, by impl.Fraction, n int64, forbidden []impl.Graph, flags []impl.Flag, m [][]impl.Fraction, text string) []any {
	out := []any{impl.ValidSum(a), impl.SameSum(a, b), impl.SumText(a)}
	add := func(results ...any) { out = append(out, results...) }
	for _, call := range []func() (impl.FlagSum, int64){
		func() (impl.FlagSum, int64) { return impl.ZeroSum(a.Type, n) },
		func() (impl.FlagSum, int64) { return impl.SumOfFlag(f) },
		func() (impl.FlagSum, int64) { return impl.SumOfFlags(a.Type, a.Size, a.Terms) },
		func() (impl.FlagSum, int64) { return impl.AddSums(a, b) },
		func() (impl.FlagSum, int64) { return impl.ScaleSum(a, by) },
		func() (impl.FlagSum, int64) { return impl.RaiseSum(a, n) },
		func() (impl.FlagSum, int64) { return impl.MultiplySums(a, b) },
		func() (impl.FlagSum, int64) { return impl.AverageSum(a) },
		func() (impl.FlagSum, int64) { return impl.WithoutForbidden(a, forbidden) },
		func() (impl.FlagSum, int64) { return impl.AllOnes(a.Type, n) },
		func() (impl.FlagSum, int64) { return impl.FormSum(flags, m) },
		func() (impl.FlagSum, int64) { return impl.ReadSum(text) },
	} {
		sum, code := call()
		add(sum, code)
	}
	value, code := impl.CoefficientOf(a, f)
	add(value, code)
	value, code = impl.ValueIn(a, f)
	add(value, code)
	equal, code := impl.AreEqualSums(a, b)
	add(equal, code)
	value, least, code := impl.LeastValue(a, forbidden)
	add(value, least, code)
	return out
}

// sumWithRoom returns a copy of a sum that has some more terms in its unused
// capacity, and the memory behind it.
func sumWithRoom(a impl.FlagSum) (impl.FlagSum, []impl.Term) {
	part, whole := withRoom(a.Terms, impl.Term{Flag: impl.Flag{Labels: 7}, By: fr("77/78")})
	a.Terms = part
	return a, whole
}

// someSums returns valid sums of several kinds, and sums that are not valid.
func someSums() []impl.FlagSum {
	dot, joined := impl.Graph{N: 1}, impl.Graph{N: 2, Edges: 1}
	turned := inOrder(dot, 3, "1 2 3")
	slices.Reverse(turned.Terms)
	return append(badSums()[:9], turned, impl.FlagSum{}, inOrder(dot, 1, "2"), inOrder(dot, 2, "1/2 -1/3"), inOrder(dot, 3, "1 0 2 0 -1/2 3"), inOrder(dot, 2, "1000000000 1"), ones(kind{dot, 5}, 64), ones(kind{dot, 5}, 65), inOrder(joined, 3, "1 2 3 4"), inOrder(joined, 2, "-1"), inOrder(impl.Graph{}, 2, "1 1/7"), inOrder(impl.Graph{}, 5, "1 2 3"), inOrder(impl.Graph{N: 3}, 4, "3 2 1"))
}

func TestSumCallsModifyNothingAndRepeat(t *testing.T) {
	sums := someSums()
	flags := []impl.Flag{{}, flag(t, 1, "graph 2 0-1"), flag(t, 1, "graph 4 0-1"), flag(t, 2, "graph 3 0-1 0-2"), flag(t, 2, "graph 3 0-1 1-2"), flag(t, 0, "graph 5 1-2"), {Labels: 4}}
	fractions, texts := frs("0 1 -1/2 1000000000"), []string{"", "sum 2 graph 1\n1 graph 2 0-1\n", "sum 0 graph 0\n", "sum 2 graph 1\n0 graph 2 0-1\n"}
	lists, matrices := [][]impl.Graph{nil, {{N: 3, Edges: 7}}, {{N: 2, Edges: 1}, {N: 1}}, times(impl.Graph{}, 7), {{N: -1}}}, [][][]impl.Fraction{nil, mat("2"), mat("1 1/2;1/2 1"), mat("1 2;3 4")}
	for i := range sums {
		for j := range sums {
			a, wholeA := sumWithRoom(sums[i])
			b, wholeB := sumWithRoom(sums[j])
			forbidden, wholeForbidden := withRoom(lists[(i+j)%5], impl.Graph{N: 7})
			some, wholeFlags := withRoom(flags[1+(i+2*j)%5:][:(i+j)%3], impl.Flag{Labels: 7})
			m, _ := rowsWithRoom(matrices[(i+j)%4])
			f, by, n, text := flags[(i+j)%7], fractions[(i+3*j)%4], int64((i+j)%8)-1, texts[(2*i+j)%4]
			before := fmt.Sprint(wholeA, wholeB, wholeForbidden, wholeFlags, memory(m))
			first := fmt.Sprint(calls5(a, b, f, by, n, forbidden, some, m, text))
			second := fmt.Sprint(calls5(a, b, f, by, n, forbidden, some, m, text))
			if after := fmt.Sprint(wholeA, wholeB, wholeForbidden, wholeFlags, memory(m)); before != after {
				t.Fatalf("arguments %s became %s", before, after)
			}
			if first != second {
				t.Fatalf("two results for %v and %v: %s and %s", a, b, first, second)
			}
		}
	}
}

func TestSumCallsTakeNilAndEmptyAlike(t *testing.T) {
	for _, k := range everyKind() {
		f := flagsOf(k)[0]
		a, b := impl.FlagSum{Type: k.typ, Size: k.size}, impl.FlagSum{Type: k.typ, Size: k.size, Terms: []impl.Term{}}
		first := fmt.Sprint(calls5(a, a, f, fr("1"), k.size, nil, nil, nil, ""))
		second := fmt.Sprint(calls5(b, b, f, fr("1"), k.size, []impl.Graph{}, []impl.Flag{}, [][]impl.Fraction{}, ""))
		if first != second {
			t.Errorf("%v: %s with nil, and %s with empty slices", k, first, second)
		}
	}
}

// Results are overwritten, to the end of their capacity: neither arguments nor
// later results change by it.
func TestSumResultsAreNewMemory(t *testing.T) {
	a, b := inOrder(impl.Graph{N: 1}, 2, "1/2 -1/3"), impl.FlagSum{Type: impl.Graph{N: 1}, Size: 2}
	flags := []impl.Flag{flag(t, 1, "graph 2"), flag(t, 1, "graph 2 0-1")}
	terms := inOrder(impl.Graph{N: 1}, 3, "1 2 3 4 5 6").Terms
	results := func() []any {
		return calls5(a, b, flags[1], fr("1"), 2, nil, flags, mat("1 2;2 5"), impl.SumText(a))
	}
	before := fmt.Sprint(results(), a, b, flags, terms)
	for _, result := range results() {
		if sum, is := result.(impl.FlagSum); is {
			overwrite(sum.Terms, impl.Term{By: impl.Fraction{P: 77, Q: 78}})
		}
	}
	more := []impl.FlagSum{sumOf(t)(impl.AddSums(b, a)), sumOf(t)(impl.RaiseSum(a, 2)), sumOf(t)(impl.SumOfFlags(impl.Graph{N: 1}, 3, terms)), sumOf(t)(impl.ScaleSum(a, fr("1"))), sumOf(t)(impl.WithoutForbidden(a, nil))}
	for _, sum := range more {
		overwrite(sum.Terms, impl.Term{By: impl.Fraction{P: 77, Q: 78}})
	}
	if after := fmt.Sprint(results(), a, b, flags, terms); before != after {
		t.Errorf("results %s became %s", before, after)
	}
}

func TestSumCallsOfSeveralGoroutines(t *testing.T) {
	a, b := inOrder(impl.Graph{N: 1}, 2, "1/2 -1/3"), inOrder(impl.Graph{N: 1}, 3, "1 2 3")
	edge := flag(t, 1, "graph 2 0-1")
	call := func() string {
		return fmt.Sprint(calls5(a, b, edge, fr("2"), 3, []impl.Graph{{N: 3, Edges: 7}}, []impl.Flag{edge}, mat("2"), impl.SumText(b)), calls5(b, b, edge, fr("2"), 4, nil, nil, nil, ""))
	}
	checkGoroutines(t, call)
}

// The greatest arguments for which every function has to return.
func TestSumCallsOfGreatArguments(t *testing.T) {
	const many = 1000000
	dot := impl.Graph{N: 1}
	k := kind{dot, 5}
	var terms []impl.Term
	for i := range many {
		f := impl.Flag{Labels: 1, Graph: impl.Graph{N: 5, Edges: uint32(i % 1024)}}
		terms = append(terms, impl.Term{Flag: f, By: impl.Fraction{P: int64(1 - i/1024%2*2), Q: 1}})
	}
	got, code := impl.SumOfFlags(dot, 5, terms)
	checkRefusedSum(t, got, code, impl.ErrLimit, "SumOfFlags of many")
	got, code = impl.SumOfFlags(dot, 5, terms[:many/2048*2048])
	checkSum(t, "SumOfFlags of many that cancel each other", got, code, inOrder(dot, 5, ""), impl.OK)
	long := impl.FlagSum{Type: dot, Size: 5, Terms: terms}
	flags := copiesOf(flag(t, 1, "graph 5 0-1"), many)
	forbidden := times(impl.Graph{N: 5, Edges: 1023}, many)
	for _, n := range []int64{-1 << 63, -1 << 32, 5, 1 << 32, 1<<63 - 1} {
		calls5(long, long, flags[0], fr("1"), n, forbidden, flags, mat("1"), strings.Repeat(" ", many))
		calls5(ones(k, 64), long, flags[0], fr("1000000000"), n, forbidden, flags, nil, strings.Repeat("\n", many))
	}
	terms[many-1].By.Q = 0
	got, code = impl.SumOfFlags(dot, 4, terms)
	checkRefusedSum(t, got, code, impl.ErrInvalid, "SumOfFlags of many, the last one not valid")
	checkWithout(t, ones(k, 64), forbidden, impl.ErrLimit, impl.ErrLimit)
	forbidden[many-1].N = -1
	checkWithout(t, ones(k, 64), forbidden, impl.ErrInvalid, impl.ErrInvalid)
	flags[many-1].Labels = 4
	checkForm(t, flags, mat("1"), impl.ErrInvalid)
	for _, text := range []string{
		"sum 3 graph 1\n" + strings.Repeat("1 graph 3 0-1\n", many/14), "sum 3 graph 1" + strings.Repeat(" 0-1", many/4), strings.Repeat("sum ", many/4), "sum " + strings.Repeat("0", many) + " graph 0\n", "sum 3 graph 1\n1" + strings.Repeat(" graph 3", many/8) + "\n",
		"sum 3 graph 1\n" + strings.Repeat("1", many) + " graph 3\n", "sum 3 graph 1\n" + strings.Repeat("\n", many), "sum 3 graph 1\n1 graph 3 0-1" + strings.Repeat(" ", many), strings.Repeat("sum 3 graph 1\n", many/14),
	} {
		got, code := impl.ReadSum(text)
		checkRefusedSum(t, got, code, impl.ErrSyntax, "ReadSum of ", len(text), " bytes")
	}
}
