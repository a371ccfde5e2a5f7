package tests

import (
	"fmt"
	"slices"
	"testing"

	"loop.example/g01169/impl"
)

// Promise 15, its beginning: what a case is, and what its tasks are found to be.

// checkCase holds ValidCase, TasksOf and DoTask of a case against what its tasks
// have to be found to be, and reports whether it is valid.
func checkCase(t *testing.T, c impl.Case) bool {
	t.Helper()
	values, valid := wantValues(c)
	want, wantRange := int64(impl.OK), int64(impl.ErrRange)
	if !valid {
		want, wantRange = impl.ErrInvalid, impl.ErrInvalid
	}
	if got := impl.ValidCase(c); got != valid {
		t.Fatalf("ValidCase %v: %t, want %t", c, got, valid)
	}
	n := int64(len(values))
	if got, code := impl.TasksOf(c); got != n || code != want {
		t.Fatalf("TasksOf %v: %d, code %d, want %d, code %d", c, got, code, n, want)
	}
	for task, value := range values {
		got, code := impl.DoTask(c, int64(task))
		checkFraction(t, fmt.Sprint("DoTask ", c, task), got, code, value, impl.OK)
	}
	for _, task := range []int64{-1, n, n + 1, 40, 41, 1 << 32, -1 << 63, 1<<63 - 1} {
		got, code := impl.DoTask(c, task)
		isRefused(t, fmt.Sprint("DoTask ", c, task), isZero(got), code, wantRange)
	}
	return valid
}

func TestCases(t *testing.T) {
	random := seeded(110)
	valid, not := 0, 0
	for round := range 450 {
		s, c := someCase(t, random, someFractionsOf(random)[round%3])
		if checkCase(t, caseOf(s, c, 1+int64(round)%3)) {
			valid++
		} else {
			not++
		}
	}
	if valid < 100 || not < 100 {
		t.Errorf("%d cases are valid, and %d are not", valid, not)
	}
	for _, c := range deskCases() {
		if !checkCase(t, c) {
			t.Errorf("not valid: %v", c)
		}
	}
}

// The tasks of blocks come first, then those of graphs, in their order.
func TestCasesThatAreWrittenOut(t *testing.T) {
	none := []impl.Graph{{}}
	edgeless := impl.Statement{Forbidden: []impl.Graph{{N: 2, Edges: 1}}, Target: edgeSum(), Bound: fr("-2/7")}
	for _, c := range []struct {
		c    impl.Case
		want string
	}{
		{mantelCase("1/2", 1), "1 0 1/3 0"}, {mantelCase("1/3", 3), "1 -1/6 1/6 -1/6"}, {caseOf(mantel("1/2"), certificateOf(3), 1), "1/2 1/6 -1/6"}, {caseOf(mantel("1/2"), certificateOf(2), 1), "1/2 -1/2"}, {caseOf(edgeless, certificateOf(5), 2), "-2/7"},
		{caseOf(impl.Statement{Forbidden: none, Target: edgeSum(), Bound: fr("1")}, certificateOf(3), 1), ""}, {caseOf(impl.Statement{Forbidden: none, Bound: fr("1")}, certificateOf(3, blockOn(pair, wrong), blockOn(pair, fine), blockOn(pair, "0"), blockOn(pair, "-1")), 1), "0 1 1 0"},
		{caseOf(edgeless, certificateOf(3, blockOn(pair, fine), blockOn(pair, wrong)), 1), "1 0 -25/14"}, {caseOf(impl.Statement{Bound: fr("5")}, impl.Certificate{}, 1), "5"}, {caseOf(impl.Statement{Bound: fr("0")}, certificateOf(1), 1), "0"},
	} {
		if !checkCase(t, c.c) {
			t.Errorf("not valid: %v", c.c)
		}
		want := frs(c.want)
		if n, _ := impl.TasksOf(c.c); n != int64(len(want)) {
			t.Errorf("TasksOf %v: %d, want %d", c.c, n, len(want))
			continue
		}
		for task, value := range want {
			got, code := impl.DoTask(c.c, int64(task))
			checkFraction(t, fmt.Sprint("DoTask ", c.c, task), got, code, value, impl.OK)
		}
	}
	many := deskCases()[10]
	if n, code := impl.TasksOf(many); n != 40 || code != impl.OK {
		t.Errorf("TasksOf %v: %d, code %d", many, n, code)
	}
}

// badCases returns cases that are not valid.
func badCases() []impl.Case {
	s, c := mantel("1/2"), certified()
	var list []impl.Case
	for _, workers := range []int64{0, 4, -1, -3, 300, 1 << 32, 1<<32 + 1, -1 << 63, 1<<63 - 1} {
		list = append(list, caseOf(s, c, workers), caseOf(s, certificateOf(3), workers))
	}
	for _, bad := range badStatements() {
		list = append(list, caseOf(bad, c, 1), caseOf(bad, certificateOf(5), 3))
	}
	for _, bad := range badCertificates() {
		list = append(list, caseOf(s, bad, 2))
	}
	return append(append(list, impl.Case{}, impl.Case{Workers: 1}, impl.Case{Statement: s, Certificate: c}, impl.Case{Statement: s, Workers: 1}), tooLargeCases()...)
}

// tooLargeCases returns cases that are not valid because a fraction is too
// large: of a matrix, wherever it is, also behind one that is not positive, and
// where there are no graphs; or of a slack, also behind one that is less than 0,
// and behind a matrix that is not positive.
func tooLargeCases() []impl.Case {
	none := impl.Statement{Forbidden: []impl.Graph{{}}, Bound: fr("1")}
	great, other := blockOn(pair, tooGreat), blockOn(pair, tooGreat2)
	good, bad := blockOn(pair, fine), blockOn(pair, wrong)
	var list []impl.Case
	for _, blocks := range [][]impl.Block{{great}, {other}, {good, great}, {great, good}, {bad, great}, {great, bad}, {bad, good, other}, {good, good, good, good, good, great}} {
		list = append(list, caseOf(none, certificateOf(3, blocks...), 1))
	}
	for _, words := range []string{"L", "L000", "0L00", "+++L", "-L", "-0+L", "LLLL", "L-"} {
		for _, workers := range []int64{1, 3} {
			list = append(list, caseOf(slacksAs(words), certificateOf(3), workers), caseOf(slacksAs(words), certificateOf(3, blockOn(pair, wrong)), workers), caseOf(slacksAs(words), certificateOf(3, good), workers))
		}
	}
	return list
}

func TestCasesThatAreNotValid(t *testing.T) {
	for _, c := range badCases() {
		if checkCase(t, c) {
			t.Errorf("valid: %v", c)
		}
	}
	// Without what is too large, they are valid.
	none := impl.Statement{Forbidden: []impl.Graph{{}}, Bound: fr("1")}
	for _, c := range []impl.Case{caseOf(none, certificateOf(3, slices.Repeat([]impl.Block{blockOn(pair, wrong)}, 6)...), 3), caseOf(slacksAs("-0+-"), certificateOf(3), 1), caseOf(slacksAs("0"), certificateOf(3, blockOn(pair, "1 0;0 -1")), 3)} {
		if !checkCase(t, c) {
			t.Errorf("not valid: %v", c)
		}
	}
}

// The certificate is one for the statement: a target that is greater than the
// size is not.
func TestCertificatesForOtherStatements(t *testing.T) {
	s := impl.Statement{Target: inOrder(impl.Graph{}, 4, "0 0 1"), Bound: fr("1")}
	for size := range int64(6) {
		if got := checkCase(t, caseOf(s, certificateOf(size), 1)); got != (size >= 4) {
			t.Errorf("size %d: %t", size, got)
		}
		if got := checkCase(t, caseOf(mantel("1"), certificateOf(size, certified().Blocks...), 1)); got != (size >= 3) {
			t.Errorf("size %d: %t", size, got)
		}
	}
}
