package tests

import (
	"fmt"
	"slices"
	"strings"
	"testing"

	"loop.example/g01169/impl"
)

// Promise 15, its second half: the verdict is that of the results that are known,
// and when all of them are, that of the certificate.

// finding returns the text of the deeds by which results of tasks become known,
// one after the other.
func finding(tasks ...int64) string {
	var words []string
	for _, task := range tasks {
		words = append(words, fmt.Sprint("give 0 ", task), "deliver 0", "work 0", "deliver 0")
	}
	return strings.Join(words, "; ")
}

// faulty returns the case with some matrices, of one row each, and of some slacks
// for the graphs with 3 vertices. The flag of the blocks is the triangle with
// three labels, so that only the last slack depends on the matrices.
func faulty(matrices, slacks string) impl.Case {
	s := impl.Statement{Target: inOrder(impl.Graph{}, 3, slacks), Bound: fr("0")}
	for i := range s.Target.Terms {
		s.Target.Terms[i].By.P *= -1
	}
	c := impl.Certificate{Size: 3}
	for word := range strings.FieldsSeq(matrices) {
		c.Blocks = append(c.Blocks, blockOn(kind{impl.Graph{N: 3, Edges: 7}, 3}, word))
	}
	return caseOf(s, c, 1)
}

// checkVerdict fails unless the verdict after some deeds is as told.
func checkVerdict(t *testing.T, c impl.Case, text, want string) {
	t.Helper()
	list := deeds(text)
	checkDeeds(t, c, list, modelOf(t, c).all(list))
	verdict, fault, index, code := impl.VerdictAfter(c, list)
	names := map[int64]string{impl.VdOpen: "open", impl.VdProved: "proved", impl.VdFault: "fault"}
	if got := fmt.Sprint(names[verdict], " ", fault, " ", index); got != want || code != impl.OK {
		t.Errorf("VerdictAfter %v, %s: %s, code %d, want %s", c, text, got, code, want)
	}
}

func TestVerdicts(t *testing.T) {
	const open, proved = "open 0 0", "proved 0 0"
	three, right := faulty("1 -1 -1", "-1 0 -1/2 2"), faulty("1 0 1", "-1 0 -1/2 7")
	for _, c := range []struct {
		c    impl.Case
		text string
		want string
	}{
		// Blocks 0 to 2, and graphs 3 to 6: the matrices 1 and 2 are not positive.
		{three, "", open}, {three, finding(0), open}, {three, finding(2), "fault 1 2"}, {three, finding(1), "fault 1 1"}, {three, finding(2, 1), "fault 1 1"}, {three, finding(1, 2), "fault 1 1"}, {three, finding(0, 2), "fault 1 2"}, {three, finding(0, 1, 2, 3, 4, 5, 6), "fault 1 1"},
		// A graph has a fault, but a block is not known.
		{three, finding(3), open}, {three, finding(3, 0), open}, {three, finding(3, 5, 4, 6, 0), open}, {three, finding(3, 2), "fault 1 2"}, {three, finding(3, 5, 1, 0), "fault 1 1"},
		// All matrices are positive; the slacks of the graphs 0 and 2 are less than 0.
		{right, "", open}, {right, finding(0, 1, 2), open}, {right, finding(5), open}, {right, finding(5, 0, 1), open}, {right, finding(3, 4, 5, 6), open}, {right, finding(3, 4, 5, 6, 1, 2), open}, {right, finding(0, 1, 2, 5), "fault 2 2"}, {right, finding(5, 2, 0, 1), "fault 2 2"}, {right, finding(0, 1, 2, 5, 3), "fault 2 0"}, {right, finding(0, 1, 2, 3, 5), "fault 2 0"}, {right, finding(0, 1, 2, 4), open}, {right, finding(0, 1, 2, 4, 6), open}, {right, finding(0, 1, 2, 4, 6, 5), "fault 2 2"}, {right, finding(0, 1, 2, 3, 4, 5, 6), "fault 2 0"},
		// A crash takes faults away.
		{three, finding(2) + "; crash", open}, {three, finding(2) + "; save;" + finding(1) + "; crash", "fault 1 2"}, {right, finding(0, 1, 2) + "; save; " + finding(5) + "; crash", open}, {right, finding(0, 1, 5) + "; save; " + finding(2) + "; crash", open}, {right, finding(0, 1, 2, 5) + "; save; " + finding(3) + "; crash", "fault 2 2"},
		// Without blocks, each graph that is known counts.
		{faulty("", "-1 0 -1/2 0"), finding(2), "fault 2 2"}, {faulty("", "-1 0 -1/2 0"), finding(2, 0), "fault 2 0"}, {faulty("", "-1 0 -1/2 0"), finding(1, 3), open}, {faulty("", "0 0 0 -1/1000000000"), finding(0, 1, 2, 3), "fault 2 3"}, {faulty("", "0 0 0 1/1000000000"), finding(0, 1, 2, 3), proved}, {faulty("", "0 0 0 0"), finding(0, 1, 2), open},
		{mantelCase("1/2", 1), finding(0, 1, 2, 3), proved}, {mantelCase("1/2", 1), finding(3, 2, 1, 0), proved}, {mantelCase("1/2", 1), finding(0, 1, 2), open}, {mantelCase("1/2", 1), finding(1, 2, 3), open}, {mantelCase("1/2", 1), finding(0, 1, 2, 3) + "; crash", open}, {mantelCase("1/2", 1), finding(0, 1, 2, 3) + "; save; crash", proved}, {mantelCase("1/2", 1), finding(0, 1, 2) + "; save; " + finding(3) + "; crash", open},
		{mantelCase("1/3", 1), finding(0, 1, 2, 3), "fault 2 0"}, {mantelCase("1/3", 1), finding(0, 3), "fault 2 2"}, {mantelCase("1/3", 1), finding(0, 2), open},
		// Without graphs, the blocks tell; without tasks, all is proved at once.
		{deskCases()[7], finding(0, 2), open}, {deskCases()[7], finding(0, 2, 3), "fault 1 3"}, {deskCases()[7], finding(0, 2, 3, 1), "fault 1 1"}, {deskCases()[8], "", open}, {deskCases()[8], finding(0), proved}, {deskCases()[9], "", proved}, {deskCases()[9], "crash; save; work 0", proved},
	} {
		checkVerdict(t, c.c, c.text, c.want)
	}
}

// All sets of results that can be known, of cases with all kinds of faults.
func TestVerdictsOfAllSetsOfResults(t *testing.T) {
	for _, matrices := range []string{"", "1", "-1", "1 -1", "-1 0", "-1 -1", "1 1"} {
		for _, slacks := range []string{"0 0 0 0", "-1 0 1 9", "0 -1 -2 9", "1 1 -1/3 9", "0 0 0 -9"} {
			c := faulty(matrices, slacks)
			m := modelOf(t, c)
			for set := range int64(1) << m.tasks() {
				var tasks []int64
				for task := range m.tasks() {
					if set>>task&1 == 1 {
						tasks = append(tasks, task)
					}
				}
				list := deeds(finding(tasks...))
				verdict, fault, index, code := impl.VerdictAfter(c, list)
				if want := m.again().all(list).verdict(); [3]int64{verdict, fault, index} != want || code != impl.OK {
					t.Fatalf("VerdictAfter %v with %v: %d, %d, %d, code %d, want %v", c, tasks, verdict, fault, index, code, want)
				}
			}
		}
	}
}

// checkFinished fails unless the planned deeds are all done, all results are
// known and saved, nothing is on the wire, and the verdict is that of FirstFault.
func checkFinished(t *testing.T, c impl.Case, start *model, before []impl.Deed) [3]int64 {
	t.Helper()
	plan, code := impl.FinishDeeds(c, before)
	if code != impl.OK {
		t.Fatalf("FinishDeeds %v after %d deeds: code %d", c, len(before), code)
	}
	all := slices.Concat(before, plan)
	d, done, code := impl.DeskAfter(c, all)
	_, first, _ := impl.DeskAfter(c, before)
	if code != impl.OK || done != first+int64(len(plan)) || len(d.Wire) > 0 || !slices.Equal(d.Results, d.Saved) {
		t.Fatalf("DeskAfter %v, %v: %v, %d done, code %d", c, all, d, done, code)
	}
	for task, r := range d.Results {
		if !r.Known || r.Value != start.values[task] {
			t.Fatalf("result %d of %v after %v: %v", task, c, all, r)
		}
	}
	verdict, fault, index, code := impl.VerdictAfter(c, all)
	wantFault, wantIndex, wantCode := impl.FirstFault(c.Statement, c.Certificate)
	want := [3]int64{impl.VdFault, wantFault, wantIndex}
	if wantCode == impl.ErrNotFound {
		want = [3]int64{impl.VdProved, 0, 0}
	}
	if got := [3]int64{verdict, fault, index}; got != want || code != impl.OK {
		t.Fatalf("VerdictAfter %v, %v: %v, code %d, want %v", c, all, got, code, want)
	}
	// A crash behind it loses nothing, and then there is nothing left to do but to
	// save.
	if len(all) < 300 {
		after, _, _ := impl.DeskAfter(c, append(slices.Clone(all), impl.Deed{Kind: impl.DdCrash}))
		again, code := impl.FinishDeeds(c, all)
		if !sameDesks(after, d) || code != impl.OK || !slices.Equal(again, deeds("save")) {
			t.Fatalf("a crash after %v leaves %v, and FinishDeeds has %v, code %d", all, after, again, code)
		}
	}
	return want
}

func TestDeedsThatFinish(t *testing.T) {
	four := "give 0 0; deliver 0; work 0; deliver 0; "
	for _, c := range []struct {
		c            impl.Case
		before, want string
	}{
		{mantelCase("1/2", 1), "", finding(0, 1, 2, 3) + "; save"}, {mantelCase("1/2", 2), "", four + "give 1 1; deliver 0; work 1; deliver 0; give 0 2; deliver 0; work 0; deliver 0; give 1 3; deliver 0; work 1; deliver 0; save"}, {mantelCase("1/2", 3), "", four + "give 1 1; deliver 0; work 1; deliver 0; give 2 2; deliver 0; work 2; deliver 0; give 0 3; deliver 0; work 0; deliver 0; save"},
		// With packets on the wire, which are lost.
		{mantelCase("1/2", 1), "3 give 0 2", "3 drop 0; " + finding(0, 1, 2, 3) + "; save"}, {mantelCase("1/2", 1), "give 0 2; deliver 0; work 0", "drop 0; " + finding(0, 1, 2, 3) + "; save"}, {mantelCase("1/2", 1), "8 give 0 0", "8 drop 0; " + finding(0, 1, 2, 3) + "; save"}, {mantelCase("1/2", 1), "give 0 2; deliver 0", finding(0, 1, 2, 3) + "; save"},
		// With results that are known, saved or not, and lost.
		{mantelCase("1/2", 1), finding(2, 0), finding(1, 3) + "; save"}, {mantelCase("1/2", 1), finding(2) + "; save; give 0 1", "drop 0; " + finding(0, 1, 3) + "; save"}, {mantelCase("1/2", 1), finding(2) + "; crash", finding(0, 1, 2, 3) + "; save"}, {mantelCase("1/2", 1), finding(0, 1, 2, 3), "save"}, {mantelCase("1/2", 1), finding(0, 1, 2, 3) + "; save", "save"}, {mantelCase("1/2", 2), finding(0, 2), "give 1 1; deliver 0; work 1; deliver 0; give 1 3; deliver 0; work 1; deliver 0; save"}, {mantelCase("1/2", 1), "give 0 2; deliver 0; work 0; copy 0", "drop 0; " + finding(0, 1, 3) + "; save"},
		// With deeds that are left out.
		{mantelCase("1/2", 1), "work 0; give 1 0; deliver 3; give 0 4", finding(0, 1, 2, 3) + "; save"},
		{deskCases()[9], "", "save"}, {deskCases()[9], "give 0 0; save; crash", "save"}, {deskCases()[8], "give 2 0", "drop 0; " + finding(0) + "; save"}, {faulty("-1", "-1 0 0 9"), finding(0), finding(1, 2, 3, 4) + "; save"},
	} {
		before, want := deeds(c.before), deeds(c.want)
		got, code := impl.FinishDeeds(c.c, before)
		if code != impl.OK || !slices.Equal(got, want) {
			t.Errorf("FinishDeeds %v, %s: %v, code %d, want %v", c.c, c.before, got, code, want)
		}
		checkFinished(t, c.c, modelOf(t, c.c), before)
	}
	// The greatest case: 40 tasks, for three workers.
	plan, code := impl.FinishDeeds(deskCases()[10], nil)
	if code != impl.OK || len(plan) != 161 || plan[4*38] != (impl.Deed{Kind: impl.DdGive, A: 2, B: 38}) || plan[4*39+2] != (impl.Deed{Kind: impl.DdWork}) {
		t.Errorf("FinishDeeds with 40 tasks: %v, code %d", plan, code)
	}
}

// As many deeds as there may be with those before, and one more; those that are
// left out count too.
func TestDeedsThatFinishAtTheLimit(t *testing.T) {
	one := mantelCase("1/2", 1)
	for _, c := range []struct {
		c      impl.Case
		before string
		plan   int
	}{
		{one, "save", 17}, {one, "crash", 17}, {one, "work 0", 17}, {one, "give 7 7", 17}, {deskCases()[9], "crash", 1}, {deskCases()[10], "crash", 161}, {deskCases()[11], "deliver 0", 161}, {faulty("1 1 1", "-1 0 0 9"), "save", 29},
	} {
		for more := -2; more <= 2; more++ {
			n := 300 - c.plan + more
			before := deeds(fmt.Sprint(n, " ", c.before))
			plan, code := impl.FinishDeeds(c.c, before)
			switch {
			case n > 300:
				isRefused(t, fmt.Sprint("FinishDeeds ", c.c, n, c.before), len(plan) == 0, code, impl.ErrRange)
			case more > 0:
				isRefused(t, fmt.Sprint("FinishDeeds ", c.c, n, c.before), len(plan) == 0, code, impl.ErrLimit)
			default:
				isRefused(t, fmt.Sprint("FinishDeeds ", c.c, n, c.before), len(plan) == c.plan, code, impl.OK)
				checkFinished(t, c.c, modelOf(t, c.c), before)
			}
		}
	}
	// Packets on the wire, and results that are known.
	for _, c := range []struct {
		before string
		want   int64
	}{
		{"8 give 0 0; 267 save", impl.OK}, {"8 give 0 0; 268 save", impl.ErrLimit}, {finding(0, 1, 2, 3) + "; 283 save", impl.OK}, {finding(0, 1, 2, 3) + "; 284 save", impl.ErrLimit}, {finding(0, 2) + "; 283 save", impl.OK}, {finding(0, 2) + "; 284 save", impl.ErrLimit}, {finding(0, 2) + "; 282 save; crash", impl.OK}, {finding(0, 2) + "; 274 crash; save", impl.OK}, {finding(0, 2) + "; 275 crash; save", impl.ErrLimit}, {"300 save", impl.ErrLimit}, {"283 save", impl.OK}, {"284 save", impl.ErrLimit},
	} {
		before := deeds(c.before)
		checkDeeds(t, one, before, modelOf(t, one).all(before))
		if _, code := impl.FinishDeeds(one, before); code != c.want {
			t.Errorf("FinishDeeds after %s: code %d, want %d", c.before, code, c.want)
		}
	}
}
