package tests

import (
	"fmt"
	"slices"
	"strings"
	"testing"

	"loop.example/g01169/impl"
)

// Promise 1, for chapter 8: every function returns for all arguments, modifies
// no argument, and returns equal results for equal arguments.

// calls8 calls every function of chapter 8, and returns all results.
func calls8(c impl.Case, d impl.Deed, list []impl.Deed, task int64, text string) []any {
	out := []any{impl.ValidCase(c), impl.ValidDeed(d), impl.DeedText(d)}
	add := func(results ...any) { out = append(out, results...) }
	n, code := impl.TasksOf(c)
	add(n, code)
	value, code := impl.DoTask(c, task)
	add(value, code)
	read, code := impl.ReadDeed(text)
	add(read, code)
	desk, done, code := impl.DeskAfter(c, list)
	add(desk, done, code)
	at, refused, code := impl.RefusedDeed(c, list)
	add(at, refused, code)
	verdict, fault, index, code := impl.VerdictAfter(c, list)
	add(verdict, fault, index, code)
	plan, code := impl.FinishDeeds(c, list)
	add(plan, code)
	answers, code := impl.RunScript(c, text)
	add(answers, code)
	return out
}

func TestDeskCallsModifyNothingAndRepeat(t *testing.T) {
	random := seeded(140)
	badC, badD := badCases(), badDeeds()
	texts := []string{"", "save", "give 0 0\ndeliver 0\nwork 0\ncopy 0\nresult 0\nverdict\ncrash\n", strings.Repeat("\n", 121), "hello\n"}
	for round := range 250 {
		c := someDeskCase(t, random)
		list := someDeeds(random, modelOf(t, c), random.IntN(120))
		d := impl.Deed{Kind: random.Int64N(9), A: random.Int64N(3), B: random.Int64N(3)}
		switch round % 10 {
		case 8:
			c = badC[random.IntN(len(badC))]
		case 9:
			list = append(list, badD[random.IntN(len(badD))])
		}
		c.Statement, c.Certificate = statementWithRoom(c.Statement), certificateWithRoom(c.Certificate)
		list, whole := withRoom(list, impl.Deed{Kind: 77})
		all := func() string {
			blocks := c.Certificate.Blocks
			return fmt.Sprint(memoryOf(c.Statement, blocks[:cap(blocks)]...), whole, c.Workers)
		}
		task, text := random.Int64N(10)-1, texts[round%5]
		before := all()
		first := fmt.Sprint(calls8(c, d, list, task, text))
		second := fmt.Sprint(calls8(c, d, list, task, text))
		if after := all(); before != after {
			t.Fatalf("arguments %s became %s", before, after)
		}
		if first != second {
			t.Fatalf("two results for %v and %v: %s and %s", c, list, first, second)
		}
	}
}

func TestDeskCallsTakeNilAndEmptyAlike(t *testing.T) {
	c := caseOf(impl.Statement{Bound: fr("1")}, impl.Certificate{}, 1)
	empty := caseOf(impl.Statement{Forbidden: []impl.Graph{}, Target: impl.FlagSum{Terms: []impl.Term{}}, Bound: fr("1")}, impl.Certificate{Blocks: []impl.Block{}}, 1)
	for _, workers := range []int64{0, 1, 3} {
		c.Workers, empty.Workers = workers, workers
		first := fmt.Sprint(calls8(c, impl.Deed{}, nil, 0, "result 0"))
		second := fmt.Sprint(calls8(empty, impl.Deed{}, []impl.Deed{}, 0, "result 0"))
		if first != second {
			t.Errorf("%s with nil, and %s with empty slices", first, second)
		}
	}
}

// Results are overwritten, to the end of their capacity: neither arguments nor
// later results, nor other parts of the same result, change by it.
func TestDeskResultsAreNewMemory(t *testing.T) {
	c := mantelCase("1/2", 2)
	list := deeds("give 0 0; deliver 0; work 0; deliver 0; save; give 1 2; deliver 0; work 1; deliver 0; give 0 3; give 0 3; copy 0; drop 0; crash")
	results := func() []any {
		return append(calls8(c, list[0], list, 2, "save"), calls8(c, list[1], list[:3], 0, "result 0")...)
	}
	before := fmt.Sprint(results(), c, list)
	desks := 0
	for _, result := range results() {
		switch result := result.(type) {
		case impl.Desk:
			desks++
			saved := fmt.Sprint(result.Saved)
			overwrite(result.Results, impl.Result{Known: true, Value: fr("77")})
			if after := fmt.Sprint(result.Saved); saved != after {
				t.Errorf("saved results %s became %s", saved, after)
			}
			overwrite(result.Saved, impl.Result{Known: true, Value: fr("78")})
			overwrite(result.Benches, 77)
			overwrite(result.Wire, impl.Packet{Worker: 77})
			if slices.Contains(result.Results, impl.Result{Known: true, Value: fr("78")}) {
				t.Error("results change with what is saved")
			}
		case []impl.Deed:
			overwrite(result, impl.Deed{Kind: 77})
		}
	}
	if after := fmt.Sprint(results(), c, list); before != after {
		t.Errorf("results %s became %s", before, after)
	}
	if desks != 2 {
		t.Errorf("%d desks", desks)
	}
}

// A call leaves nothing for the next one: neither a crash nor what is saved.
func TestDeskCallsKeepNothing(t *testing.T) {
	c, other := mantelCase("1/2", 2), faulty("1 -1 -1", "-1 0 -1/2 2")
	lists := [][]impl.Deed{nil, deeds(finding(0, 1, 2, 3) + "; save"), deeds("8 give 0 0; give 1 1"), deeds("crash"), deeds("give 0 0; deliver 0; crash")}
	script := "give 0 0\ndeliver 0\nwork 0\nresult 0\nverdict\n"
	var first []string
	for round := range 3 {
		for i, list := range lists {
			text := fmt.Sprint(calls8(c, impl.Deed{}, list, 0, script), calls8(other, impl.Deed{}, list, 1, script))
			if round == 0 {
				first = append(first, text)
			}
			if text != first[i] {
				t.Errorf("%s became %s", first[i], text)
			}
		}
	}
}

func TestDeskCallsOfSeveralGoroutines(t *testing.T) {
	c, other := mantelCase("1/2", 2), deskCases()[6]
	list := deeds(finding(0, 2) + "; save; " + finding(1) + "; crash; 3 give 1 1; deliver 1")
	checkGoroutines(t, func() string {
		return fmt.Sprint(calls8(c, list[0], list, 1, "give 0 0\ncrash\nverdict"), calls8(other, list[1], list, 3, "result 3"), calls8(impl.Case{}, impl.Deed{}, list, 0, ""))
	})
}

// The greatest arguments for which every function has to return.
func TestDeskCallsOfGreatArguments(t *testing.T) {
	const many, greatest, least = 1000000, 1<<63 - 1, -1 << 63
	good := mantelCase("1/2", 2)
	long := caseOf(impl.Statement{Forbidden: times(impl.Graph{N: 3}, many), Target: edgeSum(), Bound: fr("1")}, certified(), 1)
	wide := caseOf(mantel("1/2"), certificateOf(3, slices.Repeat(certified().Blocks, many/10)...), 1)
	flags := caseOf(mantel("1/2"), certificateOf(3, impl.Block{Flags: copiesOf(flagsOf(pair)[1], many), Matrix: mat("1")}), 1)
	list := deeds(fmt.Sprint(many, " give 0 0"))
	for _, c := range []impl.Case{long, wide, flags, {Workers: greatest}, {Workers: least}} {
		for _, d := range []impl.Deed{{Kind: greatest, A: greatest, B: greatest}, {Kind: least, A: least, B: least}, {Kind: 1, A: greatest, B: least}} {
			calls8(c, d, list[:10], greatest, strings.Repeat("save\n", many/10))
		}
		checkRefusedDeeds(t, c, nil, impl.ErrInvalid)
	}
	for _, text := range []string{strings.Repeat(" ", many), strings.Repeat("\n", many), strings.Repeat("9", many), "give " + strings.Repeat("9", many), "give 0 " + strings.Repeat("0", many), "give" + strings.Repeat(" 0", many/2), "save" + strings.Repeat("\x00", many)} {
		for _, task := range []int64{least, greatest} {
			calls8(good, impl.Deed{}, list[:300], task, text)
		}
		if _, code := impl.ReadDeed(text); code != impl.ErrSyntax {
			t.Errorf("ReadDeed of a long text: code %d", code)
		}
		if out, code := impl.RunScript(good, text); out != "" || code != impl.ErrRange {
			t.Errorf("RunScript of a long text: code %d", code)
		}
	}
	checkRefusedDeeds(t, good, list, impl.ErrRange)
	list[many-1].A = 1000
	checkRefusedDeeds(t, good, list, impl.ErrInvalid)
}
