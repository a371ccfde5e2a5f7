package tests

import (
	"fmt"
	"slices"
	"strings"
	"testing"

	"loop.example/g01169/impl"
)

// Promise 15: results that are known are those of their tasks. Deeds do what the
// document tells, or are left out with the error that it names first.

// textOfDesk writes a desk: the results and what has been saved of them, "?" if
// not known, the benches, "-" if empty, and the packets, ">" to and "<" from a
// worker, with the task and, if it is back, with the value. What is not as it has
// to be is written out.
func textOfDesk(d impl.Desk) string {
	var list [4][]string
	add := func(part int, text string) { list[part] = append(list[part], text) }
	for part, results := range [][]impl.Result{d.Results, d.Saved} {
		for _, r := range results {
			switch {
			case r.Known:
				add(part, impl.FractionText(r.Value))
			case r.Value == fr("0"):
				add(part, "?")
			default:
				add(part, fmt.Sprint(r))
			}
		}
	}
	for _, task := range d.Benches {
		add(2, strings.Replace(fmt.Sprint(task), "-1", "-", 1))
	}
	for _, p := range d.Wire {
		switch {
		case p.Back:
			add(3, fmt.Sprint("<", p.Worker, ":", p.Task, "=", impl.FractionText(p.Value)))
		case p.Value == fr("0"):
			add(3, fmt.Sprint(">", p.Worker, ":", p.Task))
		default:
			add(3, fmt.Sprint(p))
		}
	}
	var parts []string
	for _, words := range list {
		parts = append(parts, strings.Join(words, " "))
	}
	return strings.Join(parts, " | ")
}

// checkDesk fails unless the desk after some deeds is as told, those at some
// indices being left out with some errors.
func checkDesk(t *testing.T, c impl.Case, text, want, leftOut string) {
	t.Helper()
	list := deeds(text)
	m := modelOf(t, c).all(list)
	checkDeeds(t, c, list, m)
	d, done, code := impl.DeskAfter(c, list)
	if got := textOfDesk(d); got != want || code != impl.OK {
		t.Errorf("after %s: %s, code %d, want %s", text, got, code, want)
	}
	var words []string
	for i, code := range m.codes {
		if code != impl.OK {
			words = append(words, fmt.Sprint(i, impl.CodeName(code)))
		}
	}
	if got := strings.Join(words, " "); got != leftOut || int(done) != len(list)-len(words) {
		t.Errorf("of %s, left out are %s, and %d are done, want %s", text, got, done, leftOut)
	}
	at, refused, code := impl.RefusedDeed(c, list)
	first, _, _ := strings.Cut(leftOut, " ")
	if got := fmt.Sprint(at, impl.CodeName(refused)); leftOut != "" && (got != first || code != impl.OK) || leftOut == "" && (got != "0ok" || code != impl.ErrNotFound) {
		t.Errorf("of %s, %s is left out first, code %d, want %s", text, got, code, first)
	}
}

// The tasks of the example are found to be 1, 0, 1/3 and 0.
func TestDesksOfEachKindOfDeeds(t *testing.T) {
	two := mantelCase("1/2", 2)
	for _, c := range []struct{ deeds, want, leftOut string }{
		{"", "? ? ? ? | ? ? ? ? | - - | ", ""},
		{"give 0 0", "? ? ? ? | ? ? ? ? | - - | >0:0", ""}, {"give 1 3; give 0 3; give 1 3", "? ? ? ? | ? ? ? ? | - - | >1:3 >0:3 >1:3", ""},
		{"give 1 2; deliver 0", "? ? ? ? | ? ? ? ? | - 2 | ", ""}, {"give 1 2; copy 0", "? ? ? ? | ? ? ? ? | - 2 | >1:2", ""}, {"give 1 2; drop 0", "? ? ? ? | ? ? ? ? | - - | ", ""},
		{"give 1 2; deliver 0; work 1", "? ? ? ? | ? ? ? ? | - - | <1:2=1/3", ""}, {"give 1 2; deliver 0; work 1; deliver 0", "? ? 1/3 ? | ? ? ? ? | - - | ", ""}, {"give 1 2; deliver 0; work 1; copy 0", "? ? 1/3 ? | ? ? ? ? | - - | <1:2=1/3", ""}, {"give 1 2; deliver 0; work 1; drop 0", "? ? ? ? | ? ? ? ? | - - | ", ""},
		{"give 0 0; deliver 0; work 0; deliver 0; save", "1 ? ? ? | 1 ? ? ? | - - | ", ""}, {"save", "? ? ? ? | ? ? ? ? | - - | ", ""}, {"crash", "? ? ? ? | ? ? ? ? | - - | ", ""},
		// A task lay on the bench already.
		{"give 0 1; give 0 2; deliver 0; deliver 0; work 0", "? ? ? ? | ? ? ? ? | - - | <0:2=1/3", ""}, {"give 0 1; give 0 2; deliver 1; deliver 0; work 0; deliver 0", "? 0 ? ? | ? ? ? ? | - - | ", ""}, {"give 0 1; give 1 2; deliver 1; deliver 0", "? ? ? ? | ? ? ? ? | 1 2 | ", ""},
		// Packets at the beginning, in the middle and at the end of the wire.
		{"give 0 0; give 0 1; give 0 2; drop 0", "? ? ? ? | ? ? ? ? | - - | >0:1 >0:2", ""}, {"give 0 0; give 0 1; give 0 2; drop 1", "? ? ? ? | ? ? ? ? | - - | >0:0 >0:2", ""}, {"give 0 0; give 0 1; give 0 2; drop 2", "? ? ? ? | ? ? ? ? | - - | >0:0 >0:1", ""}, {"give 0 0; give 0 1; give 0 2; deliver 1", "? ? ? ? | ? ? ? ? | 1 - | >0:0 >0:2", ""}, {"give 0 0; give 0 1; give 0 2; copy 1", "? ? ? ? | ? ? ? ? | 1 - | >0:0 >0:1 >0:2", ""}, {"give 0 0; give 0 1; give 0 2; deliver 1; deliver 1; work 0", "? ? ? ? | ? ? ? ? | - - | >0:0 <0:2=1/3", ""},
		// A packet that comes in twice, before and behind the work.
		{"give 0 2; copy 0; work 0; deliver 0; work 0", "? ? ? ? | ? ? ? ? | - - | <0:2=1/3 <0:2=1/3", ""}, {"give 0 2; deliver 0; work 0; copy 0; deliver 0", "? ? 1/3 ? | ? ? ? ? | - - | ", ""}, {"give 0 2; 3 copy 0", "? ? ? ? | ? ? ? ? | 2 - | >0:2", ""},
		// A task that is given twice is known already when it is back again.
		{"give 0 2; give 1 2; 2 deliver 0; work 0; work 1; 2 deliver 0", "? ? 1/3 ? | ? ? ? ? | - - | ", ""}, {"2 give 0 2; deliver 0; work 0; deliver 1; deliver 0", "? ? 1/3 ? | ? ? ? ? | 2 - | ", ""},
	} {
		checkDesk(t, two, c.deeds, c.want, c.leftOut)
	}
}

// A crash loses what has not been saved, and nothing else: benches and packets
// are as they have been.
func TestCrashes(t *testing.T) {
	two := mantelCase("1/2", 2)
	known := "give 0 0; deliver 0; work 0; deliver 0; "
	for _, c := range []struct{ deeds, want, leftOut string }{
		{known + "crash", "? ? ? ? | ? ? ? ? | - - | ", ""}, {known + "save; crash", "1 ? ? ? | 1 ? ? ? | - - | ", ""}, {known + "save; 2 crash", "1 ? ? ? | 1 ? ? ? | - - | ", ""}, {known + "2 crash; save", "? ? ? ? | ? ? ? ? | - - | ", ""}, {known + "crash; save; crash", "? ? ? ? | ? ? ? ? | - - | ", ""},
		{known + "save; give 1 2; deliver 0; work 1; deliver 0", "1 ? 1/3 ? | 1 ? ? ? | - - | ", ""}, {known + "save; give 1 2; deliver 0; work 1; deliver 0; crash", "1 ? ? ? | 1 ? ? ? | - - | ", ""}, {known + "save; give 1 2; deliver 0; work 1; deliver 0; save; crash", "1 ? 1/3 ? | 1 ? 1/3 ? | - - | ", ""},
		// What is on benches and on the wire stays.
		{"give 0 2; give 1 1; give 0 3; deliver 0; crash", "? ? ? ? | ? ? ? ? | 2 - | >1:1 >0:3", ""}, {"give 0 2; deliver 0; crash; work 0; deliver 0", "? ? 1/3 ? | ? ? ? ? | - - | ", ""}, {"give 0 2; deliver 0; work 0; crash; deliver 0", "? ? 1/3 ? | ? ? ? ? | - - | ", ""}, {"give 0 2; crash; deliver 0; work 0; deliver 0", "? ? 1/3 ? | ? ? ? ? | - - | ", ""},
		// A packet that is back stays behind a copy, and is known again.
		{"give 0 2; deliver 0; work 0; copy 0; crash", "? ? ? ? | ? ? ? ? | - - | <0:2=1/3", ""}, {"give 0 2; deliver 0; work 0; copy 0; crash; copy 0; save; crash; deliver 0", "? ? 1/3 ? | ? ? 1/3 ? | - - | ", ""},
		// A task is given again behind a crash, and not ahead of it.
		{known + "give 1 0; crash; give 1 0", "? ? ? ? | ? ? ? ? | - - | >1:0", "4state"}, {known + "save; crash; give 1 0", "1 ? ? ? | 1 ? ? ? | - - | ", "6state"},
		// What is known again is not lost by a later result, nor saved before.
		{known + "save; give 1 1; deliver 0; work 1; deliver 0; crash; give 1 1; deliver 0; work 1; deliver 0; save; give 0 3; deliver 0; work 0; deliver 0; crash", "1 0 ? ? | 1 0 ? ? | - - | ", ""},
	} {
		checkDesk(t, two, c.deeds, c.want, c.leftOut)
	}
}

// Each error of the table, and which of two comes first.
func TestErrorsOfDeeds(t *testing.T) {
	one, two := mantelCase("1/2", 1), mantelCase("1/2", 2)
	const nothing = "? ? ? ? | ? ? ? ? | - - | "
	full := "? ? ? ? | ? ? ? ? | - - | " + strings.TrimSpace(strings.Repeat(">0:1 ", 8))
	known := "give 0 0; deliver 0; work 0; deliver 0; "
	for _, c := range []struct{ deeds, want, leftOut string }{
		{"give 2 0", nothing, "0range"}, {"give 999 0", nothing, "0range"}, {"give 0 4", nothing, "0range"}, {"give 1 999", nothing, "0range"}, {"give 2 4; give 999 999", nothing, "0range 1range"}, {"give 1 3; drop 0", nothing, ""},
		{"work 2", nothing, "0range"}, {"work 999", nothing, "0range"}, {"work 0; work 1", nothing, "0state 1state"}, {"give 0 0; work 0; drop 0", nothing, "1state"}, {"give 0 0; deliver 0; 2 work 0; drop 0", nothing, "3state"}, {"give 1 0; deliver 0; work 0; work 1; drop 0", nothing, "2state"},
		{"deliver 0; copy 0; drop 0", nothing, "0range 1range 2range"}, {"deliver 999; copy 999; drop 999", nothing, "0range 1range 2range"}, {"give 0 0; deliver 1; copy 1; drop 1; drop 0", nothing, "1range 2range 3range"}, {"2 give 0 0; deliver 2; copy 2; drop 2; 2 drop 0; drop 0", nothing, "2range 3range 4range 7range"},
		// A wire with MaxWire packets, and one more.
		{"8 give 0 1", full, ""}, {"9 give 0 1", full, "8limit"}, {"8 give 0 1; drop 7; give 0 1", full, ""}, {"8 give 0 1; drop 3; give 0 1; give 1 2", full, "10limit"}, {"8 give 0 1; drop 8; give 0 1", full, "8range 9limit"}, {"8 give 0 1; copy 7; drop 0; work 0; give 0 1", "? ? ? ? | ? ? ? ? | - - | >0:1 >0:1 >0:1 >0:1 >0:1 >0:1 >0:1 <0:1=0", "11limit"},
		{"8 give 0 1; copy 0; work 0", "? ? ? ? | ? ? ? ? | 1 - | >0:1 >0:1 >0:1 >0:1 >0:1 >0:1 >0:1 >0:1", "9limit"}, {"8 give 0 1; deliver 0; work 0; work 0", "? ? ? ? | ? ? ? ? | - - | >0:1 >0:1 >0:1 >0:1 >0:1 >0:1 >0:1 <0:1=0", "10state"},
		// No such worker or task comes before all that is known and before a full
		// wire, and both of these come in this order.
		{known + "give 2 0", "1 ? ? ? | ? ? ? ? | - - | ", "4range"}, {known + "give 0 0", "1 ? ? ? | ? ? ? ? | - - | ", "4state"}, {known + "8 give 1 1; give 1 0", "1 ? ? ? | ? ? ? ? | - - | " + strings.ReplaceAll(full[26:], "0:", "1:"), "12state"}, {known + "8 give 1 1; give 2 0; give 1 4; give 1 1", "1 ? ? ? | ? ? ? ? | - - | " + strings.ReplaceAll(full[26:], "0:", "1:"), "12range 13range 14limit"},
		{"8 give 0 1; work 2", full, "8range"}, {"8 give 0 1; work 0", full, "8state"}, {"8 give 0 1; give 0 4", full, "8range"}, {"8 give 0 1; give 2 1", full, "8range"}, {"8 give 0 1; save; crash", full, ""}, {"8 give 0 1; deliver 8; copy 8; drop 8", full, "8range 9range 10range"},
	} {
		checkDesk(t, two, c.deeds, c.want, c.leftOut)
	}
	// With one worker, there is no worker 1.
	checkDesk(t, one, "give 1 0; work 1; give 0 0; deliver 0; work 0; work 1; deliver 0", "1 ? ? ? | ? ? ? ? | - | ", "0range 1range 5range")
	checkDesk(t, mantelCase("1/2", 3), "give 2 3; give 3 3; deliver 0; work 3; work 2; deliver 0", "? ? ? 0 | ? ? ? ? | - - - | ", "1range 3range")
	// Without tasks, there is nothing to give.
	none := caseOf(impl.Statement{Forbidden: []impl.Graph{{}}, Bound: fr("1")}, certificateOf(0), 2)
	checkDesk(t, none, "give 0 0; work 0; deliver 0; save; crash", " |  | - - | ", "0range 1state 2range")
}

// The tasks at the end of the greatest case there is.
func TestDesksWithManyTasks(t *testing.T) {
	c := deskCases()[10]
	unknown := strings.Repeat("? ", 38)
	checkDesk(t, c, "give 2 39; give 2 40; give 0 0; deliver 0; deliver 0; work 0; work 2; 2 deliver 0; save", "1 "+unknown+"1/2 | 1 "+unknown+"1/2 | - - - | ", "1range")
	checkDesk(t, c, "give 2 5; deliver 0; work 2; deliver 0; crash; give 1 38; deliver 0", strings.Repeat("? ", 40)+"| "+strings.Repeat("? ", 40)+"| - 38 - | ", "")
}

// Deeds that are left out change nothing: the others alone lead to the same desk.
func TestDeedsThatAreLeftOut(t *testing.T) {
	random := seeded(111)
	for _, c := range deskCases() {
		start := modelOf(t, c)
		for range 12 {
			m := start.again()
			list := someDeeds(random, m, 30+random.IntN(60))
			var done []impl.Deed
			for i, d := range list {
				if m.codes[i] == impl.OK {
					done = append(done, d)
				}
			}
			checkDeeds(t, c, list, m)
			checkDeeds(t, c, done, start.again().all(done))
			d, _, _ := impl.DeskAfter(c, list)
			e, count, code := impl.DeskAfter(c, done)
			if !sameDesks(d, e) || int(count) != len(done) || code != impl.OK {
				t.Fatalf("%v after %v, and %v after %v", d, list, e, done)
			}
		}
	}
}

// Runs of all lengths, in cases of all kinds.
func TestDesksAfterDeeds(t *testing.T) {
	random := seeded(112)
	codes := map[string]int{}
	for round := range 150 {
		c := someDeskCase(t, random)
		if round < 48 {
			c = deskCases()[round%12]
		}
		m := modelOf(t, c)
		list := someDeeds(random, m, []int{5, 30, 100, 270, 299, 300}[round%6])
		m = m.again()
		for i, d := range list {
			if i%41 == 0 {
				checkDeeds(t, c, list[:i], m)
			}
			codes[fmt.Sprint(deedWords[d.Kind], " ", impl.CodeName(m.do(d)))]++
		}
		checkDeeds(t, c, list, m)
	}
	for _, what := range []string{"give ok", "give range", "give state", "give limit", "work ok", "work range", "work state", "work limit", "deliver ok", "deliver range", "copy ok", "copy range", "drop ok", "drop range", "save ok", "crash ok"} {
		if codes[what] < 50 {
			t.Errorf("too few of %q: %v", what, codes)
		}
	}
}

// Results that are known are those of DoTask, however they have come.
func TestResultsAreThoseOfTheirTasks(t *testing.T) {
	random := seeded(113)
	known := 0
	for range 60 {
		c := someDeskCase(t, random)
		list := someDeeds(random, modelOf(t, c), 200)
		d, _, code := impl.DeskAfter(c, list)
		n, _ := impl.TasksOf(c)
		if code != impl.OK || int64(len(d.Results)) != n || int64(len(d.Saved)) != n || int64(len(d.Benches)) != c.Workers {
			t.Fatalf("DeskAfter %v: %v, code %d", c, d, code)
		}
		for _, results := range [][]impl.Result{d.Results, d.Saved} {
			for task, r := range results {
				want := impl.Fraction{Q: 1}
				if r.Known {
					known++
					want, _ = impl.DoTask(c, int64(task))
				}
				checkFraction(t, fmt.Sprint("result ", task, " of ", c), r.Value, impl.OK, want, impl.OK)
			}
		}
		for _, p := range d.Wire {
			if value, _ := impl.DoTask(c, p.Task); p.Back && p.Value != value || !p.Back && p.Value != fr("0") {
				t.Fatalf("packet %v of %v", p, c)
			}
		}
	}
	if known < 300 {
		t.Errorf("only %d results are known", known)
	}
}

// Every list of two deeds behind a desk with something on it.
func TestPairsOfDeeds(t *testing.T) {
	c := mantelCase("1/2", 2)
	begin := deeds("give 0 0; give 1 2; give 0 1; deliver 1; work 1; save")
	var all []impl.Deed
	for _, text := range []string{"save", "crash"} {
		all = append(all, deeds(text)...)
	}
	for n := range 4 {
		all = append(all, deeds(fmt.Sprintf("give %d 1; give 0 %d; work %d; deliver %d; copy %d; drop %d", n, n+1, n, n, n, n))...)
	}
	start := modelOf(t, c)
	for _, first := range all {
		for _, second := range all {
			list := append(slices.Clone(begin), first, second)
			checkDeeds(t, c, list, start.again().all(list))
		}
	}
}
