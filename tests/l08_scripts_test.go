package tests

import (
	"fmt"
	"strings"
	"testing"

	"loop.example/g01169/impl"
)

// Promise 16, its second half: scripts answer what they do.

// answer returns what a line is answered at a desk, and does it.
func (m *model) answer(line string) string {
	if d, is := deedsByText(m.tasks())[line]; is {
		if code := m.do(d); code != impl.OK {
			return "error " + map[int64]string{impl.ErrRange: "range", impl.ErrLimit: "limit", impl.ErrState: "state"}[code]
		}
		return "ok"
	}
	for task, value := range m.values {
		if line != fmt.Sprint("result ", task) {
			continue
		}
		if m.known[int64(task)] {
			return impl.FractionText(value)
		}
		return "unknown"
	}
	if line != "verdict" {
		return "what"
	}
	switch v := m.verdict(); v[0] {
	case impl.VdProved:
		return "proved"
	case impl.VdFault:
		return fmt.Sprint("fault ", v[1], " ", v[2])
	}
	return "open"
}

// deedsByText returns, for a number of tasks, the valid deeds with small numbers,
// and some with great ones, by their texts.
var deedsByText = remembered(func(tasks int64) map[string]impl.Deed {
	list := deeds("save; crash; give 999 999; give 0 999; give 999 0; work 999; deliver 999; copy 999; drop 999")
	for a := range int64(12) {
		list = append(list, deeds(fmt.Sprintf("work %d; deliver %d; copy %d; drop %d", a, a, a, a))...)
		for b := range tasks + 3 {
			list = append(list, impl.Deed{Kind: impl.DdGive, A: a, B: b})
		}
	}
	found := map[string]impl.Deed{}
	for _, d := range list {
		found[textOfDeed(d)] = d
	}
	return found
})

// checkScript holds what a text is answered against what a desk does.
func checkScript(t *testing.T, c impl.Case, m *model, text string) {
	t.Helper()
	want := ""
	if text != "" {
		for line := range strings.SplitSeq(strings.TrimSuffix(text, "\n"), "\n") {
			want += m.answer(line) + "\n"
		}
	}
	if got, code := impl.RunScript(c, text); got != want || code != impl.OK {
		t.Fatalf("RunScript %v, %q: %q, code %d, want %q", c, text, got, code, want)
	}
}

// nearlyLines are lines that are nearly answered otherwise.
var nearlyLines = []string{"", " ", "verdict ", " verdict", "verdict 0", "Verdict", "verdic", "verdicts", "verdict\r", "result", "result ", "result  0", " result 0", "result 0 ", "result 00", "result 01", "result +0", "result -0", "result -1", "result +1", "result x", "result 0 0", "result 1/1", "result 0x0", "result 1e0", "result 1_0", "result 40", "result 41", "result 999", "result 1000", "result 4294967296", "result 9223372036854775807", "result 9223372036854775808", "result 18446744073709551616", "results 0", "Result 0", "result0", "result\t0", "0", "save ", " save", "save 0", "saved", "SAVE", "crash 0", "crashes", "give", "give 0", "give 0 0 0", "give 00 0", "give 0 00", "give +0 0", "give -1 0", "give 0 -1", "give 1000 0", "give 0 1000", "give  0 0", "give 0  0", "give 0 0 ", "work", "work ", "work 0 0", "work 01", "work 1000", "work x", "deliver", "deliver 1000", "deliver 0 0", "copy", "copy 01", "drop", "drop -0", "what", "ok", "open", "error", "unknown", "hello", "\x00", "\xff", "\r", "\t"}

func TestScripts(t *testing.T) {
	random := seeded(120)
	words := map[string]int{}
	for round := range 220 {
		c := someDeskCase(t, random)
		if round < 48 {
			c = deskCases()[round%12]
		}
		start := modelOf(t, c)
		m := start.again()
		var lines []string
		for range []int{3, 40, 119, 120}[round%4] {
			line := textOfDeed(someDeed(random, m))
			switch random.IntN(8) {
			case 0:
				line = "verdict"
			case 1, 2:
				line = fmt.Sprint("result ", random.Int64N(m.tasks()+2))
			case 3:
				line = nearlyLines[random.IntN(len(nearlyLines))]
			}
			word, _, _ := strings.Cut(m.answer(line), " ")
			words[word]++
			lines = append(lines, line)
		}
		text := strings.Join(lines, "\n")
		checkScript(t, c, start.again(), text+"\n")
		if lines[len(lines)-1] != "" {
			checkScript(t, c, start.again(), text)
		}
	}
	for _, word := range []string{"ok", "error", "unknown", "open", "proved", "fault", "what", "1", "0"} {
		if words[word] < 20 {
			t.Errorf("too few of %q: %v", word, words)
		}
	}
}

// Lines that are nearly deeds or questions do nothing.
func TestLinesThatAreNotUnderstood(t *testing.T) {
	for _, c := range deskCases() {
		for _, line := range nearlyLines {
			if out, code := impl.RunScript(c, line+"\n"); out != "what\n" || code != impl.OK {
				t.Errorf("RunScript %v, %q: %q, code %d", c, line, out, code)
			}
			if out, code := impl.RunScript(c, "give 0 0\n"+line+"\nwork 0\ndrop 1\n"); code != impl.OK || strings.Split(out, "\n")[1] != "what" || !strings.HasSuffix(out, "what\nerror state\nerror range\n") {
				t.Errorf("RunScript %v, %q: %q, code %d", c, line, out, code)
			}
		}
	}
}

func TestScriptsThatAreWrittenOut(t *testing.T) {
	one, third, three := mantelCase("1/2", 1), mantelCase("1/3", 2), faulty("1 -1 -1", "-1 0 -1/2 2")
	known := "give 0 0\ndeliver 0\nwork 0\ndeliver 0\n"
	for _, c := range []struct {
		c          impl.Case
		text, want string
	}{
		{one, "", ""}, {one, "\n", "what\n"}, {one, "\n\n", "what\nwhat\n"}, {one, "\nsave", "what\nok\n"}, {one, "save", "ok\n"}, {one, "save\n", "ok\n"}, {one, "save\n\n", "ok\nwhat\n"}, {one, "save\ncrash", "ok\nok\n"}, {one, "save\r\ncrash\r\n", "what\nwhat\n"},
		{one, "verdict", "open\n"}, {deskCases()[9], "verdict\nresult 0\ngive 0 0\n", "proved\nwhat\nerror range\n"}, {one, "result 0\nresult 1\nresult 3\nresult 4\n", "unknown\nunknown\nunknown\nwhat\n"},
		{one, "give 0 2\ndeliver 0\nwork 0\nresult 2\ndeliver 0\nresult 2", "ok\nok\nok\nunknown\nok\n1/3\n"}, {one, known + "give 0 0\ngive 1 0\ngive 0 4\nwork 0\nwork 1\ndeliver 0\ncopy 0\ndrop 0\n", "ok\nok\nok\nok\nerror state\nerror range\nerror range\nerror state\nerror range\nerror range\nerror range\nerror range\n"},
		{one, strings.Repeat("give 0 1\n", 9) + "deliver 0\nwork 0\ncopy 0\nwork 0\n", strings.Repeat("ok\n", 8) + "error limit\nok\nok\nok\nerror limit\n"}, {one, known + "crash\nresult 0\n" + known + "save\ncrash\nresult 0\nverdict", strings.Repeat("ok\n", 5) + "unknown\n" + strings.Repeat("ok\n", 6) + "1\nopen\n"},
		{one, known + known, strings.Repeat("ok\n", 4) + "error state\nerror range\nerror state\nerror range\n"},
		{one, strings.ReplaceAll(finding(0, 1, 2, 3), "; ", "\n") + "\nverdict\nresult 1\nresult 3\ncrash\nverdict", strings.Repeat("ok\n", 16) + "proved\n0\n0\nok\nopen\n"},
		{third, strings.ReplaceAll(finding(0, 3), "; ", "\n") + "\nverdict\nresult 3\nresult 2\n", strings.Repeat("ok\n", 8) + "fault 2 2\n-1/6\nunknown\n"},
		{three, strings.ReplaceAll(finding(2), "; ", "\n") + "\nverdict\nresult 2\nresult 0\n" + strings.ReplaceAll(finding(1), "; ", "\n") + "\nverdict", strings.Repeat("ok\n", 4) + "fault 1 2\n0\nunknown\n" + strings.Repeat("ok\n", 4) + "fault 1 1\n"},
	} {
		if out, code := impl.RunScript(c.c, c.text); out != c.want || code != impl.OK {
			t.Errorf("RunScript %v, %q: %q, code %d, want %q", c.c, c.text, out, code, c.want)
		}
	}
}

// Scripts do what deeds do: the same results, and the same verdict.
func TestScriptsAndDeeds(t *testing.T) {
	random := seeded(121)
	for range 40 {
		c := someDeskCase(t, random)
		m := modelOf(t, c)
		list := someDeeds(random, m, 60)
		var lines []string
		for _, d := range list {
			lines = append(lines, impl.DeedText(d))
		}
		for task := range min(m.tasks(), 59) {
			lines = append(lines, fmt.Sprint("result ", task))
		}
		out, code := impl.RunScript(c, strings.Join(append(lines, "verdict"), "\n"))
		answers := strings.Split(out, "\n")
		d, done, _ := impl.DeskAfter(c, list)
		if code != impl.OK || len(answers) != len(lines)+2 || strings.Count(out, "ok\n") != int(done) {
			t.Fatalf("RunScript %v, %q: %q, code %d, and %d are done", c, lines, out, code, done)
		}
		for task, r := range d.Results {
			want := "unknown"
			if r.Known {
				want = impl.FractionText(r.Value)
			}
			if got := answers[len(list)+task]; got != want {
				t.Fatalf("result %d of %v after %q is %s, want %s", task, c, lines, got, want)
			}
		}
		verdict, fault, index, _ := impl.VerdictAfter(c, list)
		want := []string{"open", "proved", fmt.Sprint("fault ", fault, " ", index)}[verdict]
		if got := answers[len(lines)]; got != want {
			t.Fatalf("verdict of %v after %q is %s, want %s", c, lines, got, want)
		}
	}
}

// MaxScriptText bytes and MaxScriptLines lines, and one more of each.
func TestScriptsAtTheLimit(t *testing.T) {
	for _, c := range []impl.Case{mantelCase("1/2", 1), deskCases()[6], deskCases()[9]} {
		for _, s := range []struct {
			text, want string
			code       int64
		}{
			{strings.Repeat("save\n", 120), strings.Repeat("ok\n", 120), impl.OK}, {strings.Repeat("save\n", 119) + "save", strings.Repeat("ok\n", 120), impl.OK}, {strings.Repeat("\n", 120), strings.Repeat("what\n", 120), impl.OK}, {strings.Repeat("\n", 119) + "x", strings.Repeat("what\n", 120), impl.OK},
			{strings.Repeat("save\n", 120) + "s", "", impl.ErrRange}, {strings.Repeat("save\n", 121), "", impl.ErrRange}, {strings.Repeat("save\n", 120) + "\n", "", impl.ErrRange}, {strings.Repeat("save\n", 120) + " ", "", impl.ErrRange}, {strings.Repeat("\n", 121), "", impl.ErrRange}, {strings.Repeat("\n", 9999), "", impl.ErrRange}, {strings.Repeat("\n", 10000), "", impl.ErrRange},
			{strings.Repeat("x", 10000), "what\n", impl.OK}, {strings.Repeat("x", 9999) + "\n", "what\n", impl.OK}, {strings.Repeat("x", 9995) + "\nsave", "what\nok\n", impl.OK}, {"save\n" + strings.Repeat(" ", 9995), "ok\nwhat\n", impl.OK}, {strings.Repeat("x", 10001), "", impl.ErrRange}, {strings.Repeat("x", 10000) + "\n", "", impl.ErrRange}, {strings.Repeat("save\n", 2001), "", impl.ErrRange}, {strings.Repeat("save\n", 100) + strings.Repeat("x", 9501), "", impl.ErrRange}, {strings.Repeat("save\n", 100) + strings.Repeat("x", 9500), strings.Repeat("ok\n", 100) + "what\n", impl.OK},
			{strings.Repeat(strings.Repeat("x", 82)+"\n", 120), strings.Repeat("what\n", 120), impl.OK}, {strings.Repeat(strings.Repeat("x", 83)+"\n", 120), "", impl.ErrRange}, {strings.Repeat("ä", 5000), "what\n", impl.OK}, {strings.Repeat("ä", 5001), "", impl.ErrRange},
		} {
			out, code := impl.RunScript(c, s.text)
			if out != s.want || code != s.code {
				t.Errorf("RunScript %v, %d bytes that begin with %q: %q, code %d, want %q, code %d", c, len(s.text), s.text[:4], out, code, s.want, s.code)
			}
		}
	}
	// The case comes first.
	for _, c := range badCases() {
		for _, text := range []string{"", "save\n", strings.Repeat("\n", 121), strings.Repeat("x", 10001)} {
			out, code := impl.RunScript(c, text)
			isRefused(t, fmt.Sprint("RunScript ", c, len(text)), out == "", code, impl.ErrInvalid)
		}
	}
}
