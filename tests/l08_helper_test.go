package tests

import (
	"fmt"
	"maps"
	"math/rand/v2"
	"slices"
	"strings"
	"testing"

	"loop.example/g01169/impl"
)

// The helpers keep the desk as a table of sets and maps, and reckon what tasks
// are found to be with math/big.

// caseOf returns the case of a statement and a certificate.
func caseOf(s impl.Statement, c impl.Certificate, workers int64) impl.Case {
	return impl.Case{Statement: s, Certificate: c, Workers: workers}
}

// mantelCase is the case of the example of the document, with some bound.
func mantelCase(bound string, workers int64) impl.Case {
	return caseOf(mantel(bound), certified(), workers)
}

// wantValues returns what the tasks of a case are found to be, and whether the
// case is valid.
func wantValues(c impl.Case) ([]impl.Fraction, bool) {
	if c.Workers < 1 || c.Workers > 3 || !impl.ValidStatement(c.Statement) || !impl.ValidCertificate(c.Statement, c.Certificate) {
		return nil, false
	}
	var list []impl.Fraction
	for _, b := range c.Certificate.Blocks {
		switch _, _, code, _, _ := wantSquares(b.Matrix); code {
		case impl.ErrLimit:
			return nil, false
		case impl.ErrState:
			list = append(list, fr("0"))
		default:
			list = append(list, fr("1"))
		}
	}
	for _, g := range freeOf(c.Certificate.Size, c.Statement.Forbidden) {
		left, code := wantSlack(c.Statement, c.Certificate, g)
		if code != impl.OK {
			return nil, false
		}
		list = append(list, left)
	}
	return list, true
}

// model is a desk, with the numbers of the tasks whose results are known, of
// those that have been saved, and of those on benches.
type model struct {
	workers, blocks int64
	values          []impl.Fraction
	known, saved    map[int64]bool
	benches         map[int64]int64
	wire            []impl.Packet
	codes           []int64
}

// modelOf returns the desk of a case, which has to be valid, at the beginning.
func modelOf(t *testing.T, c impl.Case) *model {
	t.Helper()
	values, valid := wantValues(c)
	if !valid {
		t.Fatalf("not valid: %v", c)
	}
	m := &model{workers: c.Workers, blocks: int64(len(c.Certificate.Blocks)), values: values}
	return m.again()
}

// again returns the same desk at the beginning.
func (m *model) again() *model {
	return &model{workers: m.workers, blocks: m.blocks, values: m.values, known: map[int64]bool{}, saved: map[int64]bool{}, benches: map[int64]int64{}}
}

// tasks returns how many tasks there are.
func (m *model) tasks() int64 { return int64(len(m.values)) }

// error returns the error of a deed at this desk.
func (m *model) error(d impl.Deed) int64 {
	_, busy := m.benches[d.A]
	full := len(m.wire) == 8
	switch {
	case d.Kind <= impl.DdWork && d.A >= m.workers, d.Kind == impl.DdGive && d.B >= m.tasks():
		return impl.ErrRange
	case d.Kind == impl.DdGive && m.known[d.B], d.Kind == impl.DdWork && !busy:
		return impl.ErrState
	case d.Kind <= impl.DdWork && full:
		return impl.ErrLimit
	case d.Kind >= impl.DdDeliver && d.Kind <= impl.DdDrop && int(d.A) >= len(m.wire):
		return impl.ErrRange
	}
	return impl.OK
}

// do does a deed, or leaves it out.
func (m *model) do(d impl.Deed) int64 {
	code := m.error(d)
	m.codes = append(m.codes, code)
	if code != impl.OK {
		return code
	}
	switch d.Kind {
	case impl.DdGive:
		m.wire = append(m.wire, impl.Packet{Worker: d.A, Task: d.B, Value: fr("0")})
	case impl.DdWork:
		task := m.benches[d.A]
		delete(m.benches, d.A)
		m.wire = append(m.wire, impl.Packet{Back: true, Worker: d.A, Task: task, Value: m.values[task]})
	case impl.DdDeliver, impl.DdCopy:
		if p := m.wire[d.A]; p.Back {
			m.known[p.Task] = true
		} else {
			m.benches[p.Worker] = p.Task
		}
	case impl.DdSave:
		m.saved = maps.Clone(m.known)
	case impl.DdCrash:
		m.known = maps.Clone(m.saved)
	}
	if d.Kind == impl.DdDeliver || d.Kind == impl.DdDrop {
		m.wire = slices.Concat(m.wire[:d.A], m.wire[d.A+1:])
	}
	return code
}

// all does deeds one after the other.
func (m *model) all(deeds []impl.Deed) *model {
	for _, d := range deeds {
		m.do(d)
	}
	return m
}

// desk returns the desk as the document tells it.
func (m *model) desk() impl.Desk {
	d := impl.Desk{Wire: slices.Clone(m.wire)}
	result := func(task int64, known map[int64]bool) impl.Result {
		if known[task] {
			return impl.Result{Known: true, Value: m.values[task]}
		}
		return impl.Result{Value: fr("0")}
	}
	for task := range m.tasks() {
		d.Results = append(d.Results, result(task, m.known))
		d.Saved = append(d.Saved, result(task, m.saved))
	}
	for worker := range m.workers {
		task, busy := m.benches[worker]
		if !busy {
			task = -1
		}
		d.Benches = append(d.Benches, task)
	}
	return d
}

// verdict returns the verdict, and the kind and the index of the first fault.
func (m *model) verdict() [3]int64 {
	open := false
	for task, value := range m.values {
		task := int64(task)
		if task == m.blocks && open {
			break
		}
		switch {
		case !m.known[task]:
			open = true
		case task < m.blocks && value.P == 0:
			return [3]int64{impl.VdFault, impl.FtMatrix, task}
		case task >= m.blocks && value.P < 0:
			return [3]int64{impl.VdFault, impl.FtSlack, task - m.blocks}
		}
	}
	if open {
		return [3]int64{impl.VdOpen, 0, 0}
	}
	return [3]int64{impl.VdProved, 0, 0}
}

// plan returns the deeds that FinishDeeds has to plan.
func (m *model) plan() []impl.Deed {
	var words []string
	for range m.wire {
		words = append(words, "drop 0")
	}
	for task := range m.tasks() {
		if !m.known[task] {
			worker := task % m.workers
			words = append(words, fmt.Sprint("give ", worker, " ", task), "deliver 0", fmt.Sprint("work ", worker), "deliver 0")
		}
	}
	return deeds(strings.Join(append(words, "save"), "; "))
}

// deeds returns the deeds with some texts, separated by semicolons; "9 give 0 1"
// is 9 times the same deed.
func deeds(text string) []impl.Deed {
	var list []impl.Deed
	for part := range strings.SplitSeq(text, ";") {
		words := strings.Fields(part)
		count := 1
		if len(words) > 0 && words[0][0] <= '9' {
			fmt.Sscan(words[0], &count)
			words = words[1:]
		}
		if len(words) == 0 {
			continue
		}
		d := impl.Deed{Kind: int64(slices.Index(deedWords, words[0]))}
		fmt.Sscan(strings.Join(words[1:], " "), &d.A, &d.B)
		list = append(list, slices.Repeat([]impl.Deed{d}, count)...)
	}
	return list
}

var deedWords = []string{"", "give", "work", "deliver", "copy", "drop", "save", "crash"}

// textOfDeed writes a deed as the document tells.
func textOfDeed(d impl.Deed) string {
	switch word := deedWords[d.Kind]; word {
	case "give":
		return fmt.Sprintf("%s %d %d", word, d.A, d.B)
	case "save", "crash":
		return word
	default:
		return fmt.Sprintf("%s %d", word, d.A)
	}
}

// someDeed returns a deed that can be done at a desk more often than not; the
// wire becomes full now and then.
func someDeed(random *rand.Rand, m *model) impl.Deed {
	kinds := []int64{1, 2, 2, 3, 3, 3, 3, 4, 5, 6, 7}
	if len(m.codes)/16%2 == 0 {
		kinds = []int64{1, 1, 1, 1, 2, 2, 4, 4, 3, 6, 7}
	}
	d := impl.Deed{Kind: kinds[random.IntN(len(kinds))]}
	switch d.Kind {
	case impl.DdGive:
		d.A, d.B = random.Int64N(4), random.Int64N(m.tasks()+2)
	case impl.DdWork:
		d.A = random.Int64N(4)
	case impl.DdDeliver, impl.DdCopy, impl.DdDrop:
		d.A = random.Int64N(int64(len(m.wire)) + 1)
	}
	if d.Kind <= impl.DdWork && random.IntN(8) > 0 {
		d.A %= m.workers
	}
	return d
}

// someDeeds returns n deeds at a desk, and does them.
func someDeeds(random *rand.Rand, m *model, n int) []impl.Deed {
	var list []impl.Deed
	for range n {
		d := someDeed(random, m)
		list = append(list, d)
		m.do(d)
	}
	return list
}

// someDeskCase returns a valid case.
func someDeskCase(t *testing.T, random *rand.Rand) impl.Case {
	t.Helper()
	for {
		s, c := someCase(t, random, someFractionsOf(random)[0])
		made := caseOf(s, c, 1+random.Int64N(3))
		if _, valid := wantValues(made); valid {
			return made
		}
	}
}

// deskCases returns valid cases of several kinds: that of the example with a
// bound that is proved and with one that is not, without blocks, with blocks
// that are not positive, without graphs, without both, and with as many tasks as
// there can be.
func deskCases() []impl.Case {
	s, none := mantel("1/2"), impl.Statement{Forbidden: []impl.Graph{{}}, Bound: fr("1")}
	wrongs := certificateOf(3, blockOn(pair, "1 0;0 1"), blockOn(pair, wrong), blockOn(pair, "0"), blockOn(pair, "-1"))
	many := certificateOf(5, slices.Repeat(certified().Blocks, 6)...)
	return []impl.Case{
		mantelCase("1/2", 1), mantelCase("1/2", 2), mantelCase("1/2", 3), mantelCase("1/3", 2), caseOf(s, certificateOf(3), 2), caseOf(s, certificateOf(2), 1), caseOf(s, wrongs, 3),
		caseOf(none, certificateOf(3, wrongs.Blocks...), 2), caseOf(none, certified(), 3), caseOf(none, certificateOf(0), 1), caseOf(impl.Statement{Target: edgeSum(), Bound: fr("9/2")}, many, 3), caseOf(impl.Statement{Target: edgeSum(), Bound: fr("-1")}, many, 1),
	}
}

// sameDesks compares desks, nil and empty slices being alike.
func sameDesks(d, e impl.Desk) bool {
	return slices.Equal(d.Results, e.Results) && slices.Equal(d.Saved, e.Saved) && slices.Equal(d.Benches, e.Benches) && slices.Equal(d.Wire, e.Wire)
}

func noDesk(d impl.Desk) bool { return sameDesks(d, impl.Desk{}) }

// checkDeeds holds all functions of deeds against what a desk is after them.
func checkDeeds(t *testing.T, c impl.Case, list []impl.Deed, m *model) {
	t.Helper()
	what := fmt.Sprint(c, list)
	done, first := int64(0), slices.IndexFunc(m.codes, func(code int64) bool { return code != impl.OK })
	for _, code := range m.codes {
		if code == impl.OK {
			done++
		}
	}
	got, count, code := impl.DeskAfter(c, list)
	if want := m.desk(); code != impl.OK || count != done || !sameDesks(got, want) {
		t.Fatalf("DeskAfter %s: %v, %d done, code %d, want %v, %d done", what, got, count, code, want, done)
	}
	at, refused, code := impl.RefusedDeed(c, list)
	if first < 0 && (at != 0 || refused != 0 || code != impl.ErrNotFound) || first >= 0 && (at != int64(first) || refused != m.codes[first] || code != impl.OK) {
		t.Fatalf("RefusedDeed %s: %d at %d, code %d, want that at %d of %v", what, refused, at, code, first, m.codes)
	}
	verdict, fault, index, code := impl.VerdictAfter(c, list)
	if want := m.verdict(); [3]int64{verdict, fault, index} != want || code != impl.OK {
		t.Fatalf("VerdictAfter %s: %d, %d, %d, code %d, want %v", what, verdict, fault, index, code, want)
	}
	plan, wantCode := m.plan(), int64(impl.OK)
	if len(plan)+len(list) > 300 {
		plan, wantCode = nil, impl.ErrLimit
	}
	planned, code := impl.FinishDeeds(c, list)
	if code != wantCode || !slices.Equal(planned, plan) {
		t.Fatalf("FinishDeeds %s: %v, code %d, want %v, code %d", what, planned, code, plan, wantCode)
	}
}
