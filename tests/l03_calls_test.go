package tests

import (
	"fmt"
	"slices"
	"strings"
	"testing"

	"loop.example/g01169/impl"
)

// Promise 1, for chapter 3: every function returns for all arguments, modifies
// no argument, and returns equal results for equal arguments.

// calls3 calls every function of chapter 3, and returns all results.
func calls3(f, g impl.Flag, n int64, list []int64, flags []impl.Flag, forbidden []impl.Graph, text string) []any {
	var out []any
	add := func(results ...any) { out = append(out, results...) }
	add(impl.ValidFlag(f), impl.FlagText(f))
	typ, code := impl.TypeOf(f)
	add(typ, code)
	for _, call := range []func() (impl.Flag, int64){
		func() (impl.Flag, int64) { return impl.FlagOf(f.Graph, list) },
		func() (impl.Flag, int64) { return impl.PlainFlag(f.Graph) },
		func() (impl.Flag, int64) { return impl.LeastFlag(f) },
		func() (impl.Flag, int64) { return impl.TurnLabels(f, list) },
		func() (impl.Flag, int64) { return impl.ForgetLabels(f, n) },
		func() (impl.Flag, int64) { return impl.PartOfFlag(f, list) },
		func() (impl.Flag, int64) { return impl.ReadFlag(text) },
	} {
		flag, code := call()
		add(flag, code)
	}
	for _, call := range []func() (int64, int64){
		func() (int64, int64) { return impl.SizeOf(f) },
		func() (int64, int64) { return impl.CountSelfFlag(f) },
		func() (int64, int64) { return impl.IndexOfFlag(f, flags) },
		func() (int64, int64) { return impl.CountLabelings(f) },
	} {
		number, code := call()
		add(number, code)
	}
	alike, code := impl.AreAlikeFlags(f, g)
	add(alike, code)
	types, code := impl.AllTypes(n, forbidden)
	add(types, code)
	all, code := impl.AllFlags(g.Graph, n, forbidden)
	add(all, code)
	more, code := impl.ExtensionsOf(f, forbidden)
	add(more, code)
	return out
}

func TestFlagCallsModifyNothingAndRepeat(t *testing.T) {
	some := append(badFlags()[:16], impl.Flag{}, flag(t, 1, "graph 1"), flag(t, 1, "graph 3 0-2"), flag(t, 2, "graph 2 0-1"), flag(t, 3, "graph 3 0-1"), flag(t, 2, "graph 5 0-1 0-2 3-4"), flag(t, 3, "graph 5 0-3 1-4"), flag(t, 0, "graph 4 2-3"))
	lists := [][]int64{nil, {0}, {1, 0}, {2, 0, 1}, {4, 3}, {3, 2}, {4}, {0, 0}, {-1}, {0, 1, 2, 3}}
	forbidden := [][]impl.Graph{nil, {{N: 3, Edges: 7}}, {{N: 3, Edges: 4}, {N: 4, Edges: 63}}, times(impl.Graph{N: 4, Edges: 63}, 7), {{N: -1}}}
	texts := []string{"", "flag 1 graph 3 1-2 0-1", "flag 1 graph 3 0-1 1-2", "flag 2 graph 1"}
	for i, f := range some {
		for n := int64(-1); n < 10; n++ {
			at := i + int(n) + 1
			list, wholeList := withRoom(lists[at%len(lists)], 77)
			flags, wholeFlags := withRoom(some[16+at%8:], impl.Flag{Labels: 7})
			without, wholeWithout := withRoom(forbidden[at%len(forbidden)], impl.Graph{N: 7, Edges: 7})
			g, text := some[at%len(some)], texts[at%len(texts)]
			before := fmt.Sprint(wholeList, wholeFlags, wholeWithout)
			first := fmt.Sprint(calls3(f, g, n, list, flags, without, text))
			second := fmt.Sprint(calls3(f, g, n, list, flags, without, text))
			if after := fmt.Sprint(wholeList, wholeFlags, wholeWithout); before != after {
				t.Fatalf("arguments %s became %s", before, after)
			}
			if first != second {
				t.Fatalf("two results for %v: %s and %s", f, first, second)
			}
		}
	}
}

func TestFlagCallsTakeNilAndEmptyAlike(t *testing.T) {
	for _, f := range []impl.Flag{{}, flag(t, 0, "graph 3 0-2"), flag(t, 2, "graph 4 1-3")} {
		first := fmt.Sprint(calls3(f, f, 2, nil, nil, nil, ""))
		second := fmt.Sprint(calls3(f, f, 2, []int64{}, []impl.Flag{}, []impl.Graph{}, ""))
		if first != second {
			t.Errorf("%v: %s with nil, and %s with empty slices", f, first, second)
		}
	}
}

// Results are overwritten, to the end of their capacity: neither arguments nor
// later results change by it.
func TestFlagResultsAreNewMemory(t *testing.T) {
	dot, none := impl.Graph{N: 1}, []impl.Graph{{N: 4, Edges: 63}}
	results := func() ([]impl.Graph, []impl.Flag, []impl.Flag) {
		types, _ := impl.AllTypes(3, none)
		flags, _ := impl.AllFlags(dot, 4, none)
		more, _ := impl.ExtensionsOf(impl.Flag{Labels: 1, Graph: dot}, none)
		return types, flags, more
	}
	types, flags, more := results()
	before := fmt.Sprint(results()) + fmt.Sprint(none)
	overwrite(types, impl.Graph{N: 9})
	overwrite(flags, impl.Flag{Labels: 9})
	overwrite(more, impl.Flag{Labels: 8})
	if after := fmt.Sprint(results()) + fmt.Sprint(none); before != after {
		t.Errorf("results %s became %s", before, after)
	}
}

func TestFlagCallsOfSeveralGoroutines(t *testing.T) {
	call := func() string {
		f, none := impl.Flag{Labels: 2, Graph: impl.Graph{N: 4, Edges: 0b101100}}, []impl.Graph{{N: 3, Edges: 7}}
		return fmt.Sprint(calls3(f, f, 2, []int64{1, 0}, []impl.Flag{{}, f}, none, "flag 1 graph 2 0-1"), calls3(impl.Flag{Labels: 1, Graph: impl.Graph{N: 1}}, f, 3, []int64{0}, []impl.Flag{f}, none, ""))
	}
	checkGoroutines(t, call)
}

// The greatest arguments for which every function has to return.
func TestFlagCallsOfGreatArguments(t *testing.T) {
	const many = 1000000
	f := flag(t, 3, "graph 5 0-1 1-2 0-4")
	list := upTo(many)
	for name, call := range map[string]func(list []int64) (impl.Flag, int64){
		"FlagOf":     func(list []int64) (impl.Flag, int64) { return impl.FlagOf(f.Graph, list) },
		"TurnLabels": func(list []int64) (impl.Flag, int64) { return impl.TurnLabels(f, list) },
		"PartOfFlag": func(list []int64) (impl.Flag, int64) { return impl.PartOfFlag(f, list) },
	} {
		for _, long := range [][]int64{list, slices.Repeat([]int64{4}, many), make([]int64, many), list[3:]} {
			got, code := call(long)
			checkFlag(t, name+" by many", got, code, impl.Flag{}, impl.ErrRange)
		}
	}
	// Flags that are not least, of the greatest size and without labels.
	flags := slices.Repeat([]impl.Flag{flag(t, 0, "graph 5 2-3 3-4")}, many)
	flags[many-1] = flag(t, 0, "graph 5 3-4")
	if got, code := impl.IndexOfFlag(flag(t, 0, "graph 5 0-1"), flags); code != impl.OK || got != many-1 {
		t.Errorf("IndexOfFlag of the last one of many: %d, code %d", got, code)
	}
	flags[many-1].Labels = 4
	if got, code := impl.IndexOfFlag(flags[0], flags); code != impl.ErrInvalid || got != 0 {
		t.Errorf("IndexOfFlag in many, the last one not valid: %d, code %d", got, code)
	}
	forbidden := times(impl.Graph{N: 5, Edges: 1023}, many)
	for _, want := range []int64{impl.ErrLimit, impl.ErrInvalid} {
		types, one := impl.AllTypes(3, forbidden)
		all, two := impl.AllFlags(impl.Graph{N: 1}, 4, forbidden)
		more, three := impl.ExtensionsOf(impl.Flag{}, forbidden)
		if one != want || two != want || three != want || len(types)+len(all)+len(more) > 0 {
			t.Errorf("lists of flags without many: %d, %d and %d, codes %d %d %d, want %d", len(types), len(all), len(more), one, two, three, want)
		}
		forbidden[many-1].Edges = 1024
	}
	for _, text := range []string{
		strings.Repeat(" ", many), strings.Repeat("flag ", many/5), "flag 1 graph 3" + strings.Repeat(" 0-1", many/4), "flag " + strings.Repeat("0", many) + "1 graph 1",
		"flag 1 " + strings.Repeat("graph 3 ", many/8), "flag " + strings.Repeat("1", many) + " graph 3", "flag 1" + strings.Repeat(" ", many) + "graph 3",
	} {
		got, code := impl.ReadFlag(text)
		checkFlag(t, fmt.Sprintf("ReadFlag of %d bytes", len(text)), got, code, impl.Flag{}, impl.ErrSyntax)
	}
}
