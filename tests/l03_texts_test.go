package tests

import (
	"testing"

	"loop.example/g01169/impl"
)

// Promise 6: flags are told apart by their texts, and are read from them.

func TestTextsOfFlags(t *testing.T) {
	texts := map[string]bool{}
	for _, f := range flagsUpTo(5) {
		text := impl.FlagText(f)
		if texts[text] {
			t.Errorf("%q is the text of two flags", text)
		}
		texts[text] = true
		again, code := impl.ReadFlag(text)
		checkFlag(t, "ReadFlag "+text, again, code, f, impl.OK)
	}
	for text, f := range map[string]impl.Flag{
		"flag 0 graph 0":             {},
		"flag 1 graph 1":             {Labels: 1, Graph: impl.Graph{N: 1}},
		"flag 0 graph 3 0-1 1-2":     {Graph: impl.Graph{N: 3, Edges: 5}},
		"flag 3 graph 3 0-1 1-2":     {Labels: 3, Graph: impl.Graph{N: 3, Edges: 5}},
		"flag 2 graph 5 0-1 3-4":     {Labels: 2, Graph: impl.Graph{N: 5, Edges: 513}},
		"flag 3 graph 4 0-2 1-2 2-3": {Labels: 3, Graph: impl.Graph{N: 4, Edges: 38}},
	} {
		if got := impl.FlagText(f); got != text {
			t.Errorf("FlagText %v is %q, want %q", f, got, text)
		}
	}
	for _, f := range badFlags() {
		if text := impl.FlagText(f); text != "" {
			t.Errorf("FlagText %v is %q, want none", f, text)
		}
	}
}

func TestTextsOfFlagsThatAreNearlyRight(t *testing.T) {
	for _, text := range []string{
		"", " ", "flag", "flag ", "flag 1", "flag 1 ", "flag 1 graph", "flag 1 graph ", "1 graph 2 0-1", "graph 2 0-1", "flag graph 2 0-1", "flag  graph 2 0-1",
		"flag 1 2 0-1", "flag  1 graph 2 0-1", " flag 1 graph 2 0-1", "flag 1  graph 2 0-1", "flag 1 graph  2 0-1", "flag 1 graph 2 0-1 ", "flag 1 graph 2 0-1\n", "\nflag 1 graph 2 0-1",
		"flag\t1 graph 2 0-1", "flag 1\tgraph 2 0-1", "flag 1graph 2 0-1", "flag1 graph 2 0-1", "Flag 1 graph 2 0-1", "flags 1 graph 2 0-1", "flag 1 Graph 2 0-1", "flag 1 graphs 2 0-1",
		"flag 01 graph 2 0-1", "flag +1 graph 2 0-1", "flag -0 graph 2 0-1", "flag -1 graph 2 0-1", "flag 1.0 graph 2 0-1", "flag 0x1 graph 2 0-1", "flag x graph 2 0-1", "flag 1_0 graph 5",
		"flag 3 graph 2 0-1", "flag 1 graph 0", "flag 2 graph 1", "flag 4 graph 4", "flag 4 graph 5 0-1", "flag 5 graph 5", "flag 9223372036854775807 graph 5", "flag 99999999999999999999 graph 5",
		"flag -9223372036854775808 graph 5", "flag 4294967297 graph 5", "flag 1 graph 2 1-0", "flag 1 graph 3 1-2 0-1", "flag 1 graph 2 0-1 0-1", "flag 1 graph 2 0-2", "flag 1 graph 02 0-1", "flag 1 graph 6",
		"flag 1 graph -1", "flag 1 graph 2 0-1 flag", "flag 1 flag 1 graph 2 0-1", "flag 1 graph 2 0-1\x00", "flag １ graph 2 0-1", "flag 1, graph 2 0-1", "flag 1 graph 2 01",
	} {
		got, code := impl.ReadFlag(text)
		checkFlag(t, "ReadFlag "+text, got, code, impl.Flag{}, impl.ErrSyntax)
	}
}

// Each text is changed by one byte: what is read then has just that text.
func TestTextsOfFlagsWithOneOtherByte(t *testing.T) {
	for _, text := range []string{"flag 0 graph 0", "flag 2 graph 3 0-1 1-2", "flag 3 graph 5 0-1 2-3 1-4"} {
		for at := range len(text) {
			for b := range 256 {
				checkFlagRead(t, text[:at]+string([]byte{byte(b)})+text[at+1:])
				checkFlagRead(t, text[:at]+string([]byte{byte(b)})+text[at:])
			}
			checkFlagRead(t, text[:at]+text[at+1:])
		}
	}
}

func checkFlagRead(t *testing.T, text string) {
	t.Helper()
	f, code := impl.ReadFlag(text)
	if code == impl.OK && impl.FlagText(f) != text || code != impl.OK && (code != impl.ErrSyntax || f != (impl.Flag{})) {
		t.Fatalf("ReadFlag %q: %v, code %d", text, f, code)
	}
}
