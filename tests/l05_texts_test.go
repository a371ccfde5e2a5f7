package tests

import (
	"fmt"
	"strings"
	"testing"

	"loop.example/g01169/impl"
)

// Promise 9, its second half: sums are read from their texts.

// textOf writes a sum as the document tells, with the texts of its parts.
func textOf(a impl.FlagSum) string {
	lines := []string{fmt.Sprint("sum ", a.Size, " ", impl.GraphText(a.Type))}
	for _, term := range a.Terms {
		lines = append(lines, impl.FractionText(term.By)+" "+impl.GraphText(term.Flag.Graph))
	}
	return strings.Join(lines, "\n") + "\n"
}

func TestTextsOfSums(t *testing.T) {
	random := seeded(41)
	for _, k := range everyKind() {
		for round := range 12 {
			a := someSum(random, k, someFractionsOf(random)[round%3])
			if round == 11 {
				a = inOrder(k.typ, k.size, "")
			}
			text := impl.SumText(a)
			if want := textOf(a); text != want {
				t.Errorf("SumText %v is %q, want %q", a, text, want)
			}
			again, code := impl.ReadSum(text)
			checkSum(t, "ReadSum "+text, again, code, a, impl.OK)
		}
	}
	for _, bad := range badSums() {
		if text := impl.SumText(bad); text != "" {
			t.Errorf("SumText %v is %q, want none", bad, text)
		}
	}
}

func TestTextsOfSumsThatAreWrittenOut(t *testing.T) {
	for text, a := range map[string]impl.FlagSum{
		"sum 0 graph 0\n":                {},
		"sum 0 graph 0\n-1/2 graph 0\n":  inOrder(impl.Graph{}, 0, "-1/2"),
		"sum 2 graph 1\n1 graph 2 0-1\n": inOrder(impl.Graph{N: 1}, 2, "0 1"),
		"sum 5 graph 3 0-1\n":            {Type: impl.Graph{N: 3, Edges: 1}, Size: 5},
		"sum 3 graph 2 0-1\n1000000000 graph 3 0-1\n2 graph 3 0-1 0-2 1-2\n": inOrder(impl.Graph{N: 2, Edges: 1}, 3, "1000000000 0 0 2"),
		"sum 3 graph 0\n-1 graph 3\n1/3 graph 3 0-1 0-2\n":                   inOrder(impl.Graph{}, 3, "-1 0 1/3"),
	} {
		if got := impl.SumText(a); got != text {
			t.Errorf("SumText %v is %q, want %q", a, got, text)
		}
		got, code := impl.ReadSum(text)
		checkSum(t, "ReadSum "+text, got, code, a, impl.OK)
	}
}

// A blank, a sign, a zero or a line too many or too few; flags that are not
// least, out of order, twice, of another type or another size; fractions that
// are 0 or not in lowest terms.
func TestTextsThatAreNearlySums(t *testing.T) {
	head, first, second := "sum 3 graph 1\n", "1/2 graph 3 0-1\n", "-2 graph 3 1-2\n"
	if _, code := impl.ReadSum(head + first + second); code != impl.OK {
		t.Errorf("ReadSum of the text itself: code %d", code)
	}
	for _, text := range []string{
		"", "\n", " ", "sum", "sum ", "sum\n", "sum \n", "sum 3", "sum 3\n", "sum 3 \n", "sum 3 graph\n", "sum 3 graph \n", "sum 3 graph 1", "sum graph 1\n", "3 graph 1\n", "graph 1\n", "sum  graph 1\n",
		"sum  3 graph 1\n", " sum 3 graph 1\n", "sum 3  graph 1\n", "sum 3 graph  1\n", "sum 3 graph 1 \n", "sum 3 graph 1\r\n", "sum\t3 graph 1\n", "sum3 graph 1\n", "Sum 3 graph 1\n", "sums 3 graph 1\n", "flag 1 graph 3\n",
		"sum 03 graph 1\n", "sum +3 graph 1\n", "sum -3 graph 1\n", "sum -0 graph 0\n", "sum 3.0 graph 1\n", "sum x graph 1\n", "sum 0 graph 1\n", "sum 6 graph 1\n", "sum 1 graph 2\n", "sum 4 graph 4\n", "sum 5 graph 4\n", "sum 5 graph 5\n",
		"sum 9223372036854775807 graph 1\n", "sum 9223372036854775808 graph 1\n", "sum -9223372036854775808 graph 1\n", "sum 4294967299 graph 1\n", "sum 3 graph 01\n", "sum 3 graph 2 1-0\n", "sum 3 graph 2 0-1 0-1\n", "sum 3 flag 1 graph 1\n",
		first, first + second, first + head, head + head, "\n" + head, head + "\n", head + "\n" + first, head + first + "\n", head + first + "\n" + second, head + " " + first, head + strings.TrimSuffix(first, "\n"), head + first + strings.TrimSuffix(second, "\n"), head + first + " ",
		head + second + first, head + first + first, head + first + second + second, head + first + "1/2 graph 3 0-2\n", head + "1/2 graph 3 0-2\n", head + "1/2 graph 3 0-2 1-2\n", head + "1/2 graph 2 0-1\n", head + "1/2 graph 4 0-1\n", "sum 3 graph 2\n1/2 graph 3 0-1\n", "sum 3 graph 2 0-1\n1/2 graph 3 0-2\n",
		head + "0 graph 3 0-1\n", head + "2/4 graph 3 0-1\n", head + "1/1 graph 3 0-1\n", head + "+1 graph 3 0-1\n", head + "01 graph 3 0-1\n", head + "-0 graph 3 0-1\n", head + "1/-2 graph 3 0-1\n", head + "1/0 graph 3 0-1\n", head + "1000000001 graph 3 0-1\n", head + "1/1000000001 graph 3 0-1\n", head + "0.5 graph 3 0-1\n", head + "1 /2 graph 3 0-1\n",
		head + "graph 3 0-1\n", head + "1/2\n", head + "1/2 \n", head + "1/2  graph 3 0-1\n", head + " 1/2 graph 3 0-1\n", head + "1/2 graph 3 0-1 \n", head + "1/2 graph 3 0-1\r\n", head + "1/2 graph 3 1-0\n", head + "1/2 graph 03 0-1\n", head + "1/2 graph 3 1-2 0-1\n", head + "1/2 flag 1 graph 3 0-1\n", head + "1/2\tgraph 3 0-1\n", head + "1/2 0-1\n", head + "graph 3 0-1 1/2\n",
		head + "1/2 graph 3 0-1 1/2 graph 3 1-2\n", strings.ReplaceAll(head+first, "\n", "\n\n"), strings.ReplaceAll(head+first, "\n", " "), textOf(ones(kind{impl.Graph{N: 1}, 5}, 65)), textOf(ones(kind{impl.Graph{N: 1}, 5}, 90)),
	} {
		got, code := impl.ReadSum(text)
		checkRefusedSum(t, got, code, impl.ErrSyntax, "ReadSum ", text)
	}
}

// Each text is changed by one byte, or by one line: what is read then has just
// that text.
func TestTextsOfSumsWithOneOtherByteOrLine(t *testing.T) {
	for _, text := range []string{"sum 0 graph 0\n7 graph 0\n", "sum 3 graph 2 0-1\n-11/2 graph 3 0-1\n2 graph 3 0-1 0-2 1-2\n", textOf(inOrder(impl.Graph{N: 1}, 3, "1 2 -3 1/4 10/11"))} {
		for at := range len(text) {
			for b := range 128 {
				checkSumRead(t, text[:at]+string([]byte{byte(b)})+text[at+1:])
				checkSumRead(t, text[:at]+string([]byte{byte(b)})+text[at:])
			}
			checkSumRead(t, text[:at]+text[at+1:])
			checkSumRead(t, text[:at])
		}
		lines := strings.SplitAfter(text, "\n")
		for i := range lines {
			for j := range lines {
				checkSumRead(t, strings.Join(lines[:i], "")+lines[j]+strings.Join(lines[i:], ""))
				checkSumRead(t, strings.Join(lines[:i], "")+lines[j]+strings.Join(lines[i+1:], ""))
			}
		}
	}
}

func checkSumRead(t *testing.T, text string) {
	t.Helper()
	a, code := impl.ReadSum(text)
	if code == impl.OK && (textOf(a) != text || !impl.ValidSum(a)) || code != impl.OK && (code != impl.ErrSyntax || !noSum(a)) {
		t.Fatalf("ReadSum %q: %v, code %d", text, a, code)
	}
}
