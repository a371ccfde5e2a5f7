package tests

import (
	"fmt"
	"slices"
	"strings"
	"testing"

	"loop.example/g01169/impl"
)

// Patterns are read from their texts, as promises 13 and 14 take them.

func checkPatternText(t *testing.T, p impl.Pattern) {
	t.Helper()
	text := impl.PatternText(p)
	if want := textOfPattern(p); text != want {
		t.Fatalf("PatternText %v is %q, want %q", p, text, want)
	}
	again, code := impl.ReadPattern(text)
	checkPattern(t, fmt.Sprintf("ReadPattern %q", text), again, code, p, impl.OK)
}

func TestTextsOfPatterns(t *testing.T) {
	random := seeded(99)
	for _, s := range shapesUpTo(4) {
		for _, total := range []int64{1, 6, 1000, 1000000000} {
			checkPatternText(t, s.with(someWeights(random, s.graph.N, total)))
		}
		p, _ := impl.EvenPattern(s.graph, s.loops)
		checkPatternText(t, p)
	}
	for _, p := range badPatterns() {
		if text := impl.PatternText(p); text != "" {
			t.Errorf("PatternText %v is %q", p, text)
		}
	}
}

func TestTextsOfPatternsThatAreWrittenOut(t *testing.T) {
	for text, p := range map[string]impl.Pattern{
		"pattern graph 1\nloops\nweights 1\n":                       pattern(t, "1", 0, "1"),
		"pattern graph 1\nloops 0\nweights 1\n":                     pattern(t, "1", 1, "1"),
		"pattern graph 2 0-1\nloops\nweights 1/2 1/2\n":             pattern(t, "2 0-1", 0, "1/2 1/2"),
		"pattern graph 2\nloops 1\nweights 0 1\n":                   pattern(t, "2", 2, "0 1"),
		"pattern graph 3 0-2 1-2\nloops 0 2\nweights 1/3 1/3 1/3\n": pattern(t, "3 0-2 1-2", 5, "1/3 1/3 1/3"),
		"pattern graph 4 0-1 0-2 1-2 0-3 1-3 2-3\nloops 0 1 2 3\nweights 1/1000000000 999999997/1000000000 1/500000000 0\n": pattern(t, "4 0-1 0-2 1-2 0-3 1-3 2-3", 15, "1/1000000000 999999997/1000000000 1/500000000 0"),
	} {
		checkPatternText(t, p)
		if got := impl.PatternText(p); got != text {
			t.Errorf("PatternText %v is %q, want %q", p, got, text)
		}
	}
}

// checkPatternRead fails unless a text is read as what has just this text, or is
// refused; it reports whether it has been read.
func checkPatternRead(t *testing.T, text string) bool {
	t.Helper()
	p, code := impl.ReadPattern(text)
	if code == impl.OK && (textOfPattern(p) != text || !impl.ValidPattern(p)) || code != impl.OK && (code != impl.ErrSyntax || !noPattern(p)) {
		t.Fatalf("ReadPattern %q: %v, code %d", text, p, code)
	}
	return code == impl.OK
}

func TestTextsOfPatternsWithOneOtherByteOrLine(t *testing.T) {
	read := 0
	for _, text := range []string{"pattern graph 1\nloops\nweights 1\n", "pattern graph 2 0-1\nloops 1\nweights 1/2 1/2\n", "pattern graph 3 0-1 1-2\nloops 0 2\nweights 1/3 0 2/3\n", "pattern graph 4 0-1 0-3\nloops 1 2 3\nweights 1/4 1/4 1/4 1/4\n"} {
		if !checkPatternRead(t, text) {
			t.Errorf("ReadPattern %q is not read", text)
		}
		changed(text, func(text string) {
			if checkPatternRead(t, text) {
				read++
			}
		})
	}
	if read < 20 {
		t.Errorf("only %d of the texts are read", read)
	}
}

// A blank, a sign, a zero or a line too many or too few, and loops that do not
// ascend.
func TestTextsThatAreNearlyPatterns(t *testing.T) {
	head, loops, weights := "pattern graph 3 0-1 1-2\n", "loops 0 2\n", "weights 1/3 0 2/3\n"
	if !checkPatternRead(t, head+loops+weights) {
		t.Error("the text itself is not read")
	}
	var list []string
	for _, wrong := range []string{"", "\n", "pattern\n", "pattern \n", "pattern graph\n", "graph 3 0-1 1-2\n", "3 0-1 1-2\n", "pattern 3 0-1 1-2\n", " " + head, "\n" + head, head + "\n", head + head, "pattern  graph 3 0-1 1-2\n", "pattern graph  3 0-1 1-2\n", "pattern graph 3  0-1 1-2\n", "pattern graph 3 0-1 1-2 \n", "pattern graph 3 0-1 1-2\r\n", "pattern\tgraph 3 0-1 1-2\n", "Pattern graph 3 0-1 1-2\n", "patterns graph 3 0-1 1-2\n", "patterngraph 3 0-1 1-2\n", "pattern graph 3 0-1 1-2", "pattern graph 3 1-2 0-1\n", "pattern graph 3 1-0 1-2\n", "pattern graph 03 0-1 1-2\n", "pattern graph +3 0-1 1-2\n", "pattern graph 3 00-1 1-2\n", "pattern graph 3 0-1 0-1\n", "pattern graph 3 0-3\n", "pattern graph 3 -1\n", "pattern graph 2 0-1\n", "pattern graph 4 0-1 1-2\n", "pattern graph 0\n", "pattern graph 5\n", "pattern graph 6\n", "pattern graph -3\n", "without graph 3 0-1 1-2\n", "pattern pattern graph 3 0-1 1-2\n"} {
		list = append(list, wrong+loops+weights, wrong, wrong+weights)
	}
	for _, wrong := range []string{"", "\n", " \n", "loops 0 2", "loops 2 0\n", "loops 0 0\n", "loops 2 2\n", "loops 0 2 2\n", "loops 0 2 1\n", "loops 1 0 2\n", "loops 0  2\n", "loops  0 2\n", "loops 0 2 \n", "loops \n", " loops 0 2\n", "loops 00 2\n", "loops 0 02\n", "loops +0 2\n", "loops -0 2\n", "loops 0 -2\n", "loops -1\n", "loops 3\n", "loops 0 3\n", "loops 0 2 3\n", "loops 0 5\n", "loops 31\n", "loops 32\n", "loops 33\n", "loops 0 34\n", "loops 64\n", "loops 0 66\n", "loops 255\n", "loops 256\n", "loops 0 258\n", "loops 4294967296\n", "loops 0 4294967298\n", "loops 18446744073709551616\n", "loops 0 18446744073709551618\n", "loops -9223372036854775808\n", "loops x\n", "loops 0,2\n", "loops 0-2\n", "loops 0.0\n", "loops 0/1\n", "loops 0x1\n", "loops 0_0\n", "loops 1_0\n", "loops\t0 2\n", "loops 0\t2\n", "loops 0 2\r\n", "loops0 2\n", "loop 0 2\n", "Loops 0 2\n", "loops loops 0 2\n", "loops: 0 2\n", "0 2\n", " 0 2\n", "x 0 2\n", "weights 0 2\n", loops + "\n", "\n" + loops, loops + loops, "loops 0\nloops 2\n", "loops 0\n2\n", "loops\n0 2\n", head} {
		list = append(list, head+wrong+weights, head+wrong)
	}
	for _, wrong := range []string{"", "\n", "weights\n", "weights \n", "weights 1/3 0 2/3", "weights 1/3 0 2/3 ", "weights 1/3 0 2/3 \n", "weights  1/3 0 2/3\n", "weights 1/3  0 2/3\n", " weights 1/3 0 2/3\n", "weights 1/3 0\n", "weights 1/3 2/3\n", "weights 1/3 0 2/3 0\n", "weights 1/3 0 1/3\n", "weights 1/3 1/3 2/3\n", "weights 2/3 -1/3 2/3\n", "weights 4/3 0 -1/3\n", "weights 1/3 -0 2/3\n", "weights 1/3 +0 2/3\n", "weights +1/3 0 2/3\n", "weights 01/3 0 2/3\n", "weights 1/03 0 2/3\n", "weights 1/3 00 2/3\n", "weights 1/3 0/1 2/3\n", "weights 1/3 0 4/6\n", "weights 1/3 0 2/-3\n", "weights 1/3 0 -2/-3\n", "weights 1/3 0 2/0\n", "weights 1/3 0 0.5\n", "weights 1/3 0 x\n", "weights 1/3,0,2/3\n", "weights 1/3\t0 2/3\n", "weights 1/3 0 2/3\r\n", "Weights 1/3 0 2/3\n", "weight 1/3 0 2/3\n", "weights1/3 0 2/3\n", "1/3 0 2/3\n", "weights weights 1/3 0 2/3\n", "weights 1 0 0/2\n", "weights 1/2000000000 0 1999999999/2000000000\n", "weights 1/3\n0 2/3\n", "weights 1/3 0 2/3\n\n", "weights 1/3 0 2/3\n ", "\nweights 1/3 0 2/3\n", weights + weights, weights + loops, weights + head, weights + "weights\n", weights + "x", loops} {
		list = append(list, head+loops+wrong)
	}
	list = append(list, head+weights+loops, loops+head+weights, weights+loops+head, strings.ReplaceAll(head+loops+weights, "\n", " "), strings.ReplaceAll(head+loops+weights, "\n", "\n\n"), strings.ReplaceAll(head+loops+weights, "\n", "\r\n"), strings.ReplaceAll(head+loops+weights, "\n", "\n "))
	// These sums are too large, or are so in this order.
	list = append(list, "pattern graph 4\nloops\nweights "+tooWide+"\n", "pattern graph 2\nloops\nweights 1/65536 1/65537\n")
	for _, text := range list {
		if checkPatternRead(t, text) {
			t.Errorf("ReadPattern %q is read", text)
		}
	}
	if !checkPatternRead(t, "pattern graph 4\nloops\nweights "+wideSums+"\n") {
		t.Error("the same weights in another order are not read")
	}
}

// A text with MaxPatternText bytes is longer than that of any pattern, and one
// with one byte more is refused in the same way.
func TestTextsOfPatternsAtTheLimit(t *testing.T) {
	longest := pattern(t, "4 0-1 0-2 1-2 0-3 1-3 2-3", 15, "249999999/1000000000 249999999/1000000000 249999999/1000000000 250000003/1000000000")
	checkPatternText(t, longest)
	text := impl.PatternText(longest)
	if len(text) > impl.MaxPatternText {
		t.Errorf("%d bytes", len(text))
	}
	for _, with := range []string{" ", "\n", "0", "x", "\x00", " 0", "loops\n"} {
		for _, place := range []int{0, 8, strings.Index(text, "\n"), strings.Index(text, "\nweights"), len(text) - 1, len(text)} {
			for n := 398; n <= 402; n++ {
				more := strings.Repeat(with, 402)[:n-len(text)]
				if long := text[:place] + more + text[place:]; len(long) != n || checkPatternRead(t, long) {
					t.Errorf("ReadPattern of %d bytes %q", len(long), long)
				}
			}
		}
	}
	for _, line := range []string{"pattern graph 1\n", "loops\n", "weights 1\n", "pattern graph 1\nloops\nweights 1\n"} {
		for n := 20; n <= 30; n++ {
			if checkPatternRead(t, strings.Repeat(line, n)) {
				t.Errorf("ReadPattern of %d times %q", n, line)
			}
		}
	}
	if lists := slices.Repeat([]string{"0"}, 190); checkPatternRead(t, "pattern graph 1\nloops "+strings.Join(lists, " ")+"\nweights 1\n") {
		t.Error("many loops are read")
	}
}
