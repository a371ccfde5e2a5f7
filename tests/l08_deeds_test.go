package tests

import (
	"fmt"
	"slices"
	"strings"
	"testing"

	"loop.example/g01169/impl"
)

// Promise 16, its first half: deeds are read from their texts.

// numbersOf has how many numbers the texts of the kinds have.
var numbersOf = []int64{0, 2, 1, 1, 1, 1, 0, 0}

// isDeed tells whether a deed has to be valid.
func isDeed(d impl.Deed) bool {
	if d.Kind < 1 || d.Kind > 7 || d.A < 0 || d.A > 999 || d.B < 0 || d.B > 999 {
		return false
	}
	return (d.A == 0 || numbersOf[d.Kind] >= 1) && (d.B == 0 || numbersOf[d.Kind] == 2)
}

// checkDeed holds ValidDeed and DeedText of a deed against what is wanted, and
// reads its text again.
func checkDeed(t *testing.T, d impl.Deed) {
	t.Helper()
	want := ""
	if isDeed(d) {
		want = textOfDeed(d)
	}
	if got := impl.ValidDeed(d); got != isDeed(d) {
		t.Fatalf("ValidDeed %v: %t", d, got)
	}
	if got := impl.DeedText(d); got != want {
		t.Fatalf("DeedText %v: %q, want %q", d, got, want)
	}
	if isDeed(d) {
		if got, code := impl.ReadDeed(want); got != d || code != impl.OK {
			t.Fatalf("ReadDeed %q: %v, code %d, want %v", want, got, code, d)
		}
	}
}

// numbersAround has numbers on both sides of the limits of A and B.
var numbersAround = []int64{0, 1, 2, 9, 10, 99, 100, 998, 999, 1000, 1001, 9999, -1, -2, -999, 1 << 32, 1<<32 + 1, -1 << 63, 1<<63 - 1}

func TestDeeds(t *testing.T) {
	for _, kind := range []int64{-1 << 63, -7, -1, 0, 1, 2, 3, 4, 5, 6, 7, 8, 9, 1<<32 + 1, 1<<63 - 1} {
		for _, a := range numbersAround {
			for _, b := range numbersAround {
				checkDeed(t, impl.Deed{Kind: kind, A: a, B: b})
			}
		}
		for n := range int64(1100) {
			checkDeed(t, impl.Deed{Kind: kind, A: n})
			checkDeed(t, impl.Deed{Kind: kind, B: n})
			checkDeed(t, impl.Deed{Kind: kind, A: n, B: n})
		}
	}
}

func TestDeedsThatAreWrittenOut(t *testing.T) {
	for text, d := range map[string]impl.Deed{
		"give 0 0": {Kind: impl.DdGive}, "give 2 39": {Kind: impl.DdGive, A: 2, B: 39}, "give 39 2": {Kind: 1, A: 39, B: 2}, "give 999 999": {Kind: 1, A: 999, B: 999}, "give 0 10": {Kind: 1, B: 10},
		"work 0": {Kind: impl.DdWork}, "work 999": {Kind: 2, A: 999}, "deliver 0": {Kind: impl.DdDeliver}, "deliver 7": {Kind: 3, A: 7}, "copy 0": {Kind: impl.DdCopy}, "copy 12": {Kind: 4, A: 12}, "drop 0": {Kind: impl.DdDrop}, "drop 100": {Kind: 5, A: 100}, "save": {Kind: impl.DdSave}, "crash": {Kind: impl.DdCrash},
	} {
		checkDeed(t, d)
		if got := impl.DeedText(d); got != text {
			t.Errorf("DeedText %v: %q, want %q", d, got, text)
		}
		if got, code := impl.ReadDeed(text); got != d || code != impl.OK {
			t.Errorf("ReadDeed %q: %v, code %d, want %v", text, got, code, d)
		}
	}
}

// checkDeedRead fails unless a text is read as the deed that has just this text,
// or is refused; it reports whether it has been read.
func checkDeedRead(t *testing.T, text string) bool {
	t.Helper()
	d, code := impl.ReadDeed(text)
	if code == impl.OK && (!isDeed(d) || textOfDeed(d) != text) || code != impl.OK && (code != impl.ErrSyntax || d != impl.Deed{}) {
		t.Fatalf("ReadDeed %q: %v, code %d", text, d, code)
	}
	return code == impl.OK
}

func TestTextsOfDeedsWithOneOtherByteOrLine(t *testing.T) {
	read := 0
	for _, text := range []string{"give 0 1", "give 12 345", "work 2", "deliver 7", "copy 10", "drop 999", "save", "crash", "give 0 1\nsave\n"} {
		changed(text, func(text string) {
			if checkDeedRead(t, text) {
				read++
			}
		})
	}
	if read < 50 {
		t.Errorf("only %d of the texts are read", read)
	}
}

// Blanks, signs, zeros and words too many or too few.
func TestTextsThatAreNearlyDeeds(t *testing.T) {
	list := []string{"", " ", "\n", "0", "1", "0 0", "verdict", "result 0", "result", "what", "ok", "savecrash", "save crash", "give0 0", "give 00", "give 0  0", "give 0 0 0", "give 0 0 ", "give  0 0", " give 0 0", "give 0\t0", "give\t0 0", "give,0,0", "give 0-0", "give 0 0\n", "give 0 0\r\n", "give 0 0\x00", "giv 0 0", "gives 0 0", "GIVE 0 0", "Give 0 0", "give x 0", "give 0 x", "give 0x1 0", "give 1e2 0", "give 1_0 0", "give 0 1.0", "give ١ 0", "1 0 0", "give zero 0", "7", "6", "save 0 0", "crash 0", "crash ", " crash", "crashed", "crash\n", "Save", "saves", "sav", "save\n", "save ", " save", "save  "}
	for _, number := range []string{"", "-0", "+0", "00", "01", "-1", "+1", "1000", "0999", "00999", "999999999999999999999", "9223372036854775807", "9223372036854775808", "-9223372036854775808", "4294967296", "18446744073709551616", "0.", "0/1", "1/1", "a", "0b1", "0o7"} {
		list = append(list, "give "+number+" 0", "give 0 "+number, "give "+number+" "+number, "save "+number)
		for _, word := range []string{"work", "deliver", "copy", "drop"} {
			list = append(list, word, word+" "+number, word+" 0 "+number, word+" "+number+" 0", word+" 0 0", word+" 0 1", word+" 1 1", word+"0", word+" 0 ", " "+word+" 0", word+"  0", strings.ToUpper(word)+" 0", word+" 0\n", "un"+word+" 0")
		}
	}
	for _, text := range list {
		if checkDeedRead(t, text) {
			t.Errorf("ReadDeed %q is read", text)
		}
	}
	for _, text := range []string{"give 0 0", "give 999 0", "give 0 999", "work 0", "deliver 10", "copy 1", "drop 0", "save", "crash"} {
		if !checkDeedRead(t, text) {
			t.Errorf("ReadDeed %q is not read", text)
		}
	}
}

// badDeeds returns deeds that are not valid.
func badDeeds() []impl.Deed {
	list := []impl.Deed{{}, {Kind: 8}, {Kind: -1}, {Kind: 1<<63 - 1}, {Kind: -1 << 63}, {Kind: 0, A: 1}, {Kind: 8, A: 1, B: 1}}
	for kind := int64(1); kind <= 7; kind++ {
		for _, a := range numbersAround {
			for _, b := range []int64{0, 1, 999, 1000, -1} {
				if d := (impl.Deed{Kind: kind, A: a, B: b}); !isDeed(d) {
					list = append(list, d)
				}
			}
		}
	}
	return list
}

// Everything refuses a list with a deed that is not valid, wherever it is, and
// however long the list is.
func TestDeedsThatAreNotValidAreRefused(t *testing.T) {
	c := mantelCase("1/2", 2)
	for _, bad := range badDeeds() {
		checkRefusedDeeds(t, c, []impl.Deed{bad}, impl.ErrInvalid)
	}
	good := deeds("give 0 0; deliver 0; work 0; deliver 0; save; work 5")
	for i, bad := range []impl.Deed{{}, {Kind: 8}, {Kind: impl.DdSave, A: 1}, {Kind: impl.DdWork, B: 1}, {Kind: impl.DdGive, A: -1}, {Kind: impl.DdGive, B: 1000}, {Kind: impl.DdDrop, A: 1000}} {
		checkRefusedDeeds(t, c, slices.Insert(slices.Clone(good), i%6, bad), impl.ErrInvalid)
		checkRefusedDeeds(t, c, append(slices.Clone(good), bad), impl.ErrInvalid)
		for _, n := range []int{299, 300, 301} {
			checkRefusedDeeds(t, c, append(deeds(fmt.Sprint(n, " save")), bad), impl.ErrInvalid)
			checkRefusedDeeds(t, c, append([]impl.Deed{bad}, deeds(fmt.Sprint(n, " save"))...), impl.ErrInvalid)
		}
	}
}

// checkRefusedDeeds fails unless all functions of deeds return a code, and
// nothing else.
func checkRefusedDeeds(t *testing.T, c impl.Case, list []impl.Deed, want int64) {
	t.Helper()
	what := fmt.Sprint(c, " and ", len(list), " deeds that begin with ", list[:min(7, len(list))])
	d, done, code := impl.DeskAfter(c, list)
	isRefused(t, "DeskAfter "+what, noDesk(d) && done == 0, code, want)
	at, refused, code := impl.RefusedDeed(c, list)
	isRefused(t, "RefusedDeed "+what, at == 0 && refused == 0, code, want)
	verdict, fault, index, code := impl.VerdictAfter(c, list)
	isRefused(t, "VerdictAfter "+what, verdict == 0 && fault == 0 && index == 0, code, want)
	plan, code := impl.FinishDeeds(c, list)
	isRefused(t, "FinishDeeds "+what, len(plan) == 0, code, want)
}

// The case comes first, whatever the deeds are, and how many.
func TestCasesThatAreNotValidAreRefused(t *testing.T) {
	lists := [][]impl.Deed{nil, deeds("save"), deeds("give 0 0; deliver 0; work 0"), deeds("300 save"), deeds("301 save"), {{}}}
	for i, c := range badCases() {
		checkRefusedDeeds(t, c, lists[i%len(lists)], impl.ErrInvalid)
		checkRefusedDeeds(t, c, nil, impl.ErrInvalid)
	}
	for _, c := range []impl.Case{{}, mantelCase("1/2", 0), mantelCase("1/2", 4), tooLargeCases()[0], tooLargeCases()[9]} {
		for _, list := range lists {
			checkRefusedDeeds(t, c, list, impl.ErrInvalid)
		}
	}
}

func TestDeedsThatAreTooMany(t *testing.T) {
	for _, c := range deskCases() {
		for _, list := range [][]impl.Deed{deeds("301 save"), deeds("302 crash"), deeds("1000 work 9"), deeds("save; 300 give 0 0"), deeds("5000 drop 0")} {
			checkRefusedDeeds(t, c, list, impl.ErrRange)
		}
		for _, list := range [][]impl.Deed{deeds("300 save"), deeds("299 crash"), deeds("300 work 9")} {
			checkDeeds(t, c, list, modelOf(t, c).all(list))
		}
	}
}
