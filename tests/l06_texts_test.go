package tests

import (
	"slices"
	"strings"
	"testing"

	"loop.example/g01169/impl"
)

// Promise 12, its second half: statements and certificates are read from their
// texts.

func checkStatementText(t *testing.T, s impl.Statement) {
	t.Helper()
	text := impl.StatementText(s)
	if want := textOfStatement(s); text != want {
		t.Fatalf("StatementText %v is %q, want %q", s, text, want)
	}
	if again, code := impl.ReadStatement(text); code != impl.OK || !sameStatements(again, s) {
		t.Fatalf("ReadStatement %q: %v, code %d", text, again, code)
	}
}

func checkCertificateText(t *testing.T, c impl.Certificate) {
	t.Helper()
	text := impl.CertificateText(c)
	if want := textOfCertificate(c); text != want {
		t.Fatalf("CertificateText %v is %q, want %q", c, text, want)
	}
	if again, code := impl.ReadCertificate(text); code != impl.OK || !sameCertificates(again, c) {
		t.Fatalf("ReadCertificate %q: %v, code %d", text, again, code)
	}
}

func TestTextsOfStatementsAndCertificates(t *testing.T) {
	random := seeded(71)
	for round := range 600 {
		s, c := someCase(t, random, someFractionsOf(random)[round%3])
		checkStatementText(t, s)
		checkCertificateText(t, c)
		// A certificate has a text without a statement, in whatever size.
		c.Size = random.Int64N(6)
		checkCertificateText(t, c)
	}
	for _, k := range everyKind() {
		for size := range int64(6) {
			checkCertificateText(t, certificateOf(size, squareOn(random, k)))
		}
	}
	// The longest texts are shorter than the limit.
	long := fr("-999999998/999999999")
	s := impl.Statement{Forbidden: times(impl.Graph{N: 5, Edges: 1023}, 6), Target: ones(kind{impl.Graph{}, 5}, 34), Bound: long}
	for i := range s.Target.Terms {
		s.Target.Terms[i].By = long
	}
	checkStatementText(t, s)
	b := impl.Block{Flags: copiesOf(flag(t, 3, impl.GraphText(impl.Graph{N: 5, Edges: 1023})), 8), Matrix: symmetric(8, slices.Repeat([]impl.Fraction{long}, 36))}
	checkCertificateText(t, certificateOf(5, b, b, b, b, b, b))
}

func TestTextsOfWhatIsNotValid(t *testing.T) {
	for _, s := range badStatements() {
		if text := impl.StatementText(s); text != "" {
			t.Errorf("StatementText %v is %q", s, text)
		}
	}
	good := certified().Blocks[0]
	list := []impl.Certificate{certificateOf(-1), certificateOf(6), certificateOf(-1, good), certificateOf(6, good), certificateOf(1<<63 - 1), certificateOf(-1 << 63), certificateOf(1 << 32), certificateOf(3, slices.Repeat([]impl.Block{good}, 7)...)}
	for _, bad := range badBlocks() {
		list = append(list, certificateOf(3, bad), certificateOf(3, good, bad), certificateOf(3, bad, good))
	}
	for _, c := range list {
		if text := impl.CertificateText(c); text != "" {
			t.Errorf("CertificateText %v is %q", c, text)
		}
	}
}

func TestTextsThatAreWrittenOut(t *testing.T) {
	none := impl.Graph{}
	for text, s := range map[string]impl.Statement{
		"statement 1/2\nwithout graph 3 0-1 0-2 1-2\nsum 2 graph 0\n1 graph 2 0-1\n": mantel("1/2"),
		"statement 0\nsum 0 graph 0\n": {Bound: fr("0")},
		"statement -1000000000\nwithout graph 0\nwithout graph 2 0-1\nsum 5 graph 0\n":                  {Forbidden: []impl.Graph{{}, {N: 2, Edges: 1}}, Target: inOrder(none, 5, ""), Bound: fr("-1000000000")},
		"statement 7/1000000000\nsum 3 graph 0\n-1 graph 3\n1/3 graph 3 0-1 0-2\n":                      {Target: inOrder(none, 3, "-1 0 1/3"), Bound: fr("7/1000000000")},
		"statement 1\n" + strings.Repeat("without graph 4 1-2 0-3\n", 6) + "sum 1 graph 0\n2 graph 1\n": {Forbidden: times(graph(t, "4 1-2 0-3"), 6), Target: inOrder(none, 1, "2"), Bound: fr("1")},
	} {
		checkStatementText(t, s)
		if got := impl.StatementText(s); got != text {
			t.Errorf("StatementText %v is %q, want %q", s, got, text)
		}
	}
	edge := flagsOf(pair)[1]
	for text, c := range map[string]impl.Certificate{
		"certificate 3 1\nblock 2\nflag 1 graph 2\nflag 1 graph 2 0-1\n1/2 -1/2\n-1/2 1/2\n": certified(),
		"certificate 0 0\n": {},
		"certificate 5 0\n": certificateOf(5),
		"certificate 4 2\nblock 1\nflag 0 graph 0\n-3\nblock 1\nflag 3 graph 5 3-4\n0\n":                              certificateOf(4, blockOn(kind{none, 0}, "-3"), impl.Block{Flags: []impl.Flag{flag(t, 3, "graph 5 3-4")}, Matrix: mat("0")}),
		"certificate 0 1\nblock 3\nflag 1 graph 2 0-1\nflag 1 graph 2 0-1\nflag 1 graph 2 0-1\n1 2 3\n2 4 5\n3 5 6\n": certificateOf(0, impl.Block{Flags: copiesOf(edge, 3), Matrix: mat("1 2 3;2 4 5;3 5 6")}),
	} {
		checkCertificateText(t, c)
		if got := impl.CertificateText(c); got != text {
			t.Errorf("CertificateText %v is %q, want %q", c, got, text)
		}
	}
}

// checkStatementRead fails unless a text is read as what has just this text, or
// is refused; it reports whether it has been read.
func checkStatementRead(t *testing.T, text string) bool {
	t.Helper()
	s, code := impl.ReadStatement(text)
	if code == impl.OK && (textOfStatement(s) != text || !impl.ValidStatement(s)) || code != impl.OK && (code != impl.ErrSyntax || !noStatement(s)) {
		t.Fatalf("ReadStatement %q: %v, code %d", text, s, code)
	}
	return code == impl.OK
}

func checkCertificateRead(t *testing.T, text string) bool {
	t.Helper()
	c, code := impl.ReadCertificate(text)
	if code == impl.OK && (textOfCertificate(c) != text || impl.CertificateText(c) != text) || code != impl.OK && (code != impl.ErrSyntax || !noCertificate(c)) {
		t.Fatalf("ReadCertificate %q: %v, code %d", text, c, code)
	}
	return code == impl.OK
}

// changed calls check for all texts with one byte more, less or changed, and for
// all with one line put in the place of another, or in between.
func changed(text string, check func(text string)) {
	const bytes = "\x00\t\n\r !+,-./012369:bcfgkostuw\x7f\xff"
	for at := range len(text) {
		for i := range len(bytes) {
			check(text[:at] + bytes[i:i+1] + text[at+1:])
			check(text[:at] + bytes[i:i+1] + text[at:])
		}
		check(text[:at] + text[at+1:])
		check(text[:at])
	}
	lines := strings.SplitAfter(text, "\n")
	for i := range lines {
		for j := range lines {
			check(strings.Join(lines[:i], "") + lines[j] + strings.Join(lines[i:], ""))
			check(strings.Join(lines[:i], "") + lines[j] + strings.Join(lines[i+1:], ""))
		}
		for j := i + 1; j <= len(lines); j++ {
			check(strings.Join(lines[:i], "") + strings.Join(lines[j:], ""))
		}
	}
}

func TestTextsWithOneOtherByteOrLine(t *testing.T) {
	read := 0
	counted := func(check func(t *testing.T, text string) bool) func(text string) {
		return func(text string) {
			if check(t, text) {
				read++
			}
		}
	}
	for _, text := range []string{"statement 1/2\nwithout graph 3 0-1 0-2 1-2\nsum 2 graph 0\n1 graph 2 0-1\n", "statement -3\nwithout graph 2\nwithout graph 1\nsum 3 graph 0\n1/2 graph 3\n7 graph 3 0-1\n"} {
		changed(text, counted(checkStatementRead))
	}
	for _, text := range []string{"certificate 3 1\nblock 2\nflag 1 graph 2\nflag 1 graph 2 0-1\n1/2 -1/2\n-1/2 1/2\n", "certificate 2 2\nblock 1\nflag 0 graph 0\n-3\nblock 1\nflag 2 graph 3 0-2\n10\n", "certificate 4 0\n"} {
		changed(text, counted(checkCertificateRead))
	}
	if read < 100 {
		t.Errorf("only %d of the texts are read", read)
	}
}

// A blank, a sign, a zero or a line too many or too few.
func TestTextsThatAreNearlyStatements(t *testing.T) {
	head, without, target := "statement 1/2\n", "without graph 3 0-1 0-2 1-2\n", "sum 2 graph 0\n1 graph 2 0-1\n"
	if !checkStatementRead(t, head+without+target) || !checkStatementRead(t, head+strings.Repeat(without, 6)+target) {
		t.Error("the text itself is not read")
	}
	for _, text := range []string{
		"", "\n", " ", "statement", "statement\n", "statement \n", "statement 1/2", head, head + without, head + without + strings.TrimSuffix(target, "\n"), head + "sum 2 graph 0", without + target, target, target + head, without + head + target, head + target + without, head + strings.Repeat(without, 7) + target,
		" " + head + target, head + target + "\n", "\n" + head + target, head + "\n" + target, head + without + "\n" + target, head + without + target + " ", head + target + target, head + head + target, head + " " + target, head + " " + without + target, head + target + "1 graph 2 0-1\n", head + target + "2 graph 2\n",
		"statement  1/2\n" + target, "statement 1/2 \n" + target, "statement 1/2\r\n" + target, "statement\t1/2\n" + target, "Statement 1/2\n" + target, "statements 1/2\n" + target, "statement1/2\n" + target, "statement 1 /2\n" + target, "statement 1/2 " + target, "1/2\n" + target, "statement 1/2\n1/2\n" + target,
		"statement +1/2\n" + target, "statement -0\n" + target, "statement 01/2\n" + target, "statement 2/4\n" + target, "statement 1/1\n" + target, "statement 1/-2\n" + target, "statement 1/0\n" + target, "statement 0.5\n" + target, "statement 1000000001\n" + target, "statement 1/1000000001\n" + target, "statement x\n" + target, "statement 9223372036854775808\n" + target,
		head + "without\n" + target, head + "without \n" + target, head + "without graph\n" + target, head + "without 3 0-1\n" + target, head + "without  graph 2\n" + target, head + "without graph 2 \n" + target, head + "withoutgraph 2\n" + target, head + "Without graph 2\n" + target, head + "graph 2\n" + target, head + "without graph 02\n" + target, head + "without graph 2 1-0\n" + target, head + "without graph 6\n" + target, head + "without graph -1\n" + target, head + "without graph 2 without graph 2\n" + target, head + "without graph 2" + target, head + "with graph 2\n" + target,
		head + "sum 2 graph 1\n1 graph 2 0-1\n", head + "sum 2 graph 1\n", head + "sum 3 graph 3 0-1\n", head + "sum 2 graph 0\n0 graph 2 0-1\n", head + "sum 2 graph 0\n1 graph 2 0-1\n1 graph 2\n", head + "sum 2 graph 0\n1 graph 3 0-1\n", head + "sum 6 graph 0\n", head + "sum -1 graph 0\n", head + "sum 02 graph 0\n", head + "sum 3 graph 0\n1 graph 3 0-2\n",
		"certificate 3 0\n", head + "certificate 3 0\n", textOfCertificate(certified()), strings.ReplaceAll(head+target, "\n", " "), strings.ReplaceAll(head+target, "\n", "\n\n"), strings.ReplaceAll(head+target, "\n", "\r\n"),
	} {
		if checkStatementRead(t, text) {
			t.Errorf("ReadStatement %q is read", text)
		}
	}
}

func TestTextsThatAreNearlyCertificates(t *testing.T) {
	head, block, flags, rows := "certificate 3 1\n", "block 2\n", "flag 1 graph 2\nflag 1 graph 2 0-1\n", "1/2 -1/2\n-1/2 1/2\n"
	one := "block 1\nflag 1 graph 2\n3\n"
	if !checkCertificateRead(t, head+block+flags+rows) || !checkCertificateRead(t, head+one) || !checkCertificateRead(t, "certificate 0 6\n"+strings.Repeat(one, 6)) {
		t.Error("the text itself is not read")
	}
	var list []string
	for _, wrong := range []string{"", "\n", "certificate\n", "certificate \n", "certificate 3\n", "certificate 3 \n", "certificate 3 1", "certificate 3 1 \n", " certificate 3 1\n", "certificate  3 1\n", "certificate 3  1\n", "certificate 3 1 1\n", "Certificate 3 1\n", "certificates 3 1\n", "certificate\t3 1\n", "certificate 3\t1\n", "certificate 3 1\r\n", "certificate3 1\n", "3 1\n", "certificate 1 3\n", "certificate 3\n1\n", "certificate 3,1\n",
		"certificate 03 1\n", "certificate +3 1\n", "certificate -0 1\n", "certificate -3 1\n", "certificate 6 1\n", "certificate x 1\n", "certificate 3.0 1\n", "certificate 3/1 1\n", "certificate 9223372036854775807 1\n", "certificate 9223372036854775808 1\n", "certificate 4294967299 1\n", "certificate -1 1\n", "certificate -9223372036854775808 1\n",
		"certificate 3 01\n", "certificate 3 +1\n", "certificate 3 -1\n", "certificate 3 -0\n", "certificate 3 2\n", "certificate 3 7\n", "certificate 3 x\n", "certificate 3 1.0\n", "certificate 3 4294967297\n", "certificate 3 9223372036854775807\n", "certificate 3 9223372036854775808\n", "certificate 3 -9223372036854775808\n"} {
		list = append(list, wrong+block+flags+rows, wrong+one, wrong)
	}
	list = append(list, head, "certificate 3 6\n"+strings.Repeat(one, 7), "certificate 3 7\n"+strings.Repeat(one, 7), "certificate 3 6\n"+strings.Repeat(one, 5), "certificate 3 0\n\n", "certificate 3 0\n ", "certificate 3 0\n"+one, "certificate 3 0\n"+block+flags+rows, "certificate 3 0\ncertificate 3 0\n", head+one+one, one, one+head)
	for _, wrong := range []string{"", "\n", "block\n", "block \n", "block 2", "block 2 \n", " block 2\n", "block  2\n", "Block 2\n", "blocks 2\n", "block2\n", "block\t2\n", "block 2\r\n", "block 02\n", "block +2\n", "block -2\n", "block 0\n", "block 1\n", "block 3\n", "block 9\n", "block x\n", "block 2 2\n", "block 2/1\n", "block 4294967298\n", "block 9223372036854775807\n", "block 9223372036854775808\n", "block -9223372036854775808\n", "2\n", "block 2\nblock 2\n"} {
		list = append(list, head+wrong+flags+rows, head+wrong)
	}
	for _, wrong := range []string{"", "flag 1 graph 2\n", "flag 1 graph 2 0-1\n", "\n" + flags, flags + "\n", " " + flags, flags + " ", flags + "flag 1 graph 2\n", "flag 1 graph 2\nflag 0 graph 2 0-1\n", "flag 1 graph 2\nflag 1 graph 3 0-1\n", "flag 1 graph 2\nflag 2 graph 2 0-1\n", "flag 1 graph 2\nflag 1  graph 2 0-1\n", "flag 1 graph 2\nflag 01 graph 2 0-1\n", "flag 1 graph 2\nflag 1 graph 2 1-0\n", "flag 1 graph 2\nflag 1 graph 2 0-1 \n", "flag 1 graph 2\nflag 1 graph 2 0-1\r\n", "flag 1 graph 2\nflag 4 graph 5 0-1\n", "flag 1 graph 2\ngraph 2 0-1\n", "flag 1 graph 2\nflag 1 graph 6\n", "flag 1 graph 2 flag 1 graph 2 0-1\n", "flag 1 graph 2\nflag 3 graph 2\n", "flag 1 graph 2\nflag -1 graph 2\n", "graph 2\ngraph 2 0-1\n", rows, strings.TrimSuffix(flags, "\n")} {
		list = append(list, head+block+wrong+rows, head+block+wrong)
	}
	for _, wrong := range []string{"", "1/2 -1/2\n", "1/2 -1/2\n-1/2 1/2", rows + "\n", rows + " ", "\n" + rows, rows + "1/2 1/2\n", "1/2 -1/2\n\n-1/2 1/2\n", "1/2 -1/2\n1/2 1/2\n", "1/2 -1/2 0\n-1/2 1/2 0\n", "1/2\n-1/2\n", "1/2 -1/2\n-1/2\n", "1/2 -1/2\n-1/2 1/2 0\n", "1/2  -1/2\n-1/2 1/2\n", " 1/2 -1/2\n-1/2 1/2\n", "1/2 -1/2 \n-1/2 1/2\n", "1/2 -1/2\r\n-1/2 1/2\n", "1/2,-1/2\n-1/2 1/2\n", "1/2 -1/2\n-2/4 1/2\n", "1/2 -1/2\n-1/2 01/2\n", "1/2 -1/2\n-1/2 +1\n", "1/2 -1/2\n-1/2 -0\n", "1/2 -1/2\n-1/2 1/1\n", "1/2 -1/2\n-1/2 1/0\n", "1/2 -1/2\n-1/2 0.5\n", "1/2 -1/2\n-1/2 1000000001\n", "1/2 -1/2\n-1/2 1/1000000001\n", "1/2 -1/2\n-1/2 x\n", "1/2 -1/2 -1/2 1/2\n", rows + one, rows + block, flags} {
		list = append(list, head+block+flags+wrong)
	}
	list = append(list, textOfStatement(mantel("1/2")), strings.ReplaceAll(head+one, "\n", " "), strings.ReplaceAll(head+one, "\n", "\n\n"), strings.ReplaceAll(head+one, "\n", "\r\n"))
	for _, text := range list {
		if checkCertificateRead(t, text) {
			t.Errorf("ReadCertificate %q is read", text)
		}
	}
}

// A text with just MaxTextBytes bytes is not too long, whatever is in it.
func TestTextsAtTheLimit(t *testing.T) {
	for _, text := range []string{"", "\n", " ", textOfStatement(mantel("1/2")), textOfCertificate(certified()), "statement 1/2\n" + strings.Repeat("without graph 1\n", 1500), "certificate 3 1\nblock 9999\n" + strings.Repeat("flag 0 graph 1\n", 2000), "certificate 5 9999\n" + strings.Repeat("block 0\n", 3000), "certificate 0 1\nblock 1\nflag 0 graph 0\n" + strings.Repeat("1 ", 12000)} {
		for _, with := range []string{" ", "\n", "0", "x", "\x00"} {
			long := text + strings.Repeat(with, 20002)
			for n, want := range map[int]int64{19999: impl.ErrSyntax, 20000: impl.ErrSyntax, 20001: impl.ErrRange, 20002: impl.ErrRange} {
				s, code := impl.ReadStatement(long[:n])
				isRefused(t, "ReadStatement of a long text", noStatement(s), code, want)
				c, code := impl.ReadCertificate(long[:n])
				isRefused(t, "ReadCertificate of a long text", noCertificate(c), code, want)
			}
		}
	}
}
