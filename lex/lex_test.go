package lex_test

import (
	"math"
	"math/rand"
	"slices"
	"strconv"
	"strings"
	"testing"

	"muntin/api"
	"muntin/lex"
)

// lexes holds all that Lex returns against what it must.
func lexes(t *testing.T, src string, want []api.Token, pos api.Pos, errno api.Errno) {
	t.Helper()
	if l, p, e := lex.Lex(src); !slices.Equal(l, want) || p != pos || e != errno {
		t.Fatalf("Lex(%.200q) = %v, %v, %d; want %v, %v, %d", src, l, p, e, want, pos, errno)
	}
}

// valid returns the tokens of a source that has no error.
func valid(t *testing.T, src string) []api.Token {
	t.Helper()
	l, p, e := lex.Lex(src)
	if p != (api.Pos{}) || e != api.OK {
		t.Fatalf("Lex(%.200q) = .., %v, %d", src, p, e)
	}
	return l
}

// wrong is for sources with a word that has no kind.
func wrong(t *testing.T, src string, line, col int) {
	t.Helper()
	lexes(t, src, nil, api.Pos{Line: line, Col: col}, api.ErrLex)
}

// isOne is for a source that is a single word.
func isOne(t *testing.T, word string, kind uint8, text string, n uint32) {
	t.Helper()
	lexes(t, word, []api.Token{
		{Kind: kind, Text: text, N: n, Pos: api.Pos{Line: 1, Col: 1}},
		{Kind: api.TkEnd, Pos: api.Pos{Line: 1, Col: len(word) + 1}},
	}, api.Pos{}, api.OK)
}

// writes holds what Text returns against what it must.
func writes(t *testing.T, l []api.Token, want string) {
	t.Helper()
	if s := lex.Text(l); s != want {
		t.Fatalf("Text(%v) = %q; want %q", l, s, want)
	}
}

// unplaced are tokens without their positions.
func unplaced(l []api.Token) []api.Token {
	l = slices.Clone(l)
	for i := range l {
		l[i].Pos = api.Pos{}
	}
	return l
}

// P12.1: the chapter's examples, in their order.
func TestExamples(t *testing.T) {
	lexes(t, "add v1 v0 v12", []api.Token{
		{Kind: api.TkName, Text: "add", Pos: api.Pos{Line: 1, Col: 1}},
		{Kind: api.TkReg, Text: "v1", N: 1, Pos: api.Pos{Line: 1, Col: 5}},
		{Kind: api.TkReg, Text: "v0", N: 0, Pos: api.Pos{Line: 1, Col: 8}},
		{Kind: api.TkReg, Text: "v12", N: 12, Pos: api.Pos{Line: 1, Col: 11}},
		{Kind: api.TkEnd, Pos: api.Pos{Line: 1, Col: 14}},
	}, api.Pos{}, api.OK)
	lexes(t, "start:\nconst v0 -1", []api.Token{
		{Kind: api.TkLabel, Text: "start", Pos: api.Pos{Line: 1, Col: 1}},
		{Kind: api.TkEnd, Pos: api.Pos{Line: 1, Col: 7}},
		{Kind: api.TkName, Text: "const", Pos: api.Pos{Line: 2, Col: 1}},
		{Kind: api.TkReg, Text: "v0", N: 0, Pos: api.Pos{Line: 2, Col: 7}},
		{Kind: api.TkNumber, Text: "-1", N: 4294967295, Pos: api.Pos{Line: 2, Col: 10}},
		{Kind: api.TkEnd, Pos: api.Pos{Line: 2, Col: 12}},
	}, api.Pos{}, api.OK)
	lexes(t, "# all of it", nil, api.Pos{}, api.OK)
	for _, s := range []string{"v4096", "v01", "-0", "007", "a-b", "4294967296"} {
		wrong(t, s, 1, 1)
	}
	wrong(t, "  x ?", 1, 5)
}

// P12.1: a source of all kinds, with the numbers that the chapter gives them.
func TestKinds(t *testing.T) {
	lexes(t, "f: f v5 5 { }", []api.Token{
		{Kind: 1, Text: "f", Pos: api.Pos{Line: 1, Col: 1}},
		{Kind: 0, Text: "f", Pos: api.Pos{Line: 1, Col: 4}},
		{Kind: 2, Text: "v5", N: 5, Pos: api.Pos{Line: 1, Col: 6}},
		{Kind: 3, Text: "5", N: 5, Pos: api.Pos{Line: 1, Col: 9}},
		{Kind: 4, Text: "{", Pos: api.Pos{Line: 1, Col: 11}},
		{Kind: 5, Text: "}", Pos: api.Pos{Line: 1, Col: 13}},
		{Kind: 6, Pos: api.Pos{Line: 1, Col: 14}},
	}, api.Pos{}, api.OK)
}

// P12.1: all registers, and words that are nearly one.
func TestRegisters(t *testing.T) {
	for n := range 4096 {
		word := "v" + strconv.Itoa(n)
		isOne(t, word, api.TkReg, word, uint32(n))
	}
	for _, s := range []string{
		"v4096", "v4097", "v5000", "v9999", "v10000", "v40950", "v65536", "v4294967295", "v4294967296", "v4294967297",
		"v18446744073709551615", "v18446744073709551616", "v18446744073709551617", "v" + strings.Repeat("9", 63), "v1" + strings.Repeat("0", 5000),
		"v00", "v01", "v000", "v0000", "v007", "v04095", "v-1", "v-0", "v+1", "v1.", "v1:", "v0:", "v01:", "v4096:", "v1-", "v1v?", "vé", "v{", "v1{", "-v1",
	} {
		wrong(t, s, 1, 1)
	}
	for _, s := range []string{"v", "V", "V0", "V1", "vv1", "v1v", "v1a", "v_1", "v1_", "v_", "_v1", "va", "v01a", "v4096_", "v0x1", "v1e3"} {
		isOne(t, s, api.TkName, s, 0)
		isOne(t, s+":", api.TkLabel, s, 0)
	}
}

// P12.1: numbers at the edges, and words that are nearly one.
func TestNumbers(t *testing.T) {
	for n := uint64(1); n <= 1<<32; n *= 2 {
		for _, m := range []uint64{n - 1, n, n + 1} {
			word := strconv.FormatUint(m, 10)
			if m < 1<<32 {
				isOne(t, word, api.TkNumber, word, uint32(m))
			} else {
				wrong(t, word, 1, 1)
			}
			if m >= 1 && m <= 1<<31 {
				isOne(t, "-"+word, api.TkNumber, "-"+word, uint32(1<<32-m))
			} else {
				wrong(t, "-"+word, 1, 1)
			}
		}
	}
	for s, n := range map[string]uint32{"0": 0, "9": 9, "10": 10, "1000000000": 1000000000, "2147483648": 0x80000000, "4294967295": 0xffffffff, "-1": 0xffffffff, "-2": 0xfffffffe, "-10": 0xfffffff6, "-2147483647": 0x80000001, "-2147483648": 0x80000000} {
		isOne(t, s, api.TkNumber, s, n)
	}
	for _, s := range []string{
		"-", "--", "--1", "-+1", "+1", "+0", "+", "-0", "-00", "-01", "00", "01", "007", "000000000000000000001", "00000000004294967295",
		"4294967296", "4294967297", "42949672950", "9999999999", "-2147483649", "-4294967295", "-4294967296", "-9999999999",
		"18446744073709551615", "18446744073709551616", "18446744073709551617", "-18446744073709551615", "-18446744073709551617",
		"1" + strings.Repeat("0", 60000), "-1" + strings.Repeat("0", 60000), strings.Repeat("0", 60000),
		"1_0", "0x1", "0b1", "0o1", "1e3", "1.", ".1", "1.0", "1a", "1:", "0:", "-1:", "1-", "1-1", "5{", "-a", "-v1", "١", "-١", "１",
	} {
		wrong(t, s, 1, 1)
	}
}

// P12.1, P12.3: labels and names of all lengths near the limit, and of all that is not one.
func TestLabelsAndNames(t *testing.T) {
	for n := 1; n <= 200; n++ {
		for _, from := range []string{"a", "Z", "_", "v_"} {
			s := (from + strings.Repeat("9z_Q0", 40))[:n]
			if lex.Name(s) != (n <= 64) {
				t.Fatalf("Name(%q) = %t", s, n > 64)
			}
			if n <= 64 {
				isOne(t, s, api.TkName, s, 0)
				isOne(t, s+":", api.TkLabel, s, 0)
			} else {
				wrong(t, s, 1, 1)
				wrong(t, s+":", 1, 1)
			}
		}
	}
	for _, s := range []string{":", "::", "a::", ":a", "a:b", "a:b:", "{:", "}:", "-:", "1:", "v1:", "v00:", "é:", "a\x00:", "\x00", "a\x00", "a.b", "a$", "a@", "a[", "a`", "a/", "a{", "{a", "{}", "{{", "}{", "}}", "a#", "ä", "aé", "\xff", "a\xff", "\xc3"} {
		wrong(t, s, 1, 1)
		if lex.Name(s) {
			t.Fatalf("Name(%q) = true", s)
		}
	}
}

// P12.3: each byte as the first one of a name, and as a later one.
func TestBytesOfNames(t *testing.T) {
	const letters = "abcdefghijklmnopqrstuvwxyzABCDEFGHIJKLMNOPQRSTUVWXYZ_"
	const digits = "0123456789"
	for c := range 256 {
		s := string([]byte{byte(c)})
		first, later := strings.Contains(letters, s), strings.Contains(letters+digits, s)
		for _, x := range []struct {
			s    string
			want bool
		}{{s, first}, {s + "a", first}, {s + "1", first && s != "v"}, {"a" + s, later}, {"a" + s + "a", later}, {"_0" + s, later}, {"v" + s, first}, {"v1" + s, first}, {strings.Repeat("a", 63) + s, later}, {s + strings.Repeat("a", 63), first}} {
			if lex.Name(x.s) != x.want {
				t.Fatalf("Name(%q) = %t", x.s, !x.want)
			}
		}
	}
}

// P12.3: names are not registers, whether these exist or not; and they are no labels, and have no white bytes.
func TestNoNames(t *testing.T) {
	for _, s := range []string{"", "v0", "v1", "v9", "v00", "v01", "v4095", "v4096", "v99999999999999999999999", "v" + strings.Repeat("7", 63), "v" + strings.Repeat("7", 100), "a:", "a b", " a", "a ", "a\n", "\na", "a\t", "0", "1a", "-1", "{", "}", "#", "#a", strings.Repeat("a", 65), strings.Repeat("a", 128), strings.Repeat("a", 256+8), strings.Repeat("a", 1<<16+8)} {
		if lex.Name(s) {
			t.Fatalf("Name(%q) = true", s)
		}
	}
}

// P12.1: each byte between two words: it is white, or ends the line, or joins them.
func TestWhiteBytes(t *testing.T) {
	for c := range 256 {
		between := string([]byte{byte(c)})
		l, _, e := lex.Lex("a" + between + "b")
		switch c {
		case 0x20, 0x09, 0x0d:
			want := []api.Token{{Text: "a", Pos: api.Pos{Line: 1, Col: 1}}, {Text: "b", Pos: api.Pos{Line: 1, Col: 3}}, {Kind: api.TkEnd, Pos: api.Pos{Line: 1, Col: 4}}}
			if !slices.Equal(l, want) || e != api.OK {
				t.Fatalf("byte %x: %v, %d", c, l, e)
			}
		case 0x0a:
			want := []api.Token{{Text: "a", Pos: api.Pos{Line: 1, Col: 1}}, {Kind: api.TkEnd, Pos: api.Pos{Line: 1, Col: 2}}, {Text: "b", Pos: api.Pos{Line: 2, Col: 1}}, {Kind: api.TkEnd, Pos: api.Pos{Line: 2, Col: 2}}}
			if !slices.Equal(l, want) || e != api.OK {
				t.Fatalf("byte %x: %v, %d", c, l, e)
			}
		default:
			if e == api.OK && (len(l) != 2 || l[0].Text != "a"+between+"b") {
				t.Fatalf("byte %x: %v", c, l)
			}
		}
	}
}

// P12.1: lines that are empty, and lines that only look so.
func TestEmptyLines(t *testing.T) {
	for _, s := range []string{"", "\n", "\n\n\n", " ", "\t", "\r", "\r\n", " \t\r \n\r", "#", "#\n", "##", "# # #", "#a", "#{", "#v1 ?", " #", "\t\r #x\n", "# \x00\xff é :\n\n  # v4096", "#\n#\n#", strings.Repeat("\n", 65536), "#" + strings.Repeat("?", 65535)} {
		lexes(t, s, nil, api.Pos{}, api.OK)
	}
	for s, col := range map[string]int{"a #": 3, "a # b": 3, "a #b": 3, "a#": 1, "a#b": 1, "} #": 3, " v1\t# x": 5, "\x0b#": 1, "\x0c# x": 1, "\u00a0# x": 1, "\ufeff# x": 1, "'# x": 1} {
		wrong(t, s, 1, col)
	}
	lexes(t, "#a\nb\n#c", []api.Token{{Text: "b", Pos: api.Pos{Line: 2, Col: 1}}, {Kind: api.TkEnd, Pos: api.Pos{Line: 2, Col: 2}}}, api.Pos{}, api.OK)
	wrong(t, "#\n?\n#", 2, 1)
}

// P12.1: positions in lines and columns, in bytes; the last line with 0a and without it.
func TestPositions(t *testing.T) {
	for _, last := range []string{"", "\n", "\n\n", "\n# x", "\n \t"} {
		lexes(t, "\n#\n \t a\r v7  \r\n}"+last, []api.Token{
			{Kind: api.TkName, Text: "a", Pos: api.Pos{Line: 3, Col: 4}},
			{Kind: api.TkReg, Text: "v7", N: 7, Pos: api.Pos{Line: 3, Col: 7}},
			{Kind: api.TkEnd, Pos: api.Pos{Line: 3, Col: 12}},
			{Kind: api.TkClose, Text: "}", Pos: api.Pos{Line: 4, Col: 1}},
			{Kind: api.TkEnd, Pos: api.Pos{Line: 4, Col: 2}},
		}, api.Pos{}, api.OK)
	}
	l := valid(t, strings.Repeat("\n", 65535)+"a")
	if want := []api.Token{{Text: "a", Pos: api.Pos{Line: 65536, Col: 1}}, {Kind: api.TkEnd, Pos: api.Pos{Line: 65536, Col: 2}}}; !slices.Equal(l, want) {
		t.Fatal(l)
	}
	l = valid(t, strings.Repeat(" ", 65535)+"a")
	if want := []api.Token{{Text: "a", Pos: api.Pos{Line: 1, Col: 65536}}, {Kind: api.TkEnd, Pos: api.Pos{Line: 1, Col: 65537}}}; !slices.Equal(l, want) {
		t.Fatal(l)
	}
}

// P12.1, R3: the first word that no row matches counts, and there are no tokens then.
func TestFirstWrongWord(t *testing.T) {
	for _, bad := range noPieces() {
		if bad[0] != '#' {
			wrong(t, bad, 1, 1)
			wrong(t, "#\n\n\t "+bad+" "+bad+"\n"+bad, 3, 3)
		}
		wrong(t, "a "+bad, 1, 3)
		wrong(t, "a\nb { "+bad+" ?\n?", 2, 5)
		wrong(t, "v1 v2 }\n \r"+"x:"+"\t"+bad, 2, 6)
		wrong(t, strings.Repeat("a ", 30000)+bad, 1, 60001)
	}
}

// P12.1, R2: sources that are as long as they can be, and longer; what is in those does not count.
func TestLength(t *testing.T) {
	for _, piece := range []string{" ", "\n", "#", "a ", "a\n", "{ ", "?", "a", "1", "v1 ", "\x00"} {
		s := strings.Repeat(piece, 70000)
		asModel(t, s[:65535])
		asModel(t, s[:65536])
		for _, n := range []int{65537, 65538, 70000} {
			lexes(t, s[:n], nil, api.Pos{}, api.ErrLong)
		}
	}
	lexes(t, "?"+strings.Repeat(" ", 65536), nil, api.Pos{}, api.ErrLong)
	lexes(t, strings.Repeat("?\n", 1<<20), nil, api.Pos{}, api.ErrLong)
	wrong(t, "?"+strings.Repeat(" ", 65535), 1, 1)
	if l := valid(t, strings.Repeat("a\n", 32768)); len(l) != 65536 {
		t.Fatal(len(l))
	}
}

// P12.2: what Text makes of lists, also of those that Lex never returns.
func TestText(t *testing.T) {
	name, label, end := api.Token{Text: "a"}, api.Token{Kind: api.TkLabel, Text: "b"}, api.Token{Kind: api.TkEnd}
	for _, x := range []struct {
		l    []api.Token
		want string
	}{
		{nil, ""}, {[]api.Token{}, ""},
		{[]api.Token{name}, "a"}, {[]api.Token{label}, "b:"}, {[]api.Token{end}, "\n"},
		{[]api.Token{name, name}, "a a"}, {[]api.Token{name, end}, "a\n"}, {[]api.Token{name, end, end, name}, "a\n\na"},
		{[]api.Token{end, name}, "\na"}, {[]api.Token{end, end}, "\n\n"}, {[]api.Token{end, label}, "\nb:"},
		{[]api.Token{label, label}, "b: b:"}, {[]api.Token{label, name, end}, "b: a\n"}, {[]api.Token{name, label, end, name, name}, "a b:\na a"},
		{[]api.Token{label, end}, "b:\n"}, {[]api.Token{name, label}, "a b:"},
		{[]api.Token{{}}, ""}, {[]api.Token{{}, {}}, " "}, {[]api.Token{{Kind: api.TkLabel}, {}}, ": "}, {[]api.Token{{}, name, {}}, " a "},
		{[]api.Token{{Kind: api.TkReg, Text: "v1", N: 7}, {Kind: api.TkNumber, Text: "x", N: 9}, {Kind: api.TkOpen, Text: "("}, {Kind: api.TkClose, Text: ")"}, end}, "v1 x ( )\n"},
		{[]api.Token{{Kind: 7, Text: "x"}, {Kind: 255, Text: "\n"}, {Kind: api.TkLabel, Text: "a:"}, {Text: "b:"}}, "x \n a:: b:"},
		{[]api.Token{{Text: "a", Pos: api.Pos{Line: -5, Col: 1 << 40}}, {Kind: api.TkEnd, N: 3, Pos: api.Pos{Line: 9, Col: 9}}}, "a\n"},
		{[]api.Token{{Text: "\x00\xff é"}, {Kind: api.TkReg}, end}, "\x00\xff é \n"},
	} {
		writes(t, x.l, x.want)
	}
	writes(t, slices.Repeat([]api.Token{name, name, end}, 100000), strings.Repeat("a a\n", 100000))
}

// P12.2: the texts of sources.
func TestTextOfSources(t *testing.T) {
	for src, want := range map[string]string{
		"":                             "",
		"#":                            "",
		"a":                            "a\n",
		" a \n":                        "a\n",
		"a:   b":                       "a: b\n",
		"a:  b\n\n c {":                "a: b\nc {\n",
		"f\tv1\r-5 }\r\n# x\n\n\nx:\n": "f v1 -5 }\nx:\n",
	} {
		writes(t, valid(t, src), want)
	}
}

// P12.3: all registers that exist, and numbers that no register has.
func TestReg(t *testing.T) {
	for n := range 4096 {
		s := lex.Reg(n)
		if s != "v"+strconv.Itoa(n) {
			t.Fatalf("Reg(%d) = %q", n, s)
		}
		isOne(t, s, api.TkReg, s, uint32(n))
		if lex.Name(s) {
			t.Fatalf("Name(%q) = true", s)
		}
	}
	for _, n := range []int{-1, -2, -4096, 4096, 4097, 5000, 65536, 1 << 31, 1 << 32, 1<<32 + 5, -1 << 32, -1<<32 + 5, math.MinInt, math.MinInt + 1, math.MaxInt} {
		if s := lex.Reg(n); s != "" {
			t.Fatalf("Reg(%d) = %q", n, s)
		}
	}
}

// P12.4: Lex of Text of what Lex returned.
func TestThereAndBack(t *testing.T) {
	r := rand.New(rand.NewSource(4))
	for range 20000 {
		src := randomSource(r, 0)
		l := valid(t, src)
		text := lex.Text(l)
		back := valid(t, text)
		if !slices.Equal(unplaced(back), unplaced(l)) {
			t.Fatalf("Lex of Text of Lex(%q) = %v; want %v", src, back, l)
		}
		if again := lex.Text(back); again != text {
			t.Fatalf("Text of Lex(%q) = %q", text, again)
		}
	}
}

// P12.4: a text can be longer than its source, and too long.
func TestTextTooLong(t *testing.T) {
	long := strings.Repeat("a ", 32768)
	if text := lex.Text(valid(t, long)); text != strings.TrimSuffix(long, " ")+"\n" {
		t.Fatal(len(text))
	}
	long = strings.Repeat("a\n", 32767) + "bc"
	l := valid(t, long)
	text := lex.Text(l)
	if text != long+"\n" {
		t.Fatal(len(text))
	}
	lexes(t, text, nil, api.Pos{}, api.ErrLong)
}

// P12.4: positions increase, and the source has the word of each token there, with its kind's form.
func TestWordsAtPositions(t *testing.T) {
	r := rand.New(rand.NewSource(44))
	for range 20000 {
		src := randomSource(r, 0)
		lines := strings.Split(src, "\n")
		before := api.Pos{}
		for _, x := range valid(t, src) {
			if x.Pos.Line < before.Line || x.Pos.Line == before.Line && x.Pos.Col <= before.Col {
				t.Fatalf("Lex(%q): %v after %v", src, x, before)
			}
			before = x.Pos
			rest := lines[x.Pos.Line-1][x.Pos.Col-1:]
			word := x.Text
			if x.Kind == api.TkLabel {
				word += ":"
			}
			if x.Kind == api.TkEnd && rest != "" || !strings.HasPrefix(rest, word) {
				t.Fatalf("Lex(%q): %v at %q", src, x, rest)
			}
		}
	}
}

// P12.5: a source with more empty lines, and with other white bytes between its words, has the same tokens but for their positions.
func TestEmptyLinesAndWhite(t *testing.T) {
	r := rand.New(rand.NewSource(5))
	for range 20000 {
		src := randomSource(r, 0)
		var other strings.Builder
		for line := range strings.SplitSeq(src, "\n") {
			for r.Intn(3) == 0 {
				other.WriteString(randomEmpty(r) + "\n")
			}
			for i := range len(line) {
				if strings.Contains(" \t\r", line[i:i+1]) {
					other.WriteString(randomWhite(r, 0))
				}
				other.WriteString(line[i : i+1])
			}
			other.WriteString(randomWhite(r, 0) + "\n")
		}
		if l, m := valid(t, src), valid(t, other.String()); !slices.Equal(unplaced(l), unplaced(m)) {
			t.Fatalf("Lex(%q) = %v; Lex(%q) = %v", src, l, other.String(), m)
		}
	}
}

// R4, R5: what Lex returned is new memory, with all its capacity, each time.
func TestNewMemory(t *testing.T) {
	const src = "a: b\n{ v1 -2 }\nx\n"
	l, other := valid(t, src), valid(t, src)
	want := slices.Clone(other)
	for i := range l[:cap(l)] {
		l[:cap(l)][i] = api.Token{Kind: 77, Text: "?", N: 7, Pos: api.Pos{Line: 7, Col: 7}}
	}
	_ = append(l, api.Token{}, api.Token{})
	if !slices.Equal(other, want) {
		t.Fatalf("Lex shares memory with an earlier call: %v", other)
	}
	lexes(t, src, want, api.Pos{}, api.OK)
}

// R5: Text changes nothing of its list, nor of the capacity behind it.
func TestTextKeepsItsList(t *testing.T) {
	l := append(valid(t, "a: b\nc"), api.Token{Kind: 9, Text: "behind"}, api.Token{Kind: api.TkEnd})
	want := slices.Clone(l)
	if s := lex.Text(l[:5:6]); s != "a: b\nc\n" {
		t.Fatalf("%q", s)
	}
	if !slices.Equal(l, want) {
		t.Fatalf("Text changed its list: %v", l)
	}
}
