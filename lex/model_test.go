package lex_test

import (
	"math/big"
	"math/rand"
	"regexp"
	"strings"
	"testing"

	"muntin/api"
	"muntin/lex"
)

// The chapter's rows as expressions; names and numbers have bounds besides.
var (
	wordForm   = regexp.MustCompile(`[^\x20\x09\x0d]+`)
	regForm    = regexp.MustCompile(`^v(0|[1-9][0-9]*)$`)
	numberForm = regexp.MustCompile(`^(0|[1-9][0-9]*)$`)
	belowForm  = regexp.MustCompile(`^-[1-9][0-9]*$`)
	nameForm   = regexp.MustCompile(`^[a-zA-Z_][a-zA-Z0-9_]*$`)
	noNameForm = regexp.MustCompile(`^v[0-9]+$`)
)

// tokens is what the chapter says of a source.
func tokens(src string) ([]api.Token, api.Pos, api.Errno) {
	if len(src) > 65536 {
		return nil, api.Pos{}, 3
	}
	var l []api.Token
	for i, line := range strings.Split(src, "\n") {
		places := wordForm.FindAllStringIndex(line, -1)
		if len(places) == 0 || line[places[0][0]] == 0x23 {
			continue
		}
		for _, at := range places {
			t, is := wordToken(line[at[0]:at[1]])
			t.Pos = api.Pos{Line: i + 1, Col: at[0] + 1}
			if !is {
				return nil, t.Pos, 120
			}
			l = append(l, t)
		}
		l = append(l, api.Token{Kind: 6, Pos: api.Pos{Line: i + 1, Col: len(line) + 1}})
	}
	return l, api.Pos{}, 0
}

// wordToken is what the chapter says of a word.
func wordToken(word string) (api.Token, bool) {
	switch {
	case word == "{":
		return api.Token{Kind: 4, Text: word}, true
	case word == "}":
		return api.Token{Kind: 5, Text: word}, true
	case regForm.MatchString(word) && atMost(word[1:], 4095):
		return api.Token{Kind: 2, Text: word, N: modulo(word[1:])}, true
	case numberForm.MatchString(word) && atMost(word, 4294967295):
		return api.Token{Kind: 3, Text: word, N: modulo(word)}, true
	case belowForm.MatchString(word) && atMost(word[1:], 2147483648):
		return api.Token{Kind: 3, Text: word, N: modulo(word)}, true
	case strings.HasSuffix(word, ":") && isName(word[:len(word)-1]):
		return api.Token{Kind: 1, Text: word[:len(word)-1]}, true
	case isName(word):
		return api.Token{Kind: 0, Text: word}, true
	}
	return api.Token{}, false
}

func isName(s string) bool {
	return len(s) <= 64 && nameForm.MatchString(s) && !noNameForm.MatchString(s)
}

func integer(digits string) *big.Int {
	n, is := new(big.Int).SetString(digits, 10)
	if !is {
		panic(digits)
	}
	return n
}

func atMost(digits string, most int64) bool { return integer(digits).Cmp(big.NewInt(most)) <= 0 }

// modulo is the word of a number.
func modulo(digits string) uint32 {
	return uint32(new(big.Int).Mod(integer(digits), big.NewInt(1<<32)).Uint64())
}

// asModel holds Lex against the model.
func asModel(t *testing.T, src string) {
	t.Helper()
	want, pos, errno := tokens(src)
	lexes(t, src, want, pos, errno)
}

// eachString passes all strings of at most most bytes of the alphabet.
func eachString(alphabet string, most int, f func(s string)) {
	f("")
	if most == 0 {
		return
	}
	eachString(alphabet, most-1, func(s string) {
		// Each longer string is passed once: through the one without its last byte.
		if len(s) == most-1 {
			for i := range len(alphabet) {
				f(s + alphabet[i:i+1])
			}
		} else if s != "" {
			f(s)
		}
	})
}

// P12.1: all short words, and all short sources.
func TestAsModelShort(t *testing.T) {
	eachString("va059-:{}_", 5, func(s string) {
		asModel(t, s)
		if got := lex.Name(s); got != isName(s) {
			t.Fatalf("Name(%q) = %t", s, got)
		}
	})
	eachString("a1#?{: \t\r\n", 5, func(s string) { asModel(t, s) })
}

// P12.1: all words of two bytes, and all pairs of bytes inside words.
func TestAsModelBytes(t *testing.T) {
	for a := range 256 {
		for b := range 256 {
			pair := string([]byte{byte(a), byte(b)})
			for _, s := range []string{pair, "x" + pair, "x" + pair + "y", "v" + pair + "1", "1" + pair} {
				asModel(t, s)
				if got := lex.Name(s); got != isName(s) {
					t.Fatalf("Name(%q) = %t", s, got)
				}
			}
		}
	}
}

// pieces are what random sources consist of: words that have a kind, for the most part.
func pieces() []string {
	return []string{
		"{", "}", "v0", "v12", "v4095", "0", "7", "4294967295", "-1", "-2147483648", "start:", "v:", "_1:", "add", "v", "V1", "x_9", "v1a",
		strings.Repeat("n", 64), strings.Repeat("m", 64) + ":", "const", "ret",
	}
}

func noPieces() []string {
	return []string{"?", "v4096", "v01", "-0", "007", "a-b", "4294967296", "-2147483649", "-", ":", "a::", "v1:", "{}", "#", "#a", "a#", "\x00", "\xff", "\v", "\f", "\u00a0", "\u0085", "é", strings.Repeat("n", 65), strings.Repeat("n", 65) + ":"}
}

// randomWhite is at least low white bytes.
func randomWhite(r *rand.Rand, low int) string {
	s := ""
	for n := low + r.Intn(3)*r.Intn(2); len(s) < n; {
		s += string(" \t\r"[r.Intn(3)])
	}
	return s
}

// randomEmpty is an empty line, without its 0a.
func randomEmpty(r *rand.Rand) string {
	s := randomWhite(r, 0)
	if r.Intn(2) == 0 {
		return s
	}
	s += "#"
	for n := r.Intn(9); n > 0; n-- {
		if c := byte(r.Intn(256)); c != 10 {
			s += string([]byte{c})
		}
	}
	return s
}

// randomLine is a line that is not empty, without its 0a; bad is how many of 1000 of its words have no kind.
func randomLine(r *rand.Rand, bad int) string {
	good, none := pieces(), noPieces()
	s := randomWhite(r, 0)
	for n := 1 + r.Intn(5); n > 0; n-- {
		if r.Intn(1000) < bad {
			s += none[r.Intn(len(none))]
		} else {
			s += good[r.Intn(len(good))]
		}
		if n > 1 {
			s += randomWhite(r, 1)
		}
	}
	return s + randomWhite(r, 0)
}

// randomSource is a source of a few lines.
func randomSource(r *rand.Rand, bad int) string {
	s := ""
	for n := r.Intn(9); n > 0; n-- {
		if r.Intn(3) == 0 {
			s += randomEmpty(r)
		} else {
			s += randomLine(r, bad)
		}
		if n > 1 || r.Intn(2) == 0 {
			s += "\n"
		}
	}
	return s
}

// P12.1: random sources, with no word, a few, and many that have no kind.
func TestAsModelRandom(t *testing.T) {
	r := rand.New(rand.NewSource(12))
	errors := 0
	const many = 30000
	for i := range many {
		src := randomSource(r, []int{0, 20, 300}[i%3])
		asModel(t, src)
		if _, _, e := lex.Lex(src); e != api.OK {
			errors++
		}
	}
	if errors < many/10 || errors > many/2 {
		t.Fatalf("%d of %d sources are wrong", errors, many)
	}
}

// P12.1: random bytes, and random bytes of those that have a meaning.
func TestAsModelRandomBytes(t *testing.T) {
	r := rand.New(rand.NewSource(120))
	const some = "v1a:{}-#_0 \t\r\n"
	for range 30000 {
		b := make([]byte, r.Intn(40))
		c := make([]byte, len(b))
		for i := range b {
			b[i], c[i] = byte(r.Intn(256)), some[r.Intn(len(some))]
		}
		asModel(t, string(b))
		asModel(t, string(c))
	}
}
