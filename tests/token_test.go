package tests

import (
	"math"
	"math/rand"
	"slices"
	"strings"
	"testing"

	"loop.example/g00370/impl"
)

func plainTexts() []string {
	var list []string
	for _, s := range someTexts() {
		if plainBytes(s) {
			list = append(list, s)
		}
	}
	return append(list, "let", "==", "x1", "~", " ", "  ", "'' ''", `\n`, strings.Repeat(`\'`, 30), strings.Repeat("it's \\", 10))
}

// otherTexts are no texts that may stand between quotes, by their bytes or by their length.
func otherTexts() []string {
	return []string{
		"\n", "\t", "\x00", "\x1f", "\x7f", "\x80", "\xff", "\xc3\xa4", "a\n", "\na", "a\x1fb", strings.Repeat("a", 59) + "\x7f",
		strings.Repeat("a", 61), strings.Repeat("'", 61), strings.Repeat("\\", 61), strings.Repeat("a", 60) + "\n", strings.Repeat("a", impl.MaxText),
	}
}

func rightTokens() []impl.Token {
	var list []impl.Token
	for _, s := range []string{"a", "Z", "_", "x1", "lets", "Let", "path", "len", "a0_Z9", "zzzzzzzzzzzzzzzzzzz0", strings.Repeat("_", 20)} {
		list = append(list, tok(impl.ToName, 0, s))
	}
	for _, s := range sourceWords() {
		list = append(list, tok(impl.ToWord, 0, s))
	}
	for _, s := range []string{"0", "1", "9", "10", "100", "65536", "999999999", "2147483646", "2147483647"} {
		list = append(list, tok(impl.ToInt, 0, s))
	}
	for _, s := range plainTexts() {
		list = append(list, tok(impl.ToText, 0, s))
	}
	for _, s := range sourceSigns() {
		list = append(list, tok(impl.ToSign, 0, s))
	}
	return list
}

// wrongTokens has texts that no kind takes, texts that another kind takes, and kinds that there are not.
func wrongTokens() []impl.Token {
	var list []impl.Token
	for kind, texts := range [][]string{
		impl.ToEnd:  {"", "a", "let", "0", ";", "' '"},
		impl.ToName: append(sourceWords(), "", "0", "1a", " a", "a ", "a b", "a-b", "a\n", "a\x00", "\xc3\xa4", "'a'", ";", "==", strings.Repeat("a", 21), strings.Repeat("_", 40), strings.Repeat("a", impl.MaxText+1)),
		impl.ToWord: {"", "x", "Let", "LET", "let ", " let", "lets", "le", "path", "0", ";", "for", "int", "'let'", strings.Repeat("let", impl.MaxText)},
		impl.ToInt:  {"", "-1", "-0", "+1", "00", "01", "1 ", " 1", "1a", "a", "0x1", "1.0", "'1'", "2147483648", "4294967296", strings.Repeat("9", 18), strings.Repeat("9", 19), "18446744073709551617", strings.Repeat("0", impl.MaxText+1)},
		impl.ToText: append(otherTexts(), strings.Repeat("a", impl.MaxText+1)),
		impl.ToSign: {"", " ", "&", "|", "<<", "<=", "!=", "===", "&&&", "+-", "()", "+-*/%<=!(){},;", "a", "0", "'", "\\", "#", ".", ":", ">", "= ", " =", "=\x00", strings.Repeat("=", impl.MaxText+1)},
	} {
		for _, s := range texts {
			list = append(list, tok(kind, 0, s))
		}
	}
	for _, kind := range []int{-1, 6, 7, math.MinInt, math.MaxInt, 1 << 32, 1<<32 + 1, -5} {
		for _, s := range []string{"", "a", "let", "0", ";"} {
			list = append(list, tok(kind, 0, s))
		}
	}
	return list
}

func writtenWanted(x impl.Token) string {
	if x.Kind == impl.ToText {
		return quoted(x.Text)
	}
	return x.Text
}

func TestTokenText(t *testing.T) {
	for _, x := range rightTokens() {
		for _, at := range []int{0, 1, -1, 599, 600, math.MinInt, math.MaxInt} {
			x.At = at
			if got, code := impl.TokenText(x); got != writtenWanted(x) || code != impl.OK {
				t.Errorf("TokenText of %s = %q, %d; want %q, 0", brief([]impl.Token{x}), got, code, writtenWanted(x))
			}
		}
	}
	for _, x := range wrongTokens() {
		for _, at := range []int{0, 7, math.MinInt, math.MaxInt} {
			x.At = at
			if got, code := impl.TokenText(x); got != "" || code != impl.ErrBad {
				t.Errorf("TokenText of %s = %.60q, %d; want none, ErrBad", brief([]impl.Token{x}), got, code)
			}
		}
	}
}

// Of each kind a text is a token if, and only if, a source of it alone is read as that one.
func TestTokensAreWhatSourcesHave(t *testing.T) {
	for _, x := range append(rightTokens(), wrongTokens()...) {
		for kind := -1; kind <= 6; kind++ {
			x.Kind = kind
			list, _, _ := impl.LexSource(writtenWanted(x))
			read := slices.Equal(list, []impl.Token{x})
			if _, code := impl.TokenText(x); (code == impl.OK) != read {
				t.Errorf("TokenText of %s has the code %d; as a source it is %s", brief([]impl.Token{x}), code, brief(list))
			}
		}
	}
}

func TestQuoteText(t *testing.T) {
	for _, c := range []struct{ text, want string }{
		{"", "''"}, {"a", "'a'"}, {" ", "' '"}, {"~", "'~'"}, {"'", `'\''`}, {`\`, `'\\'`}, {`\'`, `'\\\''`}, {`'\`, `'\'\\'`}, {`it's \`, `'it\'s \\'`}, {`\n`, `'\\n'`}, {`"`, `'"'`}, {"''", `'\'\''`},
		{strings.Repeat("a", 60), "'" + strings.Repeat("a", 60) + "'"}, {strings.Repeat("'", 60), "'" + strings.Repeat(`\'`, 60) + "'"}, {strings.Repeat(`\`, 60), "'" + strings.Repeat(`\\`, 60) + "'"},
	} {
		if got, code := impl.QuoteText(c.text); got != c.want || code != impl.OK {
			t.Errorf("QuoteText(%q) = %q, %d; want %q, 0", c.text, got, code, c.want)
		}
	}
	wantQuote := func(s string, want int) {
		t.Helper()
		if got, code := impl.QuoteText(s); got != "" || code != want {
			t.Errorf("QuoteText of %d bytes %.20q = %.40q, %d; want none, %d", len(s), s, got, code, want)
		}
	}
	for _, s := range otherTexts() {
		wantQuote(s, impl.ErrRange)
	}
	for _, s := range []string{strings.Repeat("a", impl.MaxText+1), strings.Repeat("\n", impl.MaxText+1), strings.Repeat("'", 2*impl.MaxText)} {
		wantQuote(s, impl.ErrLong)
	}
}

func TestQuoteEachByte(t *testing.T) {
	for b := range 256 {
		s := "x" + string([]byte{byte(b)})
		want, wantCode := "", impl.ErrRange
		if b >= 32 && b <= 126 {
			want, wantCode = quoted(s), impl.OK
		}
		if got, code := impl.QuoteText(s); got != want || code != wantCode {
			t.Errorf("QuoteText(%q) = %q, %d; want %q, %d", s, got, code, want, wantCode)
		}
	}
}

// wantQuoteReadBack: a text that is quoted is read back both as a value and as a token. Behind a first fault it says nothing.
func wantQuoteReadBack(t *testing.T, s string) {
	t.Helper()
	if t.Failed() {
		return
	}
	written, code := impl.QuoteText(s)
	if code != impl.OK {
		t.Errorf("QuoteText(%q) has the code %d", s, code)
	}
	wantRead(t, written, word(s), impl.OK)
	wantLex(t, written, one(impl.ToText, s), 0, impl.OK)
}

func TestQuotedTextsAreReadBack(t *testing.T) {
	for _, s := range plainTexts() {
		wantQuoteReadBack(t, s)
	}
	forEachText(`'\a `, 6, func(s string) { wantQuoteReadBack(t, s) })
	chance := rand.New(rand.NewSource(2))
	for range 2000 {
		text := make([]byte, chance.Intn(61))
		for i := range text {
			text[i] = byte(32 + chance.Intn(95))
		}
		wantQuoteReadBack(t, string(text))
	}
}

func TestValuesAreWrittenByQuoteText(t *testing.T) {
	for _, v := range rightValues() {
		if v.Kind != impl.VaText {
			continue
		}
		written, code := impl.QuoteText(v.T)
		if !plainBytes(v.T) {
			if written != "" || code != impl.ErrRange {
				t.Errorf("QuoteText(%q) = %q, %d; want none, ErrRange", v.T, written, code)
			}
			continue
		}
		wantRead(t, written, v, impl.OK)
	}
}

func wantJoin(t *testing.T, list []impl.Token, want string, wantCode int) {
	t.Helper()
	if got, code := impl.JoinTokens(list); got != want || code != wantCode {
		t.Errorf("JoinTokens of %s = %.80q, %d; want %.80q, %d", brief(list), got, code, want, wantCode)
	}
}

func TestJoinTokens(t *testing.T) {
	wantJoin(t, nil, "", impl.OK)
	wantJoin(t, []impl.Token{}, "", impl.OK)
	wantJoin(t, one(impl.ToText, ""), "''", impl.OK)
	wantJoin(t, []impl.Token{tok(impl.ToSign, 5, "="), tok(impl.ToSign, 5, "="), tok(impl.ToSign, -1, "==")}, "= = ==", impl.OK)
	wantJoin(t, []impl.Token{tok(impl.ToWord, 9, "let"), tok(impl.ToName, 9, "x"), tok(impl.ToSign, 9, "="), tok(impl.ToText, 9, "it's"), tok(impl.ToSign, 9, ";")}, `let x = 'it\'s' ;`, impl.OK)
	var written []string
	for _, x := range rightTokens() {
		wantJoin(t, []impl.Token{x}, writtenWanted(x), impl.OK)
		written = append(written, writtenWanted(x))
	}
	wantJoin(t, rightTokens(), strings.Join(written, " "), impl.OK)
}

func TestJoinTokensBounds(t *testing.T) {
	sign := tok(impl.ToSign, 0, ";")
	long := tok(impl.ToText, 0, strings.Repeat("'", 60))
	for _, x := range []impl.Token{sign, long} {
		for _, n := range []int{299, 300} {
			wantJoin(t, slices.Repeat([]impl.Token{x}, n), strings.Repeat(writtenWanted(x)+" ", n)[:n*(len(writtenWanted(x))+1)-1], impl.OK)
		}
		for n, code := range map[int]int{301: impl.ErrMany, 4096: impl.ErrMany, 4097: impl.ErrLong, 10000: impl.ErrLong} {
			wantJoin(t, slices.Repeat([]impl.Token{x}, n), "", code)
		}
	}
	for n, code := range map[int]int{1: impl.ErrBad, 300: impl.ErrBad, 301: impl.ErrMany, 4096: impl.ErrMany, 4097: impl.ErrLong} {
		wantJoin(t, make([]impl.Token, n), "", code)
	}
	for _, x := range wrongTokens() {
		for _, list := range [][]impl.Token{{x}, {x, sign}, {sign, x}, append(slices.Repeat([]impl.Token{sign}, 299), x)} {
			wantJoin(t, list, "", impl.ErrBad)
		}
	}
}

// wantTokensReadBack: what a list is joined to is read as that list, each token at the place where it is written. Behind a first fault it says nothing.
func wantTokensReadBack(t *testing.T, list []impl.Token) {
	t.Helper()
	if t.Failed() {
		return
	}
	joined, code := impl.JoinTokens(list)
	if code != impl.OK {
		t.Errorf("JoinTokens of %s has the code %d", brief(list), code)
	}
	if len(joined) > impl.MaxSource {
		wantLexFault(t, joined, 0, impl.ErrSize)
		return
	}
	want := slices.Clone(list)
	at := 0
	for i := range want {
		want[i].At = at
		at += len(writtenWanted(want[i])) + 1
	}
	wantLex(t, joined, want, 0, impl.OK)
}

func TestTokensAreReadBack(t *testing.T) {
	right := rightTokens()
	wantTokensReadBack(t, nil)
	for _, x := range right {
		for _, y := range right {
			wantTokensReadBack(t, []impl.Token{x, y})
		}
	}
	wantTokensReadBack(t, slices.Repeat([]impl.Token{tok(impl.ToInt, 0, "7")}, 300))
	chance := rand.New(rand.NewSource(3))
	for range 3000 {
		var list []impl.Token
		for range chance.Intn(40) {
			x := right[chance.Intn(len(right))]
			x.At = chance.Int() - chance.Int()
			list = append(list, x)
		}
		wantTokensReadBack(t, list)
	}
}

// wantSourceKept: each token is written in the source as TokenText tells, at its place, with blanks alone between.
func wantSourceKept(t *testing.T, s string) {
	t.Helper()
	list, _, code := impl.LexSource(s)
	if code != impl.OK {
		return
	}
	end := 0
	for _, x := range list {
		written, code := impl.TokenText(x)
		if code != impl.OK || x.At < end || strings.Trim(s[end:x.At], " \t\n") != "" || !strings.HasPrefix(s[x.At:], written) {
			t.Fatalf("%q has the token %+v, written %q, code %d", s, x, written, code)
		}
		end = x.At + len(written)
	}
	if strings.Trim(s[end:], " \t\n") != "" {
		t.Errorf("of %q there is more than its tokens", s)
	}
	wantTokensReadBack(t, list)
}

func TestSourcesAreKept(t *testing.T) {
	pieces := append(sourceWords(), sourceSigns()...)
	pieces = append(pieces, " ", " ", "\n", "\t", "a", "x1", "_", "0", "12", "2147483647", "'it\\'s'", "''", "'\\\\'", "'", "\\", "#", "01", "&", strings.Repeat("b", 21))
	chance := rand.New(rand.NewSource(4))
	for range 20000 {
		var s strings.Builder
		for range chance.Intn(12) {
			s.WriteString(pieces[chance.Intn(len(pieces))])
		}
		wantLexAsReckoned(t, s.String())
		wantSourceKept(t, s.String())
	}
}

func FuzzTokens(f *testing.F) {
	f.Add("let x1=12<y;\n 'it\\'s \\\\'==(a&&b)||!z", 4, "it's")
	f.Add("'a\\'", 3, "2147483647")
	f.Add(strings.Repeat("; ", 300), 1, "let")
	f.Fuzz(func(t *testing.T, s string, kind int, text string) {
		wantLexAsReckoned(t, s)
		wantSourceKept(t, s)
		x := tok(kind, len(s), text)
		if written, code := impl.TokenText(x); code == impl.OK && written == writtenWanted(x) {
			wantTokensReadBack(t, []impl.Token{x, x})
		} else if code != impl.ErrBad || written != "" {
			t.Errorf("TokenText(%+v) = %q, %d", x, written, code)
		}
		if written, code := impl.QuoteText(text); code == impl.OK {
			wantRead(t, written, word(text), impl.OK)
		} else if written != "" || len(text) <= 60 && plainBytes(text) {
			t.Errorf("QuoteText(%q) = %q, %d", text, written, code)
		}
	})
}
