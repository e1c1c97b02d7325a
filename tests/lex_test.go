package tests

import (
	"fmt"
	"regexp"
	"slices"
	"strconv"
	"strings"
	"testing"

	"loop.example/g00370/impl"
)

// sourceWords and sourceSigns are written out of the document once more, so that the program's own tables are held against them.
func sourceWords() []string {
	return strings.Fields("let if else while return throw try catch function true false null")
}

func sourceSigns() []string {
	return append(strings.Split("+-*/%<=!(){},;", ""), "==", "&&", "||")
}

var tokenForm = regexp.MustCompile(`^(?:([A-Za-z_][A-Za-z_0-9]*)|([0-9]+)|'((?:[^'\\]|\\['\\])*)'|(==|&&|\|\||[-+*/%<=!(){},;]))`)

// tokenWanted reads the first token of t by an expression of the tests' own, and how it is written.
func tokenWanted(t string) (impl.Token, string, bool) {
	m := tokenForm.FindStringSubmatch(t)
	switch {
	case m == nil:
		return impl.Token{}, "", false
	case m[1] != "" && slices.Contains(sourceWords(), m[1]):
		return impl.Token{Kind: impl.ToWord, Text: m[1]}, m[0], true
	case m[1] != "":
		return impl.Token{Kind: impl.ToName, Text: m[1]}, m[0], len(m[1]) <= 20
	case m[2] != "":
		n, err := strconv.ParseInt(m[2], 10, 64)
		right := err == nil && n <= 2147483647 && strconv.FormatInt(n, 10) == m[2]
		return impl.Token{Kind: impl.ToInt, Text: m[2]}, m[0], right
	case m[4] != "":
		return impl.Token{Kind: impl.ToSign, Text: m[4]}, m[0], true
	}
	meant := strings.NewReplacer(`\'`, `'`, `\\`, `\`).Replace(m[3])
	return impl.Token{Kind: impl.ToText, Text: meant}, m[0], len(meant) <= 60 && plainBytes(meant)
}

func lexWanted(t string) ([]impl.Token, int, int) {
	if len(t) > 65536 {
		return nil, 0, impl.ErrLong
	}
	if len(t) > 600 {
		return nil, 0, impl.ErrSize
	}
	var list []impl.Token
	left := strings.TrimLeft(t, " \t\n")
	for left != "" {
		at := len(t) - len(left)
		if len(list) == 300 {
			return nil, at, impl.ErrMany
		}
		x, written, right := tokenWanted(left)
		if !right {
			return nil, at, impl.ErrForm
		}
		x.At = at
		list = append(list, x)
		left = strings.TrimLeft(left[len(written):], " \t\n")
	}
	return list, 0, impl.OK
}

// brief tells the first tokens of a list, so that a failed test stays readable.
func brief(list []impl.Token) string {
	told := fmt.Sprintf("%d tokens", len(list))
	for _, x := range list[:min(len(list), 8)] {
		told += fmt.Sprintf(" {%d %d %.30q}", x.Kind, x.At, x.Text)
	}
	return told
}

func wantLex(t *testing.T, s string, want []impl.Token, wantPlace, wantCode int) {
	t.Helper()
	list, place, code := impl.LexSource(s)
	if !slices.Equal(list, want) || place != wantPlace || code != wantCode {
		t.Errorf("LexSource(%.80q) = %s, %d, %d; want %s, %d, %d", s, brief(list), place, code, brief(want), wantPlace, wantCode)
	}
}

func wantLexFault(t *testing.T, s string, place, code int) {
	t.Helper()
	wantLex(t, s, nil, place, code)
}

// wantLexAsReckoned is called of thousands of sources: behind a first fault it says nothing, so that this one is found.
func wantLexAsReckoned(t *testing.T, s string) {
	t.Helper()
	if t.Failed() {
		return
	}
	list, place, code := lexWanted(s)
	wantLex(t, s, list, place, code)
}

func tok(kind, at int, text string) impl.Token {
	return impl.Token{Kind: kind, At: at, Text: text}
}

// one is the only token of a source, at its beginning.
func one(kind int, text string) []impl.Token {
	return []impl.Token{tok(kind, 0, text)}
}

func TestTokenConstantsAreTheDocuments(t *testing.T) {
	for i, got := range []int{impl.ToEnd, impl.ToName, impl.ToWord, impl.ToInt, impl.ToText, impl.ToSign} {
		if got != i {
			t.Errorf("the kind %d is %d", i, got)
		}
	}
	if impl.MaxSource != 600 || impl.MaxTokens != 300 {
		t.Errorf("MaxSource %d, MaxTokens %d; want 600, 300", impl.MaxSource, impl.MaxTokens)
	}
}

func TestWordOK(t *testing.T) {
	for _, w := range sourceWords() {
		if !impl.WordOK(w) {
			t.Errorf("WordOK(%q) = false", w)
		}
		for _, s := range []string{w[1:], w[:len(w)-1], w + "s", w + " ", " " + w, w + "\x00", strings.ToUpper(w), strings.ToUpper(w[:1]) + w[1:], w + w, "'" + w + "'"} {
			if impl.WordOK(s) {
				t.Errorf("WordOK(%q) = true", s)
			}
		}
	}
	for _, s := range []string{"", " ", "x", "path", "len", "for", "var", "undefined", "\xff", "12", "==", strings.Join(sourceWords(), " "), strings.Repeat("let", impl.MaxText)} {
		if impl.WordOK(s) {
			t.Errorf("WordOK(%.20q) = true", s)
		}
	}
}

func TestLexOrdinarySources(t *testing.T) {
	const n, w, i, x, s = impl.ToName, impl.ToWord, impl.ToInt, impl.ToText, impl.ToSign
	for _, c := range []struct {
		source string
		want   []impl.Token
	}{
		{"", nil},
		{" \t\n \n", nil},
		{"a", one(n, "a")},
		{"let x = 1;", []impl.Token{tok(w, 0, "let"), tok(n, 4, "x"), tok(s, 6, "="), tok(i, 8, "1"), tok(s, 9, ";")}},
		{"let\tx\n=\n\n1 ;\n", []impl.Token{tok(w, 0, "let"), tok(n, 4, "x"), tok(s, 6, "="), tok(i, 9, "1"), tok(s, 11, ";")}},
		{"if(!a){throw'x';}else{b();}", []impl.Token{tok(w, 0, "if"), tok(s, 2, "("), tok(s, 3, "!"), tok(n, 4, "a"), tok(s, 5, ")"), tok(s, 6, "{"), tok(w, 7, "throw"), tok(x, 12, "x"), tok(s, 15, ";"), tok(s, 16, "}"), tok(w, 17, "else"), tok(s, 21, "{"), tok(n, 22, "b"), tok(s, 23, "("), tok(s, 24, ")"), tok(s, 25, ";"), tok(s, 26, "}")}},
		{"lets let1 _let Let", []impl.Token{tok(n, 0, "lets"), tok(n, 5, "let1"), tok(n, 10, "_let"), tok(n, 15, "Let")}},
		{"-5", []impl.Token{tok(s, 0, "-"), tok(i, 1, "5")}},
		{"12ab", []impl.Token{tok(i, 0, "12"), tok(n, 2, "ab")}},
		{"a1b", one(n, "a1b")},
		{"'a''b'", []impl.Token{tok(x, 0, "a"), tok(x, 3, "b")}},
		{"'let'let", []impl.Token{tok(x, 0, "let"), tok(w, 5, "let")}},
		{"a=='='==b", []impl.Token{tok(n, 0, "a"), tok(s, 1, "=="), tok(x, 3, "="), tok(s, 6, "=="), tok(n, 8, "b")}},
		{"a-- -b", []impl.Token{tok(n, 0, "a"), tok(s, 1, "-"), tok(s, 2, "-"), tok(s, 4, "-"), tok(n, 5, "b")}},
		{" '\\'' '\\\\'", []impl.Token{tok(x, 1, "'"), tok(x, 6, "\\")}},
	} {
		wantLex(t, c.source, c.want, 0, impl.OK)
		wantLexAsReckoned(t, c.source)
	}
}

func TestLexNames(t *testing.T) {
	twenty := "abcdefghijKLMNOPQR_9"
	wantLex(t, twenty, one(impl.ToName, twenty), 0, impl.OK)
	wantLex(t, twenty+" "+twenty, []impl.Token{tok(impl.ToName, 0, twenty), tok(impl.ToName, 21, twenty)}, 0, impl.OK)
	for _, s := range []string{twenty + "x", twenty + "9", twenty + "_", twenty + twenty, strings.Repeat("a", 40), strings.Repeat("_", 600), "function" + strings.Repeat("s", 13)} {
		wantLexFault(t, s, 0, impl.ErrForm)
		if len(s) < 500 {
			wantLexFault(t, "\n a = "+s, 6, impl.ErrForm)
		}
	}
	for _, w := range sourceWords() {
		wantLex(t, w, one(impl.ToWord, w), 0, impl.OK)
		for _, s := range []string{w + "x", w + "0", "_" + w, strings.ToUpper(w)} {
			wantLex(t, s, one(impl.ToName, s), 0, impl.OK)
		}
	}
}

func TestLexNumbers(t *testing.T) {
	for n := range 1200 {
		wantLex(t, strconv.Itoa(n), one(impl.ToInt, strconv.Itoa(n)), 0, impl.OK)
	}
	for _, s := range []string{"2147483646", "2147483647", "1000000000"} {
		wantLex(t, s, one(impl.ToInt, s), 0, impl.OK)
	}
	for _, s := range []string{
		"2147483648", "2147483650", "3000000000", "4294967296", "4294967297", "9999999999", "21474836470",
		"00", "01", "007", "0000000000000000001", "02147483647", strings.Repeat("0", 20),
		strings.Repeat("9", 18), strings.Repeat("9", 19), "18446744073709551616", "18446744073709551617", "9223372036854775808", strings.Repeat("1", 600),
	} {
		wantLexFault(t, s, 0, impl.ErrForm)
		if len(s) < 500 {
			wantLexFault(t, "1 +"+s, 3, impl.ErrForm)
		}
	}
}

func TestLexTexts(t *testing.T) {
	for _, c := range []string{"a", " ", "~", "\"", "'", "\\"} {
		for _, n := range []int{0, 1, 59, 60, 61, 62, 120} {
			meant := strings.Repeat(c, n)
			if n <= 60 {
				wantLex(t, quoted(meant), one(impl.ToText, meant), 0, impl.OK)
			} else {
				wantLexFault(t, quoted(meant), 0, impl.ErrForm)
			}
		}
	}
	mixed := strings.Repeat("it's \\", 10)
	wantLex(t, quoted(mixed), one(impl.ToText, mixed), 0, impl.OK)
	wantLexFault(t, quoted(mixed+"."), 0, impl.ErrForm)
	for _, s := range []string{
		`'`, `'a`, `'\'`, `'a\'`, `'\\\'`, `'a\`, `'\`, `'\n'`, `'\a'`, `'\"'`, `'\ '`, `'\0'`, `'a\\\'`, `'a'b'`, `'''`, "'a\n'", "'\t'", "'\\\n'", "'\r'", "'a\x00'", "'\xc3\xa4'",
		`\'a'`, `\`, `\\`, `"a"`, "`a`", "'" + strings.Repeat("a", 599),
	} {
		wantLexAsReckoned(t, s)
		if _, _, code := impl.LexSource(s); code != impl.ErrForm {
			t.Errorf("LexSource(%.40q) has the code %d, want ErrForm", s, code)
		}
	}
	wantLexFault(t, `x = 'a\';`, 4, impl.ErrForm)
	wantLexFault(t, `'a' 'b\' c`, 4, impl.ErrForm)
	wantLex(t, `'a\\';`, []impl.Token{tok(impl.ToText, 0, `a\`), tok(impl.ToSign, 5, ";")}, 0, impl.OK)
	wantLex(t, `'\\''\''`, []impl.Token{tok(impl.ToText, 0, `\`), tok(impl.ToText, 4, `'`)}, 0, impl.OK)
}

// Each byte is met alone, behind a name, ahead of a blank, between quotes, and behind a backslash there.
func TestLexEachByte(t *testing.T) {
	for b := range 256 {
		c := string([]byte{byte(b)})
		for _, s := range []string{c, "ab" + c, "1" + c + " x", "'" + c + "'", "'a" + c + "b'", `'\` + c + "'", `'\\` + c + "'", c + c} {
			wantLexAsReckoned(t, s)
		}
	}
	for _, b := range []byte{0, 31, 127, 128, 255, 11, 12, 13} {
		wantLexFault(t, " 'a"+string([]byte{b})+"'", 1, impl.ErrForm)
		wantLexFault(t, " a "+string([]byte{b}), 3, impl.ErrForm)
	}
	wantLex(t, "' ~'", one(impl.ToText, " ~"), 0, impl.OK)
}

func TestLexSigns(t *testing.T) {
	for _, sign := range sourceSigns() {
		wantLex(t, sign, one(impl.ToSign, sign), 0, impl.OK)
		wantLex(t, " "+sign+" ", []impl.Token{tok(impl.ToSign, 1, sign)}, 0, impl.OK)
	}
	for _, s := range []string{"&", "|", "& &", "| |", "&|", "|&", "#", "?", ":", ".", "[", "]", ">", "@", "$", "^", "~", "`", "\"", "\\"} {
		wantLexFault(t, s, 0, impl.ErrForm)
	}
	wantLex(t, "===", []impl.Token{tok(impl.ToSign, 0, "=="), tok(impl.ToSign, 2, "=")}, 0, impl.OK)
	wantLex(t, "= ==", []impl.Token{tok(impl.ToSign, 0, "="), tok(impl.ToSign, 2, "==")}, 0, impl.OK)
	wantLex(t, "!==", []impl.Token{tok(impl.ToSign, 0, "!"), tok(impl.ToSign, 1, "==")}, 0, impl.OK)
	wantLexFault(t, "&&&", 2, impl.ErrForm)
	wantLexFault(t, "|||", 2, impl.ErrForm)
	wantLexFault(t, "a >= b", 2, impl.ErrForm)
	forEachText("=&|!<", 5, func(s string) { wantLexAsReckoned(t, s) })
}

// forEachText goes through all texts of at most size bytes of an alphabet.
func forEachText(alphabet string, size int, do func(string)) {
	do("")
	if size == 0 {
		return
	}
	for i := range len(alphabet) {
		forEachText(alphabet, size-1, func(s string) { do(alphabet[i:i+1] + s) })
	}
}

func TestLexAllShortSources(t *testing.T) {
	forEachText(`a0'\ =`, 6, func(s string) { wantLexAsReckoned(t, s) })
	forEachText("_9-&\n#", 4, func(s string) { wantLexAsReckoned(t, s) })
}

func TestLexBounds(t *testing.T) {
	blanks := strings.Repeat(" ", 600)
	wantLex(t, blanks, nil, 0, impl.OK)
	wantLex(t, blanks[:599]+"x", []impl.Token{tok(impl.ToName, 599, "x")}, 0, impl.OK)
	wantLexFault(t, blanks+" ", 0, impl.ErrSize)
	wantLexFault(t, blanks+"#", 0, impl.ErrSize)
	wantLexFault(t, blanks[:599]+"#", 599, impl.ErrForm)
	for _, n := range []int{599, 600} {
		s := strings.Repeat("ab12 ", 120)[:n]
		wantLexAsReckoned(t, s)
		if list, _, code := impl.LexSource(s); len(list) != 120 || code != impl.OK {
			t.Errorf("%d tokens, %d; want 120, 0", len(list), code)
		}
	}
	for _, n := range []int{299, 300, 301, 302, 600} {
		s := strings.Repeat(";", n)
		list, place, code := impl.LexSource(s)
		if n <= 300 && (len(list) != n || place != 0 || code != impl.OK) || n > 300 && (len(list) != 0 || place != 300 || code != impl.ErrMany) {
			t.Errorf("LexSource of %d signs: %d tokens, %d, %d", n, len(list), place, code)
		}
	}
	wantLexFault(t, strings.Repeat("; ", 300)+" ", 0, impl.ErrSize)
	wantLexAsReckoned(t, strings.Repeat("; ", 300))
	wantLexAsReckoned(t, strings.Repeat(";", 300)+strings.Repeat("\n", 300))
	wantLexFault(t, strings.Repeat(";", 300)+" \t\n let", 304, impl.ErrMany)
	wantLexFault(t, strings.Repeat("==", 299)+"=;", 599, impl.ErrMany)
}

func TestLexOrderOfFaults(t *testing.T) {
	full := strings.Repeat(";", 300)
	for _, c := range []struct {
		source      string
		place, code int
	}{
		{strings.Repeat("#", impl.MaxText+1), 0, impl.ErrLong}, {strings.Repeat(";", impl.MaxText+1), 0, impl.ErrLong}, {strings.Repeat(" ", impl.MaxText+1), 0, impl.ErrLong},
		{strings.Repeat("#", impl.MaxText), 0, impl.ErrSize}, {strings.Repeat(";", impl.MaxText), 0, impl.ErrSize}, {strings.Repeat("#", 601), 0, impl.ErrSize}, {strings.Repeat(";", 601), 0, impl.ErrSize},
		{full + "#", 300, impl.ErrMany}, {full + " 'a", 301, impl.ErrMany}, {full + "\n01", 301, impl.ErrMany},
		{full[1:] + "#", 299, impl.ErrForm}, {full[1:] + "# ;", 299, impl.ErrForm}, {full[1:] + " &;", 300, impl.ErrForm},
		{"#" + full + full[1:], 0, impl.ErrForm}, {" 01" + full + ";", 1, impl.ErrForm}, {"a # b 'c", 2, impl.ErrForm}, {"'a # ~", 0, impl.ErrForm},
	} {
		wantLexFault(t, c.source, c.place, c.code)
		wantLexAsReckoned(t, c.source)
	}
}
