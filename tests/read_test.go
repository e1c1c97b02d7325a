package tests

import (
	"strconv"
	"strings"
	"testing"

	"loop.example/g00370/impl"
)

// quoted writes a text as chapter 3 says of ToText.
func quoted(t string) string {
	return "'" + strings.NewReplacer("'", "\\'", "\\", "\\\\").Replace(t) + "'"
}

func wantRead(t *testing.T, s string, want impl.Value, wantCode int) {
	t.Helper()
	got, code := impl.ReadValue(s)
	wantValue(t, "ReadValue "+strconv.Quote(s), got, code, want, wantCode)
}

func plainBytes(t string) bool {
	for i := range len(t) {
		if t[i] < 32 || t[i] > 126 {
			return false
		}
	}
	return true
}

func TestValuesAreReadBack(t *testing.T) {
	for _, v := range rightValues() {
		text, _ := impl.ValueText(v)
		if v.Kind != impl.VaText {
			wantRead(t, text, v, impl.OK)
			continue
		}
		if plainBytes(text) {
			wantRead(t, quoted(text), v, impl.OK)
		} else {
			wantRead(t, quoted(text), null, impl.ErrForm)
		}
	}
}

func TestReadNumbers(t *testing.T) {
	for n := -1200; n <= 1200; n++ {
		wantRead(t, strconv.Itoa(n), num(n), impl.OK)
	}
	for _, c := range []struct {
		text string
		want impl.Value
		code int
	}{
		{"2147483647", num(impl.MaxInt), 0}, {"-2147483648", num(impl.MinInt), 0}, {"-2147483647", num(-impl.MaxInt), 0},
		{"2147483648", null, impl.ErrRange}, {"-2147483649", null, impl.ErrRange}, {"4294967296", null, impl.ErrRange}, {"4294967297", null, impl.ErrRange}, {"9999999999", null, impl.ErrRange},
		{strings.Repeat("9", 18), null, impl.ErrRange}, {"-" + strings.Repeat("9", 18), null, impl.ErrRange},
		{strings.Repeat("9", 19), null, impl.ErrForm}, {"-" + strings.Repeat("9", 19), null, impl.ErrForm}, {"1" + strings.Repeat("0", 18), null, impl.ErrForm},
		{"18446744073709551616", null, impl.ErrForm}, {"18446744073709551621", null, impl.ErrForm}, {strings.Repeat("0", 18) + "1", null, impl.ErrForm},
		{"00", null, impl.ErrForm}, {"01", null, impl.ErrForm}, {"-0", null, impl.ErrForm}, {"-00", null, impl.ErrForm}, {"-01", null, impl.ErrForm}, {"0000000000000000001", null, impl.ErrForm},
		{"-", null, impl.ErrForm}, {"--1", null, impl.ErrForm}, {"+1", null, impl.ErrForm}, {"1-", null, impl.ErrForm}, {" 1", null, impl.ErrForm}, {"1 ", null, impl.ErrForm}, {"- 1", null, impl.ErrForm}, {"1\n", null, impl.ErrForm},
		{"1_000", null, impl.ErrForm}, {"0x1", null, impl.ErrForm}, {"1.0", null, impl.ErrForm}, {"1e3", null, impl.ErrForm}, {"1/", null, impl.ErrForm}, {"1:", null, impl.ErrForm}, {"\x0012", null, impl.ErrForm},
	} {
		wantRead(t, c.text, c.want, c.code)
	}
}

func TestReadTextsBetweenQuotes(t *testing.T) {
	for _, c := range []struct {
		text string
		want impl.Value
		code int
	}{
		{`''`, word(""), 0}, {`'a'`, word("a"), 0}, {`' '`, word(" "), 0}, {`'~'`, word("~"), 0}, {`'null'`, word("null"), 0}, {`'12'`, word("12"), 0}, {`'"'`, word(`"`), 0},
		{`'it\'s'`, word("it's"), 0}, {`'\''`, word("'"), 0}, {`'\\'`, word(`\`), 0}, {`'\\\''`, word(`\'`), 0}, {`'\\n'`, word(`\n`), 0}, {`'a\\'`, word(`a\`), 0},
		{`'`, null, impl.ErrForm}, {`'a`, null, impl.ErrForm}, {`a'`, null, impl.ErrForm}, {`'''`, null, impl.ErrForm}, {`'a'b'`, null, impl.ErrForm}, {`''a`, null, impl.ErrForm}, {`'a''b'`, null, impl.ErrForm},
		{`'\'`, null, impl.ErrForm}, {`'a\'`, null, impl.ErrForm}, {`'\\\'`, null, impl.ErrForm}, {`'\n'`, null, impl.ErrForm}, {`'\a'`, null, impl.ErrForm}, {`'\"'`, null, impl.ErrForm}, {`'\ '`, null, impl.ErrForm}, {`\'a'`, null, impl.ErrForm},
		{`'a' `, null, impl.ErrForm}, {` 'a'`, null, impl.ErrForm}, {`"a"`, null, impl.ErrForm},
		{quoted(strings.Repeat("a", 60)), word(strings.Repeat("a", 60)), 0}, {quoted(strings.Repeat("a", 61)), null, impl.ErrForm},
		{quoted(strings.Repeat("'", 60)), word(strings.Repeat("'", 60)), 0}, {quoted(strings.Repeat("'", 61)), null, impl.ErrForm},
		{quoted(strings.Repeat("\\", 60)), word(strings.Repeat("\\", 60)), 0}, {quoted(strings.Repeat("a", 60) + "'"), null, impl.ErrForm},
	} {
		wantRead(t, c.text, c.want, c.code)
	}
}

func TestReadEachByteBetweenQuotes(t *testing.T) {
	for b := range 256 {
		c := string([]byte{byte(b)})
		if b >= 32 && b <= 126 && c != "'" && c != "\\" {
			wantRead(t, "'"+c+"'", word(c), impl.OK)
		} else {
			wantRead(t, "'"+c+"'", null, impl.ErrForm)
		}
		if c == "'" || c == "\\" {
			wantRead(t, "'\\"+c+"'", word(c), impl.OK)
		} else {
			wantRead(t, "'\\"+c+"'", null, impl.ErrForm)
		}
	}
}

func TestReadOtherTexts(t *testing.T) {
	for _, s := range []string{
		"", " ", "x", "int", "bool", "text", "Null", "TRUE", "nul", "nulll", "null ", " null", "true\n", "false\x00", "null true", "\xff", "()", "1,2",
		strings.Repeat("9", impl.MaxText), strings.Repeat("'", impl.MaxText), "'" + strings.Repeat("a", impl.MaxText-2) + "'",
	} {
		wantRead(t, s, null, impl.ErrForm)
	}
	for _, s := range []string{strings.Repeat("9", impl.MaxText+1), "'" + strings.Repeat("a", impl.MaxText-1) + "'", strings.Repeat("null", impl.MaxText)} {
		wantRead(t, s, null, impl.ErrLong)
	}
}
