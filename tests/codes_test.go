package tests

import (
	"math"
	"strings"
	"testing"

	"loop.example/g00370/impl"
)

func codeTable() []struct {
	code, number int
	word         string
} {
	return []struct {
		code, number int
		word         string
	}{
		{impl.OK, 0, "ok"}, {impl.ErrBad, 1, "bad"}, {impl.ErrLong, 2, "long"}, {impl.ErrForm, 3, "form"},
		{impl.ErrRange, 4, "range"}, {impl.ErrNone, 5, "none"}, {impl.ErrMany, 6, "many"}, {impl.ErrFull, 7, "full"},
		{impl.ErrType, 8, "type"}, {impl.ErrDeep, 9, "deep"}, {impl.ErrSize, 10, "size"}, {impl.ErrName, 11, "name"},
		{impl.ErrTwice, 12, "twice"}, {impl.ErrPlace, 13, "place"}, {impl.ErrCount, 14, "count"}, {impl.ErrFuel, 15, "fuel"},
		{impl.ErrLate, 16, "late"}, {impl.ErrMethod, 17, "method"}, {impl.ErrMore, 18, "more"}, {impl.ErrShut, 19, "shut"},
	}
}

func TestConstantsAreTheDocuments(t *testing.T) {
	for _, c := range []struct{ got, want int }{
		{impl.MaxText, 65536}, {impl.MaxList, 4096}, {impl.MaxName, 40},
		{impl.VaNull, 0}, {impl.VaInt, 1}, {impl.VaBool, 2}, {impl.VaText, 3},
		{impl.MaxInt, 2147483647}, {impl.MinInt, -2147483648}, {impl.MaxWord, 60},
	} {
		if c.got != c.want {
			t.Errorf("a constant is %d, the document has %d", c.got, c.want)
		}
	}
}

func TestCodesAndWords(t *testing.T) {
	for _, c := range codeTable() {
		if c.code != c.number {
			t.Errorf("the code of %q is %d, want %d", c.word, c.code, c.number)
		}
		if got := impl.CodeWord(c.number); got != c.word {
			t.Errorf("CodeWord(%d) = %q, want %q", c.number, got, c.word)
		}
		if got := impl.CodeOf(c.word); got != c.number {
			t.Errorf("CodeOf(%q) = %d, want %d", c.word, got, c.number)
		}
	}
}

func TestCodeWordOfOtherNumbers(t *testing.T) {
	for _, n := range []int{-1, 20, 21, 1000, -1000, math.MinInt, math.MaxInt, 1 << 32, 1<<32 + 1} {
		if got := impl.CodeWord(n); got != "" {
			t.Errorf("CodeWord(%d) = %q, want none", n, got)
		}
	}
}

func TestCodeOfOtherTexts(t *testing.T) {
	for _, s := range []string{
		"", " ", "OK", "Ok", "o", "okk", "ok ", " ok", "ok\x00", "badd", "ba", "0", "1", "none\n", "err", "\xff",
		strings.Repeat("ok", impl.MaxText/2), strings.Repeat("ok", impl.MaxText), strings.Repeat("x", impl.MaxText+1),
	} {
		if got := impl.CodeOf(s); got != -1 {
			t.Errorf("CodeOf of %d bytes %.10q = %d, want -1", len(s), s, got)
		}
	}
}

func TestNameOK(t *testing.T) {
	for _, s := range []string{
		"a", "z", "A", "Z", "_", "a0", "a9", "_0", "__", "aZ_9", "content_length", "null",
		strings.Repeat("a", impl.MaxName), "_" + strings.Repeat("9", impl.MaxName-1),
	} {
		if !impl.NameOK(s) {
			t.Errorf("NameOK(%q) = false", s)
		}
	}
	for _, s := range []string{
		"", "0", "9a", " a", "a ", "a b", "a-b", "a.b", "a\n", "a\x00", "\xc3\xa4", "a\xff", "-", "'a'",
		strings.Repeat("a", impl.MaxName+1), strings.Repeat("a", impl.MaxText), strings.Repeat("a", impl.MaxText+1),
	} {
		if impl.NameOK(s) {
			t.Errorf("NameOK of %d bytes %.10q = true", len(s), s)
		}
	}
}

// Each byte is tried at the beginning and behind it, so that the bounds of letters and digits are met on both sides.
func TestNameOKOfEachByte(t *testing.T) {
	const letters = "abcdefghijklmnopqrstuvwxyzABCDEFGHIJKLMNOPQRSTUVWXYZ_"
	const digits = "0123456789"
	for b := range 256 {
		s := string([]byte{byte(b)})
		if got, want := impl.NameOK(s), strings.Contains(letters, s); got != want {
			t.Errorf("NameOK(%q) = %v, want %v", s, got, want)
		}
		if got, want := impl.NameOK("x"+s), strings.Contains(letters+digits, s); got != want {
			t.Errorf("NameOK(%q) = %v, want %v", "x"+s, got, want)
		}
	}
}
