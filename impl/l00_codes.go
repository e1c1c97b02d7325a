package impl

const (
	MaxText = 65536
	MaxList = 4096
	MaxName = 40
)

const (
	OK = iota
	ErrBad
	ErrLong
	ErrForm
	ErrRange
	ErrNone
	ErrMany
	ErrFull
	ErrType
	ErrDeep
	ErrSize
	ErrName
	ErrTwice
	ErrPlace
	ErrCount
	ErrFuel
	ErrLate
	ErrMethod
	ErrMore
	ErrShut
)

// maxDigits keeps every number's text within 64 bits, so that reading one never wraps.
const maxDigits = 18

var codeWords = [...]string{
	OK:        "ok",
	ErrBad:    "bad",
	ErrLong:   "long",
	ErrForm:   "form",
	ErrRange:  "range",
	ErrNone:   "none",
	ErrMany:   "many",
	ErrFull:   "full",
	ErrType:   "type",
	ErrDeep:   "deep",
	ErrSize:   "size",
	ErrName:   "name",
	ErrTwice:  "twice",
	ErrPlace:  "place",
	ErrCount:  "count",
	ErrFuel:   "fuel",
	ErrLate:   "late",
	ErrMethod: "method",
	ErrMore:   "more",
	ErrShut:   "shut",
}

func NameOK(t string) bool {
	if len(t) == 0 || len(t) > MaxName {
		return false
	}
	for i := range len(t) {
		if !isLetter(t[i]) && (i == 0 || !isDigit(t[i])) {
			return false
		}
	}
	return true
}

func CodeWord(code int) string {
	if code < 0 || code >= len(codeWords) {
		return ""
	}
	return codeWords[code]
}

func CodeOf(word string) int {
	for code, w := range codeWords {
		if w == word {
			return code
		}
	}
	return -1
}

func isLetter(c byte) bool {
	return c >= 'a' && c <= 'z' || c >= 'A' && c <= 'Z' || c == '_'
}

func isDigit(c byte) bool {
	return c >= '0' && c <= '9'
}

// readNumber takes a number's text by general rule 9; the bool says whether t is one.
func readNumber(t string) (int, bool) {
	if len(t) > 0 && t[0] == '-' {
		n, ok := readDigits(t[1:])
		return -n, ok && n != 0
	}
	return readDigits(t)
}

func readDigits(t string) (int, bool) {
	if len(t) == 0 || len(t) > maxDigits || len(t) > 1 && t[0] == '0' {
		return 0, false
	}
	n := 0
	for i := range len(t) {
		if !isDigit(t[i]) {
			return 0, false
		}
		n = n*10 + int(t[i]-'0')
	}
	return n, true
}
