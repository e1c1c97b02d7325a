package impl

import (
	"cmp"
	"strconv"
)

const (
	VaNull = iota
	VaInt
	VaBool
	VaText
)

const (
	MaxInt  = 2147483647
	MinInt  = -2147483648
	MaxWord = 60
)

type Value struct {
	Kind, N int
	T       string
}

// ValueOK makes the value anew from what its kind has a use for: if they differ, something else in it was not zero.
func ValueOK(v Value) bool {
	switch v.Kind {
	case VaNull:
		return v == Value{}
	case VaInt:
		return v == intValue(v.N) && v.N >= MinInt && v.N <= MaxInt
	case VaBool:
		return v == boolValue(v.N == 1)
	case VaText:
		return v == textValue(v.T) && len(v.T) <= MaxWord
	}
	return false
}

func Truth(v Value) (bool, int) {
	if !ValueOK(v) {
		return false, ErrBad
	}
	return isTrue(v), OK
}

func ValueText(v Value) (string, int) {
	if !ValueOK(v) {
		return "", ErrBad
	}
	return textOf(v), OK
}

func KindWord(v Value) (string, int) {
	if !ValueOK(v) {
		return "", ErrBad
	}
	switch v.Kind {
	case VaInt:
		return "int", OK
	case VaBool:
		return "bool", OK
	case VaText:
		return "text", OK
	}
	return "null", OK
}

func ReadValue(t string) (Value, int) {
	if len(t) > MaxText {
		return Value{}, ErrLong
	}
	switch t {
	case "null":
		return Value{}, OK
	case "true", "false":
		return boolValue(t == "true"), OK
	}
	if n, ok := readNumber(t); ok {
		return boundedInt(n)
	}
	if text, size := readQuoted(t); size > 0 && size == len(t) && quotable(text) {
		return textValue(text), OK
	}
	return Value{}, ErrForm
}

func OrderValues(a, b Value) (int, int) {
	if !ValueOK(a) || !ValueOK(b) {
		return 0, ErrBad
	}
	return cmp.Or(cmp.Compare(a.Kind, b.Kind), cmp.Compare(a.N, b.N), cmp.Compare(a.T, b.T)), OK
}

func Unary(op string, v Value) (Value, int) {
	if len(op) > MaxText {
		return Value{}, ErrLong
	}
	if !ValueOK(v) {
		return Value{}, ErrBad
	}
	switch op {
	case "!":
		return boolValue(!isTrue(v)), OK
	case "-":
		if v.Kind != VaInt {
			return Value{}, ErrType
		}
		return boundedInt(-v.N)
	}
	return Value{}, ErrForm
}

func Binary(op string, a, b Value) (Value, int) {
	if len(op) > MaxText {
		return Value{}, ErrLong
	}
	if !ValueOK(a) || !ValueOK(b) {
		return Value{}, ErrBad
	}
	switch op {
	case "==":
		return boolValue(a == b), OK
	case "<", "+":
		if a.Kind == VaText && b.Kind == VaText {
			return binaryTexts(op, a.T, b.T)
		}
		fallthrough
	case "-", "*", "/", "%":
		if a.Kind != VaInt || b.Kind != VaInt {
			return Value{}, ErrType
		}
		return binaryInts(op, a.N, b.N)
	}
	return Value{}, ErrForm
}

func BuiltinCount(name string) (int, int) {
	if len(name) > MaxText {
		return 0, ErrLong
	}
	takes := builtinTakes(name)
	if takes == "" {
		return 0, ErrNone
	}
	return len(takes), OK
}

func Builtin(name string, args []Value) (Value, int) {
	if len(name) > MaxText || len(args) > MaxList {
		return Value{}, ErrLong
	}
	for _, v := range args {
		if !ValueOK(v) {
			return Value{}, ErrBad
		}
	}
	count, code := BuiltinCount(name)
	if code != OK {
		return Value{}, code
	}
	if len(args) != count {
		return Value{}, ErrCount
	}
	if !kindsFit(builtinTakes(name), args) {
		return Value{}, ErrType
	}
	return callBuiltin(name, args)
}

func intValue(n int) Value {
	return Value{Kind: VaInt, N: n}
}

func boolValue(b bool) Value {
	if b {
		return Value{Kind: VaBool, N: 1}
	}
	return Value{Kind: VaBool}
}

func textValue(t string) Value {
	return Value{Kind: VaText, T: t}
}

func boundedInt(n int) (Value, int) {
	if n < MinInt || n > MaxInt {
		return Value{}, ErrRange
	}
	return intValue(n), OK
}

// isTrue needs no look at the kind: in a right value all that is false has a zero N and an empty T.
func isTrue(v Value) bool {
	return v.N != 0 || v.T != ""
}

func textOf(v Value) string {
	switch v.Kind {
	case VaInt:
		return strconv.Itoa(v.N)
	case VaBool:
		return strconv.FormatBool(v.N == 1)
	case VaText:
		return v.T
	}
	return "null"
}

func binaryTexts(op, a, b string) (Value, int) {
	if op == "<" {
		return boolValue(a < b), OK
	}
	if len(a)+len(b) > MaxWord {
		return Value{}, ErrSize
	}
	return textValue(a + b), OK
}

// binaryInts works in 64 bits, where no result of two numbers within bounds wraps.
func binaryInts(op string, a, b int) (Value, int) {
	switch op {
	case "<":
		return boolValue(a < b), OK
	case "+":
		return boundedInt(a + b)
	case "-":
		return boundedInt(a - b)
	case "*":
		return boundedInt(a * b)
	}
	if b == 0 {
		return Value{}, ErrRange
	}
	if op == "%" {
		return boundedInt(a % b)
	}
	if a%b != 0 {
		return Value{}, ErrRange
	}
	return boundedInt(a / b)
}

// builtinTakes tells a builtin's arguments by the letters that the document has for them; none for another name.
func builtinTakes(name string) string {
	switch name {
	case "len":
		return "t"
	case "str":
		return "v"
	case "abs":
		return "n"
	case "at":
		return "tn"
	case "max", "min":
		return "nn"
	case "cut":
		return "tnn"
	}
	return ""
}

func kindsFit(takes string, args []Value) bool {
	for i, v := range args {
		if takes[i] == 't' && v.Kind != VaText || takes[i] == 'n' && v.Kind != VaInt {
			return false
		}
	}
	return true
}

func callBuiltin(name string, args []Value) (Value, int) {
	switch name {
	case "len":
		return intValue(len(args[0].T)), OK
	case "str":
		return textValue(textOf(args[0])), OK
	case "abs":
		return boundedInt(max(args[0].N, -args[0].N))
	case "at":
		return byteAt(args[0].T, args[1].N)
	case "max":
		return intValue(max(args[0].N, args[1].N)), OK
	case "min":
		return intValue(min(args[0].N, args[1].N)), OK
	}
	return cutText(args[0].T, args[1].N, args[2].N)
}

func byteAt(t string, n int) (Value, int) {
	if n < 0 || n >= len(t) {
		return Value{}, ErrRange
	}
	return intValue(int(t[n])), OK
}

func cutText(t string, from, to int) (Value, int) {
	if from < 0 || from > to || to > len(t) {
		return Value{}, ErrRange
	}
	return textValue(t[from:to]), OK
}
