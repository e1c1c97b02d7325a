package tests

import (
	"math"
	"math/big"
	"slices"
	"strconv"
	"strings"
	"testing"

	"loop.example/g00370/impl"
)

var (
	null = impl.Value{}
	yes  = impl.Value{Kind: impl.VaBool, N: 1}
	no   = impl.Value{Kind: impl.VaBool}
)

func num(n int) impl.Value     { return impl.Value{Kind: impl.VaInt, N: n} }
func word(t string) impl.Value { return impl.Value{Kind: impl.VaText, T: t} }

func truthValue(b bool) impl.Value {
	if b {
		return yes
	}
	return no
}

func someNumbers() []int {
	return []int{
		impl.MinInt, impl.MinInt + 1, impl.MinInt / 2, -65536, -46341, -46340, -12, -7, -6, -3, -2, -1,
		0, 1, 2, 3, 4, 5, 6, 7, 12, 59, 60, 61, 46340, 46341, 65535, 65536, impl.MaxInt / 2, impl.MaxInt - 1, impl.MaxInt,
	}
}

func someTexts() []string {
	return []string{
		"", "0", "1", "-5", "null", "true", "false", "a", "ab", "abc", "b", "B", "a\x00", "\x00", "\xff", "\xc3\xa4", "it's", "'", "\\", "\\'", "'a'", "\n",
		strings.Repeat("x", 30), strings.Repeat("y", 31), strings.Repeat("a", 59), strings.Repeat("a", 60), strings.Repeat("'", 60), strings.Repeat("\\", 60),
	}
}

func rightValues() []impl.Value {
	list := []impl.Value{null, yes, no}
	for _, n := range someNumbers() {
		list = append(list, num(n))
	}
	for _, s := range someTexts() {
		list = append(list, word(s))
	}
	return list
}

func wrongValues() []impl.Value {
	return []impl.Value{
		{N: 1}, {N: -1}, {T: "x"}, {N: 1, T: "x"},
		num(impl.MaxInt + 1), num(impl.MinInt - 1), num(math.MaxInt), num(math.MinInt), num(1 << 32),
		{Kind: impl.VaInt, T: "x"}, {Kind: impl.VaInt, N: 5, T: "5"},
		{Kind: impl.VaBool, N: 2}, {Kind: impl.VaBool, N: -1}, {Kind: impl.VaBool, N: math.MinInt}, {Kind: impl.VaBool, T: "x"}, {Kind: impl.VaBool, N: 1, T: "true"},
		{Kind: impl.VaText, N: 1}, {Kind: impl.VaText, N: -1, T: "x"}, word(strings.Repeat("a", 61)), word(strings.Repeat("a", impl.MaxText+1)),
		{Kind: 4}, {Kind: 4, N: 1}, {Kind: 4, T: "x"}, {Kind: -1}, {Kind: -1, N: 1}, {Kind: math.MaxInt}, {Kind: math.MinInt}, {Kind: 1 << 32},
	}
}

func wantValue(t *testing.T, what string, got impl.Value, code int, want impl.Value, wantCode int) {
	t.Helper()
	if got != want || code != wantCode {
		t.Errorf("%.80s = %+v, %d; want %+v, %d", what, got, code, want, wantCode)
	}
}

// tell writes a value whole, so that a failed test names its arguments.
func tell(v impl.Value) string {
	return "{" + strconv.Itoa(v.Kind) + " " + strconv.Itoa(v.N) + " " + strconv.Quote(v.T) + "}"
}

func TestValueOK(t *testing.T) {
	for _, v := range rightValues() {
		if !impl.ValueOK(v) {
			t.Errorf("ValueOK(%s) = false", tell(v))
		}
	}
	for _, v := range wrongValues() {
		if impl.ValueOK(v) {
			t.Errorf("ValueOK(%.80s) = true", tell(v))
		}
	}
}

func TestTruth(t *testing.T) {
	for _, v := range rightValues() {
		want := !slices.Contains([]impl.Value{null, num(0), no, word("")}, v)
		if got, code := impl.Truth(v); got != want || code != impl.OK {
			t.Errorf("Truth(%s) = %v, %d; want %v, 0", tell(v), got, code, want)
		}
	}
	for _, v := range wrongValues() {
		if got, code := impl.Truth(v); got || code != impl.ErrBad {
			t.Errorf("Truth(%.80s) = %v, %d; want false, ErrBad", tell(v), got, code)
		}
	}
}

func TestValueText(t *testing.T) {
	for _, c := range []struct {
		v    impl.Value
		text string
	}{
		{null, "null"}, {yes, "true"}, {no, "false"}, {num(0), "0"}, {num(7), "7"}, {num(-7), "-7"}, {num(100), "100"},
		{num(impl.MaxInt), "2147483647"}, {num(impl.MinInt), "-2147483648"},
		{word(""), ""}, {word("null"), "null"}, {word("it's \\ \x00\xff"), "it's \\ \x00\xff"}, {word(strings.Repeat("q", 60)), strings.Repeat("q", 60)},
	} {
		if got, code := impl.ValueText(c.v); got != c.text || code != impl.OK {
			t.Errorf("ValueText(%s) = %q, %d; want %q, 0", tell(c.v), got, code, c.text)
		}
	}
	for _, v := range wrongValues() {
		if got, code := impl.ValueText(v); got != "" || code != impl.ErrBad {
			t.Errorf("ValueText(%.80s) = %q, %d; want none, ErrBad", tell(v), got, code)
		}
	}
}

func TestKindWord(t *testing.T) {
	for _, v := range rightValues() {
		want := []string{"null", "int", "bool", "text"}[v.Kind]
		if got, code := impl.KindWord(v); got != want || code != impl.OK {
			t.Errorf("KindWord(%s) = %q, %d; want %q, 0", tell(v), got, code, want)
		}
	}
	for _, v := range wrongValues() {
		if got, code := impl.KindWord(v); got != "" || code != impl.ErrBad {
			t.Errorf("KindWord(%.80s) = %q, %d; want none, ErrBad", tell(v), got, code)
		}
	}
}

// orderWanted goes byte by byte itself, so that it does not lean on how the language orders texts.
func orderWanted(a, b impl.Value) int {
	for _, p := range [][2]int{{a.Kind, b.Kind}, {a.N, b.N}} {
		if p[0] < p[1] {
			return -1
		}
		if p[0] > p[1] {
			return 1
		}
	}
	for i := 0; i < len(a.T) && i < len(b.T); i++ {
		if a.T[i] != b.T[i] {
			return map[bool]int{true: -1, false: 1}[a.T[i] < b.T[i]]
		}
	}
	switch {
	case len(a.T) < len(b.T):
		return -1
	case len(a.T) > len(b.T):
		return 1
	}
	return 0
}

func TestOrderValues(t *testing.T) {
	for _, a := range rightValues() {
		for _, b := range rightValues() {
			want := orderWanted(a, b)
			if got, code := impl.OrderValues(a, b); got != want || code != impl.OK {
				t.Errorf("OrderValues(%s, %s) = %d, %d; want %d, 0", tell(a), tell(b), got, code, want)
			}
		}
	}
	for _, bad := range wrongValues() {
		for _, v := range []impl.Value{null, num(1), bad} {
			for _, p := range [][2]impl.Value{{bad, v}, {v, bad}} {
				if got, code := impl.OrderValues(p[0], p[1]); got != 0 || code != impl.ErrBad {
					t.Errorf("OrderValues(%.40s, %.40s) = %d, %d; want 0, ErrBad", tell(p[0]), tell(p[1]), got, code)
				}
			}
		}
	}
}

func TestUnary(t *testing.T) {
	for _, v := range rightValues() {
		truth, _ := impl.Truth(v)
		got, code := impl.Unary("!", v)
		wantValue(t, "!"+tell(v), got, code, truthValue(!truth), impl.OK)
		got, code = impl.Unary("-", v)
		switch {
		case v.Kind != impl.VaInt:
			wantValue(t, "-"+tell(v), got, code, null, impl.ErrType)
		case v.N == impl.MinInt:
			wantValue(t, "-"+tell(v), got, code, null, impl.ErrRange)
		default:
			wantValue(t, "-"+tell(v), got, code, num(-v.N), impl.OK)
		}
	}
}

func otherUnaryOps() []string {
	return []string{"", "+", "*", "!!", "--", " !", "! ", "==", "not", "\x00", strings.Repeat("!", impl.MaxText)}
}

func TestUnaryOfWrongInputs(t *testing.T) {
	for _, op := range otherUnaryOps() {
		for _, v := range []impl.Value{null, num(impl.MinInt), yes, word("a")} {
			got, code := impl.Unary(op, v)
			wantValue(t, op+tell(v), got, code, null, impl.ErrForm)
		}
	}
	for _, op := range append(otherUnaryOps(), "!", "-") {
		for _, v := range wrongValues() {
			got, code := impl.Unary(op, v)
			wantValue(t, op+tell(v), got, code, null, impl.ErrBad)
		}
	}
	long := strings.Repeat("-", impl.MaxText+1)
	for _, v := range append(wrongValues(), num(1)) {
		got, code := impl.Unary(long, v)
		wantValue(t, "long "+tell(v), got, code, null, impl.ErrLong)
	}
}

// intsWanted reckons with numbers of any size, so that bounds are held against what the result truly is.
func intsWanted(op string, a, b int) (impl.Value, int) {
	x, y, z := big.NewInt(int64(a)), big.NewInt(int64(b)), new(big.Int)
	switch op {
	case "<":
		return truthValue(x.Cmp(y) < 0), impl.OK
	case "+":
		z.Add(x, y)
	case "-":
		z.Sub(x, y)
	case "*":
		z.Mul(x, y)
	default:
		if b == 0 {
			return null, impl.ErrRange
		}
		left := new(big.Int)
		z.QuoRem(x, y, left)
		if op == "/" && left.Sign() != 0 {
			return null, impl.ErrRange
		}
		if op == "%" {
			z = left
		}
	}
	if z.Cmp(big.NewInt(-2147483648)) < 0 || z.Cmp(big.NewInt(2147483647)) > 0 {
		return null, impl.ErrRange
	}
	return num(int(z.Int64())), impl.OK
}

func binaryWanted(op string, a, b impl.Value) (impl.Value, int) {
	texts := a.Kind == impl.VaText && b.Kind == impl.VaText
	switch {
	case op == "==":
		return truthValue(orderWanted(a, b) == 0), impl.OK
	case texts && op == "<":
		return truthValue(orderWanted(a, b) < 0), impl.OK
	case texts && op == "+":
		if len(a.T)+len(b.T) > 60 {
			return null, impl.ErrSize
		}
		return word(a.T + b.T), impl.OK
	case a.Kind != impl.VaInt || b.Kind != impl.VaInt:
		return null, impl.ErrType
	}
	return intsWanted(op, a.N, b.N)
}

func TestBinary(t *testing.T) {
	for _, op := range []string{"==", "<", "+", "-", "*", "/", "%"} {
		for _, a := range rightValues() {
			for _, b := range rightValues() {
				got, code := impl.Binary(op, a, b)
				want, wantCode := binaryWanted(op, a, b)
				wantValue(t, tell(a)+op+tell(b), got, code, want, wantCode)
			}
		}
	}
}

func TestQuotientsAndWhatIsLeft(t *testing.T) {
	for _, c := range []struct {
		op   string
		a, b int
		want impl.Value
		code int
	}{
		{"/", 6, 3, num(2), 0}, {"/", -6, 3, num(-2), 0}, {"/", 6, -3, num(-2), 0}, {"/", -6, -3, num(2), 0},
		{"/", 0, 7, num(0), 0}, {"/", 0, -7, num(0), 0}, {"/", 7, 1, num(7), 0}, {"/", 7, -1, num(-7), 0},
		{"/", 7, 2, null, impl.ErrRange}, {"/", -7, 2, null, impl.ErrRange}, {"/", 7, -2, null, impl.ErrRange}, {"/", -7, -2, null, impl.ErrRange},
		{"/", 1, 2, null, impl.ErrRange}, {"/", 1, impl.MaxInt, null, impl.ErrRange}, {"/", -1, impl.MinInt, null, impl.ErrRange},
		{"/", impl.MinInt, 2, num(-1073741824), 0}, {"/", impl.MinInt, 3, null, impl.ErrRange}, {"/", impl.MinInt, -1, null, impl.ErrRange},
		{"/", impl.MinInt, 1, num(impl.MinInt), 0}, {"/", impl.MaxInt, -1, num(-impl.MaxInt), 0},
		{"/", 0, 0, null, impl.ErrRange}, {"/", 5, 0, null, impl.ErrRange}, {"%", 0, 0, null, impl.ErrRange}, {"%", -5, 0, null, impl.ErrRange},
		{"%", 7, 3, num(1), 0}, {"%", -7, 3, num(-1), 0}, {"%", 7, -3, num(1), 0}, {"%", -7, -3, num(-1), 0},
		{"%", impl.MinInt, -1, num(0), 0}, {"%", impl.MinInt, impl.MaxInt, num(-1), 0}, {"%", 3, 7, num(3), 0}, {"%", -3, impl.MinInt, num(-3), 0},
	} {
		got, code := impl.Binary(c.op, num(c.a), num(c.b))
		wantValue(t, strconv.Itoa(c.a)+c.op+strconv.Itoa(c.b), got, code, c.want, c.code)
	}
}

// Some 3600 small quotients, with a rule of their own: it is whole if the quotient times the divisor is there again.
func TestSmallQuotients(t *testing.T) {
	for a := -30; a <= 30; a++ {
		for b := -30; b <= 30; b++ {
			want, wantCode := null, impl.ErrRange
			for q := -30; q <= 30; q++ {
				if b != 0 && q*b == a {
					want, wantCode = num(q), impl.OK
				}
			}
			got, code := impl.Binary("/", num(a), num(b))
			wantValue(t, strconv.Itoa(a)+"/"+strconv.Itoa(b), got, code, want, wantCode)
		}
	}
}

func TestBinaryOfWrongInputs(t *testing.T) {
	others := []string{"", "=", "!=", "&&", "||", ">", "<=", "!", "+ ", " +", "++", "**", "//", "===", "\x00", "plus", strings.Repeat("+", impl.MaxText)}
	for _, op := range others {
		for _, p := range [][2]impl.Value{{num(1), num(0)}, {word("a"), word("b")}, {null, yes}, {num(1), word("a")}} {
			got, code := impl.Binary(op, p[0], p[1])
			wantValue(t, tell(p[0])+op+tell(p[1]), got, code, null, impl.ErrForm)
		}
	}
	for _, op := range append(others, "==", "<", "+", "-", "*", "/", "%") {
		for _, bad := range wrongValues() {
			for _, p := range [][2]impl.Value{{bad, num(1)}, {num(1), bad}, {bad, bad}, {word("a"), bad}} {
				got, code := impl.Binary(op, p[0], p[1])
				wantValue(t, op+tell(p[0])+tell(p[1]), got, code, null, impl.ErrBad)
			}
		}
	}
	long := strings.Repeat("+", impl.MaxText+1)
	for _, p := range [][2]impl.Value{{num(1), num(1)}, {{Kind: 9}, num(1)}, {num(1), {Kind: 9}}} {
		got, code := impl.Binary(long, p[0], p[1])
		wantValue(t, "long op", got, code, null, impl.ErrLong)
	}
}
