package tests

import (
	"strings"
	"testing"

	"loop.example/g00370/impl"
)

func builtinCounts() map[string]int {
	return map[string]int{"len": 1, "str": 1, "abs": 1, "at": 2, "max": 2, "min": 2, "cut": 3}
}

func otherBuiltins() []string {
	return []string{"", "Len", "len ", " len", "lens", "le", "sub", "path", "null", "len\x00", "\xff", strings.Repeat("len", 100), strings.Repeat("x", impl.MaxText)}
}

func TestBuiltinCount(t *testing.T) {
	for name, want := range builtinCounts() {
		if got, code := impl.BuiltinCount(name); got != want || code != impl.OK {
			t.Errorf("BuiltinCount(%q) = %d, %d; want %d, 0", name, got, code, want)
		}
	}
	for _, name := range otherBuiltins() {
		if got, code := impl.BuiltinCount(name); got != 0 || code != impl.ErrNone {
			t.Errorf("BuiltinCount(%.20q) = %d, %d; want 0, ErrNone", name, got, code)
		}
	}
	if got, code := impl.BuiltinCount(strings.Repeat("x", impl.MaxText+1)); got != 0 || code != impl.ErrLong {
		t.Errorf("BuiltinCount of a long name = %d, %d; want 0, ErrLong", got, code)
	}
}

func TestBuiltin(t *testing.T) {
	full := strings.Repeat("ab", 30)
	for _, c := range []struct {
		name string
		args []impl.Value
		want impl.Value
		code int
	}{
		{"len", []impl.Value{word("")}, num(0), 0},
		{"len", []impl.Value{word("abc")}, num(3), 0},
		{"len", []impl.Value{word("\xc3\xa4")}, num(2), 0},
		{"len", []impl.Value{word(full)}, num(60), 0},
		{"abs", []impl.Value{num(0)}, num(0), 0},
		{"abs", []impl.Value{num(5)}, num(5), 0},
		{"abs", []impl.Value{num(-5)}, num(5), 0},
		{"abs", []impl.Value{num(impl.MaxInt)}, num(impl.MaxInt), 0},
		{"abs", []impl.Value{num(-impl.MaxInt)}, num(impl.MaxInt), 0},
		{"abs", []impl.Value{num(impl.MinInt)}, null, impl.ErrRange},
		{"at", []impl.Value{word("abc"), num(0)}, num(97), 0},
		{"at", []impl.Value{word("abc"), num(2)}, num(99), 0},
		{"at", []impl.Value{word("a\x00\xff"), num(1)}, num(0), 0},
		{"at", []impl.Value{word("a\x00\xff"), num(2)}, num(255), 0},
		{"at", []impl.Value{word(full), num(59)}, num(98), 0},
		{"at", []impl.Value{word(full), num(60)}, null, impl.ErrRange},
		{"at", []impl.Value{word("abc"), num(3)}, null, impl.ErrRange},
		{"at", []impl.Value{word("abc"), num(-1)}, null, impl.ErrRange},
		{"at", []impl.Value{word("abc"), num(impl.MinInt)}, null, impl.ErrRange},
		{"at", []impl.Value{word("abc"), num(impl.MaxInt)}, null, impl.ErrRange},
		{"at", []impl.Value{word(""), num(0)}, null, impl.ErrRange},
		{"max", []impl.Value{num(-3), num(2)}, num(2), 0},
		{"max", []impl.Value{num(2), num(-3)}, num(2), 0},
		{"max", []impl.Value{num(impl.MinInt), num(impl.MaxInt)}, num(impl.MaxInt), 0},
		{"max", []impl.Value{num(4), num(4)}, num(4), 0},
		{"min", []impl.Value{num(-3), num(2)}, num(-3), 0},
		{"min", []impl.Value{num(2), num(-3)}, num(-3), 0},
		{"min", []impl.Value{num(impl.MinInt), num(impl.MaxInt)}, num(impl.MinInt), 0},
	} {
		got, code := impl.Builtin(c.name, c.args)
		wantValue(t, c.name, got, code, c.want, c.code)
	}
}

func TestBuiltinStrIsHowAValueIsWritten(t *testing.T) {
	for _, v := range rightValues() {
		text, _ := impl.ValueText(v)
		got, code := impl.Builtin("str", []impl.Value{v})
		wantValue(t, "str "+tell(v), got, code, word(text), impl.OK)
	}
}

func TestBuiltinCut(t *testing.T) {
	for _, s := range []string{"", "a", "abcd", strings.Repeat("ab", 30)} {
		for _, from := range []int{impl.MinInt, -1, 0, 1, 2, 3, 4, 5, 59, 60, 61, impl.MaxInt} {
			for _, to := range []int{impl.MinInt, -1, 0, 1, 2, 3, 4, 5, 59, 60, 61, impl.MaxInt} {
				want, wantCode := null, impl.ErrRange
				if from >= 0 && from <= len(s) && to >= 0 && to <= len(s) && to >= from {
					want, wantCode = word(s[from:to]), impl.OK
				}
				got, code := impl.Builtin("cut", []impl.Value{word(s), num(from), num(to)})
				wantValue(t, "cut "+s+tell(num(from))+tell(num(to)), got, code, want, wantCode)
			}
		}
	}
}

// The letters stand for what the document writes in the builtins' arguments.
func TestBuiltinKindsOfArguments(t *testing.T) {
	kinds := []impl.Value{null, num(0), yes, word("abc")}
	for name, takes := range map[string]string{"len": "t", "abs": "n", "at": "tn", "max": "nn", "min": "nn", "cut": "tnn"} {
		for place := range len(takes) {
			for _, v := range kinds {
				var args []impl.Value
				for i := range len(takes) {
					args = append(args, map[byte]impl.Value{'t': word("abc"), 'n': num(0)}[takes[i]])
				}
				fits := args[place].Kind == v.Kind
				args[place] = v
				got, code := impl.Builtin(name, args)
				if fits && code != impl.OK {
					t.Errorf("%s%v = %+v, %d; want no code", name, args, got, code)
				}
				if !fits {
					wantValue(t, name, got, code, null, impl.ErrType)
				}
			}
		}
	}
}

func TestBuiltinLooksAtKindsAheadOfBounds(t *testing.T) {
	for _, c := range []struct {
		name string
		args []impl.Value
	}{
		{"at", []impl.Value{num(1), num(-1)}},
		{"at", []impl.Value{word(""), null}},
		{"cut", []impl.Value{word("abc"), num(9), yes}},
		{"cut", []impl.Value{word("abc"), word("x"), num(9)}},
		{"cut", []impl.Value{null, num(2), num(1)}},
	} {
		got, code := impl.Builtin(c.name, c.args)
		wantValue(t, c.name, got, code, null, impl.ErrType)
	}
}

func TestBuiltinOrderOfFaults(t *testing.T) {
	many := make([]impl.Value, impl.MaxList)
	bad := make([]impl.Value, impl.MaxList)
	bad[impl.MaxList-1] = impl.Value{Kind: 7}
	tooMany := make([]impl.Value, impl.MaxList+1)
	tooMany[0] = impl.Value{Kind: 7}
	longName := strings.Repeat("x", impl.MaxText+1)
	for i, c := range []struct {
		name string
		args []impl.Value
		code int
	}{
		{"len", tooMany, impl.ErrLong}, {"none", tooMany, impl.ErrLong}, {longName, nil, impl.ErrLong}, {longName, bad, impl.ErrLong}, {longName, tooMany, impl.ErrLong},
		{"len", bad, impl.ErrBad}, {"none", bad, impl.ErrBad}, {"max", []impl.Value{yes, {Kind: 7}}, impl.ErrBad}, {"at", []impl.Value{word("a"), num(impl.MaxInt + 1)}, impl.ErrBad},
		{"len", many, impl.ErrCount}, {"none", many, impl.ErrNone}, {"none", nil, impl.ErrNone}, {"none", []impl.Value{word("a")}, impl.ErrNone},
		{"abs", []impl.Value{yes, yes}, impl.ErrCount}, {"cut", []impl.Value{num(1), num(1)}, impl.ErrCount},
	} {
		got, code := impl.Builtin(c.name, c.args)
		if got != null || code != c.code {
			t.Errorf("Builtin, row %d: %+v, %d; want zero, %d", i, got, code, c.code)
		}
	}
	for _, v := range wrongValues() {
		got, code := impl.Builtin("str", []impl.Value{v})
		wantValue(t, "str "+tell(v), got, code, null, impl.ErrBad)
	}
	for _, name := range otherBuiltins() {
		got, code := impl.Builtin(name, []impl.Value{word("a")})
		wantValue(t, name, got, code, null, impl.ErrNone)
	}
}

func TestBuiltinOtherCounts(t *testing.T) {
	for name, count := range builtinCounts() {
		for n := range 6 {
			if n == count {
				continue
			}
			got, code := impl.Builtin(name, make([]impl.Value, n))
			wantValue(t, name, got, code, null, impl.ErrCount)
		}
		for _, empty := range [][]impl.Value{nil, {}} {
			got, code := impl.Builtin(name, empty)
			wantValue(t, name, got, code, null, impl.ErrCount)
		}
	}
}
