package tests

import (
	"fmt"
	"math/rand"
	"slices"
	"strings"
	"sync"
	"testing"

	"loop.example/g00370/impl"
)

// valueCalls are calls of chapters 1 and 2, ordinary and wrong ones; each tells its whole answer.
func valueCalls() []func() string {
	var calls []func() string
	texts := append(someTexts(), "ok", "shut", "x y", "==", "<", "+", "-", "*", "/", "%", "!", "len", "str", "abs", "at", "max", "min", "cut", "'it\\'s'", "'a\\'", "-0", "12", "99999999999", strings.Repeat("z", impl.MaxText+1))
	values := append(rightValues(), wrongValues()...)
	for _, s := range texts {
		calls = append(calls,
			func() string { return fmt.Sprint(impl.NameOK(s), impl.CodeOf(s)) },
			func() string { return fmt.Sprint(impl.ReadValue(s)) },
			func() string { return fmt.Sprint(impl.BuiltinCount(s)) })
	}
	for _, n := range append(someNumbers(), 8, 9, 10, 11, 13, 14, 15, 16, 17, 18, 19, 20) {
		calls = append(calls, func() string { return impl.CodeWord(n) })
	}
	for i, v := range values {
		w, u := values[(i*7+3)%len(values)], values[(i*11+5)%len(values)]
		calls = append(calls,
			func() string { return fmt.Sprint(impl.ValueOK(v)) },
			func() string { return fmt.Sprint(impl.Truth(v)) },
			func() string { return fmt.Sprint(impl.ValueText(v)) },
			func() string { return fmt.Sprint(impl.KindWord(v)) },
			func() string { return fmt.Sprint(impl.OrderValues(v, w)) })
		for _, s := range texts {
			calls = append(calls,
				func() string { return fmt.Sprint(impl.Unary(s, v)) },
				func() string { return fmt.Sprint(impl.Binary(s, v, w)) },
				func() string { return fmt.Sprint(impl.Builtin(s, []impl.Value{v, w, u}[:1+i%3])) })
		}
	}
	return calls
}

// tokenCalls are calls of chapter 3, ordinary and wrong ones.
func tokenCalls() []func() string {
	var calls []func() string
	tokens := append(rightTokens(), wrongTokens()...)
	for _, s := range append(append(plainTexts(), otherTexts()...), "let x = 'it\\'s';", "a #", "'a\\'", "12 01", "===", strings.Repeat(";", 300), strings.Repeat(";", 301), strings.Repeat(" ", 601), strings.Repeat("z", impl.MaxText+1)) {
		calls = append(calls,
			func() string { return fmt.Sprint(impl.LexSource(s)) },
			func() string { return fmt.Sprint(impl.WordOK(s)) },
			func() string { return fmt.Sprint(impl.QuoteText(s)) })
	}
	for i, x := range tokens {
		list := tokens[max(0, i-3) : i+1]
		calls = append(calls,
			func() string { return fmt.Sprint(impl.TokenText(x)) },
			func() string { return fmt.Sprint(impl.JoinTokens(list)) },
			func() string { return fmt.Sprint(impl.JoinTokens(slices.Repeat(list, i))) })
	}
	return calls
}

func allCalls() []func() string {
	return append(valueCalls(), tokenCalls()...)
}

func answersOf(calls []func() string) []string {
	answers := make([]string, len(calls))
	for i, call := range calls {
		answers[i] = call()
	}
	return answers
}

func TestAlikeArgumentsHaveAlikeAnswers(t *testing.T) {
	calls := allCalls()
	first := answersOf(calls)
	order := rand.New(rand.NewSource(1)).Perm(len(calls))
	for _, k := range order {
		if got := calls[k](); got != first[k] {
			t.Fatalf("call %d: %.80s behind other calls, %.80s ahead of them", k, got, first[k])
		}
	}
	slices.Reverse(calls)
	again := answersOf(calls)
	slices.Reverse(again)
	if !slices.Equal(first, again) {
		t.Error("the answers hang on what was called ahead")
	}
}

func TestCallsBesideEachOtherAnswerAlike(t *testing.T) {
	first := answersOf(allCalls())
	var group sync.WaitGroup
	answers := make([][]string, 4)
	for i := range answers {
		group.Go(func() { answers[i] = answersOf(allCalls()) })
	}
	group.Wait()
	for _, a := range answers {
		if !slices.Equal(first, a) {
			t.Error("the answers hang on calls beside them")
		}
	}
}

func TestBuiltinLeavesItsArguments(t *testing.T) {
	for name, count := range builtinCounts() {
		for _, v := range append(rightValues(), wrongValues()...) {
			for _, n := range []int{0, 1, count, 4} {
				room := []impl.Value{v, num(1), num(2), word("d"), word("behind"), num(99)}
				before := slices.Clone(room)
				impl.Builtin(name, room[:n])
				if !slices.Equal(room, before) {
					t.Errorf("%s of %d arguments wrote into them: %+v, was %+v", name, n, room, before)
				}
			}
		}
	}
}

// What was answered stays as it is, whatever becomes of the list that was handed in.
func TestAnswersOutliveTheirArguments(t *testing.T) {
	args := []impl.Value{word("abcd"), num(1), num(3)}
	got, code := impl.Builtin("cut", args)
	clear(args)
	wantValue(t, "cut", got, code, word("bc"), impl.OK)
}

func TestJoinTokensLeavesItsList(t *testing.T) {
	for _, x := range append(rightTokens(), wrongTokens()...) {
		for n := range 4 {
			room := []impl.Token{tok(impl.ToText, 7, "it's"), x, tok(impl.ToName, -1, "a"), tok(impl.ToSign, 3, "behind"), tok(impl.ToInt, 9, "1")}
			before := slices.Clone(room)
			impl.JoinTokens(room[:n])
			if !slices.Equal(room, before) {
				t.Errorf("JoinTokens of %d tokens wrote into them: %s, was %s", n, brief(room), brief(before))
			}
		}
	}
}

// A list that was answered is its caller's own: what is written into it, or behind its end, is not to be seen in another answer.
func TestLexedListsShareNothing(t *testing.T) {
	const source = "let x = 'it\\'s' == y;"
	first, _, _ := impl.LexSource(source)
	want := slices.Clone(first)
	second, _, _ := impl.LexSource(source)
	clear(first[:cap(first)])
	if !slices.Equal(second, want) {
		t.Errorf("the second list is %s, want %s", brief(second), brief(want))
	}
	wantLex(t, source, want, 0, impl.OK)
}

func FuzzValues(f *testing.F) {
	f.Add("+", 1, 2, "", 3, 0, "x")
	f.Add("'a\\'b'", 3, 0, "a", 3, 0, "b")
	f.Add("-2147483648", 1, impl.MinInt, "", 1, -1, "")
	f.Fuzz(func(t *testing.T, s string, k1, n1 int, t1 string, k2, n2 int, t2 string) {
		a, b := impl.Value{Kind: k1, N: n1, T: t1}, impl.Value{Kind: k2, N: n2, T: t2}
		v, code := impl.Binary(s, a, b)
		checkAnswer(t, v, code)
		v, code = impl.Unary(s, a)
		checkAnswer(t, v, code)
		v, code = impl.Builtin(s, []impl.Value{a, b})
		checkAnswer(t, v, code)
		v, code = impl.ReadValue(s)
		checkAnswer(t, v, code)
		if text, _ := impl.ValueText(v); code == impl.OK && v.Kind != impl.VaText && text != s || code == impl.OK && v.Kind == impl.VaText && quoted(text) != s {
			t.Errorf("%q is read as %+v, which is not written so", s, v)
		}
	})
}

func checkAnswer(t *testing.T, v impl.Value, code int) {
	t.Helper()
	if code == impl.OK && !impl.ValueOK(v) || code != impl.OK && v != null || impl.CodeWord(code) == "" {
		t.Errorf("the answer %+v, %d is not right", v, code)
	}
}
