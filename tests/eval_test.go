package tests

import (
	"fmt"
	"math"
	"strconv"
	"strings"
	"testing"

	"loop.example/g00370/impl"
)

func TestMaxStepsIsTheDocuments(t *testing.T) {
	if impl.MaxSteps != 3000 {
		t.Errorf("MaxSteps is %d", impl.MaxSteps)
	}
}

// outcomeTold is how a machine of that outcome would be told.
func outcomeTold(o impl.Outcome) string {
	text, _ := outcomeWanted(impl.Machine{State: o.State, Value: o.Value})
	return text
}

// wantSourceSteps holds the outcome of a source of the path /p, and how many steps it takes, against what is told by hand; with each lesser number of steps it does not end.
func wantSourceSteps(t *testing.T, s, told string, steps int) {
	t.Helper()
	o, code := wantSourceMeaning(t, s, "/p")
	if outcomeTold(o) != told || o.Steps != steps || code != impl.OK {
		t.Errorf("%q means %s in %d steps, %d; want %s in %d", s, outcomeTold(o), o.Steps, code, told, steps)
	}
	tree := parsed(t, s)
	for less := range steps {
		wantEvalTree(t, tree, "/p", less, impl.Outcome{}, impl.ErrFuel)
	}
}

func TestStepsOfExpressions(t *testing.T) {
	for _, c := range []struct {
		source, told string
		steps        int
	}{
		{"", "done null", 0}, {"1;", "done null", 2}, {"path;", "done null", 2}, {"return 1;", "done 1", 2}, {"return path;", "done /p", 2}, {"return 'a';", "done a", 2}, {"return true;", "done true", 2}, {"return false;", "done false", 2}, {"return null;", "done null", 2}, {"return ((1));", "done 1", 2},
		{"return -1;", "done -1", 3}, {"return !1;", "done false", 3}, {"return - - -1;", "done -1", 5}, {"return 1 + 2;", "done 3", 4}, {"return 1 + 2 * 3;", "done 7", 6}, {"return (1 + 2) * 3;", "done 9", 6}, {"return -(1 + 2) < 3 == true;", "done true", 9},
		{"return len(path);", "done 2", 3}, {"return max(1, 2);", "done 2", 4}, {"return cut(path, 0, 1);", "done /", 5}, {"return len(str(len(path)));", "done 1", 5},
		// What is thrown by one kid passes over those behind it.
		{"return 1 / 0;", "threw range", 4}, {"return -'a';", "threw type", 3}, {"return 1 / 0 + 2;", "threw range", 5}, {"return 2 + 1 / 0;", "threw range", 6}, {"return 1 / 0 + -'a';", "threw range", 5}, {"return -'a' + 1 / 0;", "threw type", 4}, {"return max(1 / 0, 2);", "threw range", 5}, {"return max(1, -'a');", "threw type", 5}, {"return cut(path, 1 / 0, -'a');", "threw range", 6}, {"return max(path, 1);", "threw type", 4}, {"return at(path, 2);", "threw range", 4}, {"return -(1 / 0);", "threw range", 5},
	} {
		wantSourceSteps(t, c.source, c.told, c.steps)
	}
}

// The second kid is come to only if the first one's truth does not decide; the value is that of the last one that was.
func TestStepsOfAndAndOr(t *testing.T) {
	for _, c := range []struct {
		source, told string
		steps        int
	}{
		{"return 0 && 1;", "done 0", 3}, {"return '' && 1;", "done ", 3}, {"return null && 1;", "done null", 3}, {"return false && 1;", "done false", 3}, {"return 1 && 0;", "done 0", 4}, {"return 1 && '';", "done ", 4}, {"return true && 'x';", "done x", 4}, {"return -1 && null;", "done null", 5},
		{"return 1 || 0;", "done 1", 3}, {"return 'x' || 0;", "done x", 3}, {"return true || 0;", "done true", 3}, {"return -1 || 0;", "done -1", 4}, {"return 0 || 1;", "done 1", 4}, {"return '' || false;", "done false", 4}, {"return null || '';", "done ", 4}, {"return false || 0;", "done 0", 4},
		{"return 0 && 1 && 2;", "done 0", 4}, {"return 1 && 0 && 2;", "done 0", 5}, {"return 1 && 2 && 3;", "done 3", 6}, {"return 1 || 2 || 3;", "done 1", 4}, {"return 0 || 2 || 3;", "done 2", 5}, {"return 0 || '' || 3;", "done 3", 6}, {"return 0 && 1 || 2;", "done 2", 5}, {"return 1 && 2 || 3;", "done 2", 5}, {"return 1 || 2 && 3;", "done 1", 3}, {"return 0 || 2 && 3;", "done 3", 6}, {"return 0 || 0 && 3;", "done 0", 5}, {"return 1 && (0 || 3);", "done 3", 6}, {"return 0 && (0 || 3);", "done 0", 3},
		{"return 0 && 1 / 0;", "done 0", 3}, {"return 1 || 1 / 0;", "done 1", 3}, {"return 1 && 1 / 0;", "threw range", 6}, {"return 0 || 1 / 0;", "threw range", 6}, {"return 1 / 0 && 1;", "threw range", 5}, {"return 1 / 0 || 1;", "threw range", 5}, {"return !(0 && 1);", "done true", 4}, {"return (1 && 2) + (3 || 4);", "done 5", 7},
		{"function f() { throw 1; } return 0 && f();", "done 0", 3}, {"function f() { throw 1; } return 1 && f();", "threw 1", 7}, {"function f() { } return f() && 2;", "done null", 4}, {"function f() { } return f() || 2;", "done 2", 5},
	} {
		wantSourceSteps(t, c.source, c.told, c.steps)
	}
	for _, a := range rightValues()[:20] {
		for _, b := range []impl.Value{null, num(0), num(5), yes, no, word(""), word("x")} {
			wantEither(t, a, b)
		}
	}
}

// wantEither takes values that a source can have; numbers below 0 are made of a sign.
func wantEither(t *testing.T, a, b impl.Value) {
	t.Helper()
	writtenA, writtenB := valueWritten(a), valueWritten(b)
	if a.Kind == impl.VaText && !plainBytes(a.T) || a.N == impl.MinInt {
		return
	}
	steps := 2
	if a.N < 0 && a.Kind == impl.VaInt {
		steps++
	}
	and, or := impl.Outcome{State: impl.MaDone, Value: a, Steps: steps + 1}, impl.Outcome{State: impl.MaDone, Value: b, Steps: steps + 2}
	if trueWanted(a) {
		and.Value, or.Value, and.Steps, or.Steps = b, a, steps+2, steps+1
	}
	for sign, want := range map[string]impl.Outcome{"&&": and, "||": or} {
		got, code := impl.EvalSource("return "+writtenA+" "+sign+" "+writtenB+";", "")
		wantEval(t, writtenA+sign+writtenB, got, code, want, impl.OK)
	}
}

func TestStepsOfStatements(t *testing.T) {
	for _, c := range []struct {
		source, told string
		steps        int
	}{
		{"{ }", "done null", 1}, {"{ { } }", "done null", 2}, {"{ } { }", "done null", 2}, {"{ 1; }", "done null", 3}, {"{ return 1; } return 2;", "done 1", 3}, {"{ { throw 1; } 2; } 3;", "threw 1", 4},
		{"let x = 1;", "done null", 2}, {"path = 1;", "done null", 2}, {"let x = 1; x = x + 1; return x;", "done 2", 8}, {"let x = 1 / 0; return x;", "threw range", 4}, {"path = -path; return path;", "threw type", 3},
		{"return 1; return 2;", "done 1", 2}, {"throw 1; return 2;", "threw 1", 2}, {"throw path;", "threw /p", 2}, {"throw 1 / 0;", "threw range", 4}, {"1; 2; 3;", "done null", 6},
		{"if (1) { }", "done null", 3}, {"if (0) { }", "done null", 2}, {"if (0) { 1; }", "done null", 2}, {"if (1) { } else { }", "done null", 3}, {"if (0) { } else { }", "done null", 3}, {"if (1) { 2; } else { 3; 4; }", "done null", 5}, {"if (0) { 2; } else { 3; 4; }", "done null", 7}, {"if (1) { return 2; } return 3;", "done 2", 5}, {"if ('') { return 2; } return 3;", "done 3", 4}, {"if (null) { return 2; } else { return 4; } return 3;", "done 4", 5}, {"if (1 / 0) { return 2; } else { return 4; }", "threw range", 4}, {"if (0) { } else { if (1) { return 5; } }", "done 5", 8},
		// One step of the while, then one ahead of each time that its expression is come to.
		{"while (0) { }", "done null", 3}, {"while (0) { 1; }", "done null", 3}, {"while (0 && 1) { }", "done null", 4}, {"let x = 1; while (x) { x = 0; }", "done null", 2 + 1 + 2*2 + 3}, {"let x = 2; while (x) { x = x - 1; } return x;", "done 0", 2 + 1 + 3*2 + 2*5 + 2}, {"let x = 0; while (x < 30) { x = x + 1; } return x;", "done 30", 2 + 1 + 31*4 + 30*5 + 2}, {"while (1) { return 2; }", "done 2", 6}, {"while (1) { throw 2; }", "threw 2", 6}, {"while (1 / 0) { }", "threw range", 5}, {"let x = 1; while (6 / x) { x = x + 1; } return x;", "threw range", 2 + 1 + 4*4 + 3*5}, {"while (1) { while (1) { return 2; } return 3; }", "done 2", 10}, {"let x = 1; while (x) { while (0) { } x = 0; }", "done null", 2 + 1 + 2*2 + 1 + 3 + 2},
	} {
		wantSourceSteps(t, c.source, c.told, c.steps)
	}
}

func TestStepsOfTries(t *testing.T) {
	for _, c := range []struct {
		source, told string
		steps        int
	}{
		{"try { } catch (e) { }", "done null", 2}, {"try { 1; } catch (e) { 2; }", "done null", 4}, {"try { throw 1; } catch (e) { }", "done null", 5}, {"try { throw 1; } catch (e) { return e; }", "done 1", 7}, {"try { throw 1; 2; 3; } catch (e) { return e; } 4;", "done 1", 7}, {"try { return 1; } catch (e) { return 2; } return 3;", "done 1", 4}, {"try { 1 / 0; } catch (e) { return e; }", "done range", 9}, {"try { return -path; } catch (e) { return e; }", "done type", 8}, {"try { return path + cut(path, 0, 3); } catch (e) { return e; }", "done range", 12}, {"try { throw null; } catch (e) { return e; }", "done null", 7},
		{"try { throw 1; } catch (e) { throw 2; }", "threw 2", 7}, {"try { throw 1; } catch (e) { 1 / 0; }", "threw range", 9}, {"try { try { throw 1; } catch (a) { throw a + 1; } } catch (b) { return b; }", "done 2", 2 + 4 + 5 + 3}, {"try { try { throw 1; } catch (a) { } throw 2; } catch (b) { return b; }", "done 2", 2 + 5 + 2 + 3}, {"try { try { 1; } catch (a) { } throw 2; } catch (b) { return b; }", "done 2", 2 + 4 + 2 + 3}, {"try { throw 1; } catch (a) { try { throw 2; } catch (b) { return a + b; } }", "done 3", 4 + 1 + 4 + 5},
		{"let x = 0; while (x < 2) { try { x = x + 1; throw x; } catch (e) { path = e; } } return path;", "done 2", 2 + 1 + 3*4 + 2*(1+2+4+2+3) + 2}, {"try { while (1) { throw 1; } } catch (e) { return e; }", "done 1", 2 + 6 + 3}, {"try { if (1) { { throw 1; } } } catch (e) { return e; }", "done 1", 2 + 6 + 3}, {"try { throw 1; } catch (e) { { e = 2; } return e; }", "done 2", 10},
	} {
		wantSourceSteps(t, c.source, c.told, c.steps)
	}
}

// A function is not come to where it stands. A call comes to its arguments, then to the function's block.
func TestStepsOfCalls(t *testing.T) {
	for _, c := range []struct {
		source, told string
		steps        int
	}{
		{"function f() { }", "done null", 0}, {"function f() { throw 1; } function g() { return f(); }", "done null", 0}, {"function f() { } 1; function g() { } 2;", "done null", 4}, {"function f() { } return f();", "done null", 3}, {"return f(); function f() { }", "done null", 3}, {"function f() { return 1; } return f();", "done 1", 5}, {"function f() { 1; } return f();", "done null", 5}, {"function f() { return 1; return 2; } return f();", "done 1", 5}, {"function f(a) { } return f(1);", "done null", 4}, {"function f(a, b, c, d) { return d; } return f(1, 2, 3, 4);", "done 4", 9}, {"function f(a, b) { return a - b; } return f(1 + 2, len(path));", "done 1", 2 + 3 + 2 + 5},
		{"function f(a) { return a; } return f(f(1));", "done 1", 10}, {"function f(a) { return a; } return f(1) + f(2);", "done 3", 2 + 2*5}, {"function f(a) { return g(a) + 1; } function g(a) { return a * 2; } return f(4);", "done 9", 3 + 6 + 5}, {"function f(a) { if (a) { return 1; } } return f(0);", "done null", 6}, {"function f(a) { while (a) { a = a - 1; } } return f(1);", "done null", 3 + 1 + 1 + 2*2 + 5}, {"function f(n) { if (n < 1) { return 0; } return n + f(n - 1); } return f(2);", "done 3", 3 + 2*12 + 8},
		{"function f() { throw 1; } f(); 2;", "threw 1", 5}, {"function f() { return 1 / 0; } return f() + 2;", "threw range", 8}, {"function f() { throw 1; } return 2 + f();", "threw 1", 7}, {"function f(a) { throw a; } return max(f(1), f(2));", "threw 1", 7}, {"function f(a) { throw a; } return f(f(3));", "threw 3", 7}, {"function f(a, b) { return a; } return f(1, 1 / 0);", "threw range", 6}, {"function f(a, b) { return a; } return f(1 / 0, -path);", "threw range", 5}, {"function f() { throw 1; } try { f(); 2; } catch (e) { return e; }", "done 1", 10}, {"function f() { try { throw 1; } catch (e) { return 2; } } return f();", "done 2", 10}, {"function f() { try { return 1; } catch (e) { return 2; } } try { throw f(); } catch (e) { return e; }", "done 1", 2 + 2 + 5 + 3}, {"function f() { { { return 1; } } } return f() + 1;", "done 2", 9},
	} {
		wantSourceSteps(t, c.source, c.told, c.steps)
	}
}

func TestMeaningsOfNames(t *testing.T) {
	for s, told := range map[string]string{
		"let x = 1; { let x = x + 1; path = x; } return path * 10 + x;":                                                     "done 21",
		"let x = 1; { x = 2; let x = 3; x = 4; } return x;":                                                                 "done 2",
		"let x = 1; let n = 0; path = ''; while (n < 3) { path = path + str(x); let x = 5; n = n + 1; } return path;":       "done 111",
		"let n = 0; while (n < 3) { let x = n; n = x + 1; } return n;":                                                      "done 3",
		"let x = 1; if (x) { let x = 2; path = x; } else { let x = 3; path = x; } return path + x;":                         "done 3",
		"try { throw 1; } catch (e) { let e = e + 1; return e; }":                                                           "done 2",
		"let e = 7; { try { throw 1; } catch (e) { e = 2; } return e; }":                                                    "done 7",
		"let e = 7; { try { throw 1; } catch (e) { e = 2; } let e = e + 1; return e; }":                                     "done 8",
		"let e = 7; { try { throw 1; } catch (e) { e = 2; } } return e;":                                                    "done 7",
		"let x = 1; try { x = 2; let x = 3; throw x; } catch (e) { return x * 10 + e; }":                                    "done 23",
		"let x = 1; try { { let x = 9; { let y = 8; throw x; } } } catch (e) { let y = x; return y * 10 + e; }":             "done 19",
		"try { throw 1; } catch (a) { try { throw a + 1; } catch (b) { return a * 10 + b; } }":                              "done 12",
		"function f(a) { let a = a + 1; return a; } return f(1);":                                                           "done 2",
		"function f(a) { { let a = 5; } return a; } return f(1);":                                                           "done 1",
		"function f(a) { a = a + 1; return a; } let a = 5; return f(a) * 10 + a;":                                           "done 65",
		"function f(path) { path = 'x'; return path; } return f(1) + path;":                                                 "done x/p",
		"let f = 1; function f() { return 2; } return f * 10 + f();":                                                        "done 12",
		"let len = 1; return len + len(path);":                                                                              "done 3",
		"function f(n) { let x = n; if (n < 3) { f(n + 1); } return x; } return f(1);":                                      "done 1",
		"function f(n) { let x = n; if (n < 3) { x = f(n + 1); } return x * 10 + n; } return f(1);":                         "done 3321",
		"function f(a, b) { let c = a; a = b; b = c; return a * 10 + b; } return f(1, 2);":                                  "done 21",
		"path = path + path; return path;":                                                                                  "done /p/p",
		"let a = 1; function f(b) { let a = b; try { throw a; } catch (b) { a = b + 1; } return a; } return f(3) * 10 + a;": "done 41",
	} {
		if o, code := wantSourceMeaning(t, s, "/p"); outcomeTold(o) != told || code != impl.OK {
			t.Errorf("%q means %s, %d; want %s", s, outcomeTold(o), code, told)
		}
	}
}

// The sources that the machine is tested with, with each number of steps from none on.
func TestMeaningsOfSources(t *testing.T) {
	t.Parallel()
	for _, c := range outcomes() {
		o, code := wantSourceMeaning(t, c.source, "/p")
		if outcomeTold(o) != c.want || code != impl.OK {
			t.Errorf("%q means %s, %d; want %s", c.source, outcomeTold(o), code, c.want)
		}
		tree := parsed(t, c.source)
		for steps := range o.Steps {
			wantEvalTree(t, tree, "/p", steps, impl.Outcome{}, impl.ErrFuel)
		}
		for steps := o.Steps; steps <= 3000; steps += 1 + steps/5 {
			wantEvalTree(t, tree, "/p", steps, o, impl.OK)
		}
	}
}

// With six functions open, the outmost block being one, a call throws. Builtins are no functions.
func TestHowManyFunctionsMayBeOpen(t *testing.T) {
	for depth := range 9 {
		told := "done " + strconv.Itoa(depth)
		if depth > 4 {
			told = "threw deep"
		}
		s := fmt.Sprintf("function f(n) { if (n < 1) { return 0; } return 1 + f(n - 1); } return f(%d);", depth)
		if o, code := wantSourceMeaning(t, s, ""); outcomeTold(o) != told || code != impl.OK {
			t.Errorf("calls %d deep: %s, %d", depth, outcomeTold(o), code)
		}
	}
	for s, told := range map[string]string{
		"function f(n) { if (n == 5) { return len('xyz') + max(1, abs(-2)); } return f(n + 1); } return f(1);":                      "done 5",
		"function f(n) { if (n == 5) { return len('xyz') + g(); } return f(n + 1); } function g() { return 1; } return f(1);":       "threw deep",
		"function f(n) { return f(0 / (5 - n) + n + 1); } return f(1);":                                                             "threw range",
		"function f(n) { return f(0 / (6 - n) + n + 1); } return f(1);":                                                             "threw deep",
		"function f(n) { if (n == 5) { throw 'x'; } return f(n + 1); } return f(1);":                                                "threw x",
		"function f(n) { try { return f(n + 1); } catch (e) { return e + str(n); } } return f(1);":                                  "done deep5",
		"function f(n) { if (n == 3) { try { return f(n + 1); } catch (e) { return e + str(n); } } return f(n + 1); } return f(1);": "done deep3",
		"function f(n) { return f(n + 1); } try { return f(1); } catch (e) { return e; }":                                           "done deep",
		"function f(n) { try { return f(n + 1); } catch (e) { return g(n); } } function g(n) { return n; } return f(1);":            "done 4",
		"function f(n) { let r = 0; try { r = f(n + 1); } catch (e) { r = n * 10; } return r + n; } return f(1);":                   "done 65",
		"function f(n) { if (n == 0) { return 'x'; } return f(n - 1); } return f(4) + f(4) + f(4);":                                 "done xxx",
		"function f() { return g(); } function g() { return f(); } return f();":                                                     "threw deep",
		"function f() { f(); } try { f(); } catch (a) { try { f(); } catch (b) { return a + b; } }":                                 "done deepdeep",
		// What was thrown across functions leaves as many open as there were at the try.
		"function f(n) { if (n < 1) { throw 'x'; } return f(n - 1); } let i = 0; let s = ''; while (i < 20) { i = i + 1; try { f(4); } catch (e) { s = s + e; } } return s;":                                                "done " + strings.Repeat("x", 20),
		"function f(n) { if (n < 1) { throw 'x'; } return f(n - 1); } function g(n) { try { f(n); } catch (e) { return e + h(n); } } function h(n) { return str(n) + k(n); } function k(n) { return str(n); } return g(3);": "done x33",
		"function f(n) { if (n < 1) { throw 'x'; } return f(n - 1); } function g(n) { try { f(n); } catch (e) { return e + str(n); } } return g(3) + g(4);":                                                                 "done x3deep4",
	} {
		if o, code := wantSourceMeaning(t, s, ""); outcomeTold(o) != told || code != impl.OK {
			t.Errorf("%q means %s, %d; want %s", s, outcomeTold(o), code, told)
		}
	}
	// The block of a function that is not called is not come to; the arguments are.
	wantSourceSteps(t, "function f() { f(); } f();", "threw deep", 2+5*3)
	wantSourceSteps(t, "function f(a) { f(a + 1); } f(0);", "threw deep", 3+5*6)
	wantSourceSteps(t, "function f(a, b, c, d) { return f(d, c, b, a); } return 1 + f(1, 2, 3, 4);", "threw deep", 8+5*7)
}

// counting takes 7 + 9 * n steps, and one more of each empty block.
func counting(n, blocks int) string {
	return fmt.Sprintf("let x = 0; while (x < %d) { x = x + 1; } %s", n, strings.Repeat("{ } ", blocks))
}

func TestHowManyStepsThereMayBe(t *testing.T) {
	for _, c := range []struct{ n, blocks, steps int }{{0, 0, 7}, {1, 0, 16}, {1, 1, 17}, {332, 4, 2999}, {332, 5, 3000}} {
		wantSourceSteps(t, counting(c.n, c.blocks), "done null", c.steps)
	}
	for _, s := range []string{counting(332, 6), counting(333, 0), counting(5000, 0), "while (true) { }", "while (true) { 1; }", "try { while (true) { } } catch (e) { return e; }", "function f() { try { f(); } catch (e) { } while (1) { } } try { f(); } catch (e) { return e; }", "function f(n) { try { f(n); f(n); } catch (e) { f(n); f(n); f(n); } } while (1) { try { f(1); } catch (e) { } }", "while (1) { try { f(); } catch (e) { path = e; } } function f() { return 1 + f(); }"} {
		o, code := wantSourceMeaning(t, s, "")
		wantEval(t, s, o, code, impl.Outcome{}, impl.ErrFuel)
	}
	tree := parsed(t, "return 1;")
	want := impl.Outcome{State: impl.MaDone, Value: num(1), Steps: 2}
	for _, steps := range []int{2, 3, 1000, 2999, 3000} {
		wantEvalTree(t, tree, "", steps, want, impl.OK)
	}
	for _, steps := range []int{0, 1} {
		wantEvalTree(t, tree, "", steps, impl.Outcome{}, impl.ErrFuel)
	}
	for _, steps := range wrongSteps() {
		wantEvalTree(t, tree, "", steps, impl.Outcome{}, impl.ErrRange)
		wantEvalTree(t, parsed(t, ""), "", steps, impl.Outcome{}, impl.ErrRange)
	}
	// Nothing is come to: no steps are enough.
	for _, s := range []string{"", "function f() { while (1) { } }"} {
		wantEvalTree(t, parsed(t, s), "", 0, impl.Outcome{State: impl.MaDone}, impl.OK)
	}
}

func TestPathsOfEvaluations(t *testing.T) {
	full := strings.Repeat("p", 60)
	for _, path := range []string{"", "/", "null", "\x00\xff\n'", full} {
		for s, want := range map[string]impl.Outcome{
			"return path;":      {State: impl.MaDone, Value: word(path), Steps: 2},
			"throw path;":       {State: impl.MaThrew, Value: word(path), Steps: 2},
			"return len(path);": {State: impl.MaDone, Value: num(len(path)), Steps: 3},
		} {
			o, code := wantSourceMeaning(t, s, path)
			wantEval(t, s, o, code, want, impl.OK)
		}
	}
	o, code := wantSourceMeaning(t, "return path + '!';", full)
	wantEval(t, "a path of 60 bytes and one more", o, code, impl.Outcome{State: impl.MaThrew, Value: word("size"), Steps: 4}, impl.OK)
	for size, want := range map[int]int{60: impl.OK, 61: impl.ErrRange, 1000: impl.ErrRange, 65536: impl.ErrRange, 65537: impl.ErrLong, 200000: impl.ErrLong} {
		path := strings.Repeat("p", size)
		got := impl.Outcome{}
		if want == impl.OK {
			got = impl.Outcome{State: impl.MaDone, Value: num(7), Steps: 2}
		}
		o, code := impl.EvalSource("return 7;", path)
		wantEval(t, "EvalSource", o, code, got, want)
		wantEvalTree(t, parsed(t, "return 7;"), path, 3000, got, want)
	}
}

// Of several codes the one that the document names first counts.
func TestWhichCodeOfAnEvaluationComesFirst(t *testing.T) {
	path, long, blanks := strings.Repeat("p", 61), strings.Repeat("p", 65537), strings.Repeat(" ", 65537)
	for _, c := range []struct {
		source, path string
		code         int
	}{
		{"", long, impl.ErrLong}, {blanks, "", impl.ErrLong}, {blanks, path, impl.ErrLong}, {"x", long, impl.ErrLong}, {blanks, long, impl.ErrLong}, {strings.Repeat("#", 601), long, impl.ErrLong},
		{"", path, impl.ErrRange}, {"x", path, impl.ErrRange}, {"x;", path, impl.ErrRange}, {"#", path, impl.ErrRange}, {blanks[:601], path, impl.ErrRange}, {blanks[:65536], path, impl.ErrRange}, {"while (1) { }", path, impl.ErrRange}, {"", long[:65536], impl.ErrRange},
		{blanks[:601], "", impl.ErrSize}, {blanks[:65536], "", impl.ErrSize}, {strings.Repeat("#", 601), "", impl.ErrSize}, {strings.Repeat("x;", 400), "", impl.ErrSize}, {"while (1) { }" + blanks[:600], "", impl.ErrSize},
		{"x", "", impl.ErrForm}, {"return", "", impl.ErrForm}, {"#", "", impl.ErrForm}, {"x; #", "", impl.ErrForm}, {"while (1) { } }", "", impl.ErrForm}, {"let = 1;", "", impl.ErrForm}, {strings.Repeat(";", 301), "", impl.ErrMany}, {strings.Repeat("1;", 100), "", impl.ErrMany}, {strings.Repeat("(", 30), "", impl.ErrDeep}, {"x;" + strings.Repeat("(", 30), "", impl.ErrDeep},
		{"x;", "", impl.ErrName}, {"x = 1;", "", impl.ErrName}, {"f();", "", impl.ErrName}, {"len();", "", impl.ErrCount}, {"function f(a) { } f();", "", impl.ErrCount}, {"let path = 1;", "", impl.ErrTwice}, {"function len() { }", "", impl.ErrTwice}, {"try { } catch (path) { }", "", impl.ErrTwice}, {"function f() { return path; }", "", impl.ErrName}, {numbered(0, 20, "let v#=1;"), "", impl.ErrFull}, {numbered(0, 9, "function f#(){}"), "", impl.ErrMany}, {"function f(a,b,c,d,e) { }", "", impl.ErrMany},
		// A fault counts wherever it stands, be it come to or not, and ahead of steps.
		{"return 1; x;", "", impl.ErrName}, {"throw 1; len();", "", impl.ErrCount}, {"while (1) { } x;", "", impl.ErrName}, {"if (0) { x; }", "", impl.ErrName}, {"0 && x;", "", impl.ErrName}, {"try { } catch (e) { x; }", "", impl.ErrName}, {"function f() { x; }", "", impl.ErrName},
		{"while (1) { }", "", impl.ErrFuel},
	} {
		o, code := impl.EvalSource(c.source, c.path)
		wantEval(t, fmt.Sprintf("EvalSource(%.60q, %.60q)", c.source, c.path), o, code, impl.Outcome{}, c.code)
		if c.path == "" && len(c.source) <= impl.MaxText {
			wantSourceMeaning(t, c.source, c.path)
		}
	}
	loop, wrong, named := parsed(t, "while (1) { }"), impl.Tree{Root: 1}, parsed(t, "while (1) { } x;")
	for _, c := range []struct {
		tree  impl.Tree
		path  string
		steps int
		code  int
	}{
		{wrong, long, -1, impl.ErrLong}, {named, long, 0, impl.ErrLong}, {loop, long, 5, impl.ErrLong},
		{wrong, path, -1, impl.ErrBad}, {wrong, "", 3001, impl.ErrBad}, {wrong, path, 5, impl.ErrBad}, {wrong, "", 5, impl.ErrBad},
		{named, path, 5, impl.ErrRange}, {named, "", -1, impl.ErrRange}, {named, path, 3001, impl.ErrRange}, {loop, path, 0, impl.ErrRange}, {loop, "", 3001, impl.ErrRange}, {parsed(t, ""), path, 0, impl.ErrRange},
		{named, "", 0, impl.ErrName}, {named, "", 3000, impl.ErrName}, {loop, "", 0, impl.ErrFuel}, {loop, "", 3000, impl.ErrFuel},
	} {
		wantEvalTree(t, c.tree, c.path, c.steps, impl.Outcome{}, c.code)
	}
}

func TestSameOutcome(t *testing.T) {
	states := []int{0, impl.MaRun, impl.MaDone, impl.MaThrew, 4, -1, -2, 1<<32 + 2, math.MinInt, math.MaxInt}
	values := append(rightValues()[:25:25], wrongValues()...)
	for _, a := range states {
		for _, b := range states {
			for i, v := range values {
				for k, w := range append([]impl.Value{null, num(1), word("a")}, v) {
					o, m := impl.Outcome{State: a, Value: v, Steps: i}, impl.Machine{State: b, Value: w, Used: k}
					want := a == b && (a == impl.MaDone || a == impl.MaThrew) && v == w
					if impl.SameOutcome(o, m) != want {
						t.Fatalf("SameOutcome of %d %s and %d %s = %v", a, valueTold(v), b, valueTold(w), !want)
					}
				}
			}
		}
	}
	// Steps, what was used and frames are not looked at.
	for _, n := range oddNumbers() {
		for _, frames := range [][]impl.CallFrame{nil, {}, make([]impl.CallFrame, 7)} {
			if !impl.SameOutcome(impl.Outcome{State: impl.MaDone, Value: num(1), Steps: n}, impl.Machine{State: impl.MaDone, Value: num(1), Used: -n, Frames: frames}) {
				t.Errorf("SameOutcome with %d steps is false", n)
			}
		}
	}
	if impl.SameOutcome(impl.Outcome{}, impl.Machine{}) || impl.SameOutcome(impl.Outcome{State: impl.MaDone}, impl.Machine{}) || impl.SameOutcome(impl.Outcome{}, impl.Machine{State: impl.MaDone}) {
		t.Error("SameOutcome of nothing is true")
	}
}

// An empty list and nil are alike in a tree.
func TestMeaningsOfEmptyLists(t *testing.T) {
	for _, c := range outcomes() {
		bare, full := parsed(t, c.source), cloneTree(parsed(t, c.source))
		for k := range bare.Nodes {
			n := &bare.Nodes[k]
			n.Kids, n.Names = append([]int(nil), n.Kids...), append([]string(nil), n.Names...)
		}
		want, code := impl.EvalTree(bare, "/p", 3000)
		wantEvalTree(t, full, "/p", 3000, want, code)
	}
}
