package tests

import (
	"fmt"
	"math/rand"
	"slices"
	"strings"
	"testing"

	"loop.example/g00370/impl"
)

// codeOf tells a source's program: of each function its head and its instructions, without their places.
func codeOf(t *testing.T, s string) string {
	t.Helper()
	p, code := impl.CompileSource(s)
	lines, textCode := impl.ProgramText(p)
	if code != impl.OK || textCode != impl.OK || !impl.ProgramOK(p) {
		t.Fatalf("CompileSource(%q) = %s, %d; ProgramText %d, ProgramOK %v", s, briefProgram(p), code, textCode, impl.ProgramOK(p))
	}
	var functions []string
	at := 0
	for _, line := range lines {
		if head, found := strings.CutPrefix(line, fmt.Sprintf("function %d ", len(functions))); found {
			functions = append(functions, head+":")
			at = 0
			continue
		}
		text, found := strings.CutPrefix(line, fmt.Sprintf("%d ", at))
		if !found {
			t.Fatalf("ProgramText of %q has %q where %d is told", s, line, at)
		}
		functions[len(functions)-1] += " " + text + ","
		at++
	}
	return strings.ReplaceAll(strings.Join(functions, "; ")+";", ",;", ";")
}

// wantCode holds a source's program against a text; the end of each function, which all of them have, is left out there.
func wantCode(t *testing.T, list [][2]string) {
	t.Helper()
	for _, c := range list {
		s, want := c[0], strings.ReplaceAll(c[1]+";", ";", ", push null, return;")
		want = strings.ReplaceAll(want, ":,", ":")
		if got := codeOf(t, s); got != want {
			t.Errorf("%q is\n%s\nwant\n%s", s, got, want)
		}
		wantCompiled(t, parsed(t, s))
	}
}

func TestCodeConstantsAreTheDocuments(t *testing.T) {
	got := []int{impl.CoPush, impl.CoLoad, impl.CoStore, impl.CoUnary, impl.CoBinary, impl.CoJump, impl.CoFalse, impl.CoAnd, impl.CoOr, impl.CoCall, impl.CoBuiltin, impl.CoReturn, impl.CoThrow, impl.CoTry, impl.CoDone, impl.CoPop}
	for i, op := range got {
		if op != i+1 {
			t.Errorf("instruction %d is %d", i+1, op)
		}
	}
	if impl.MaxIns != 400 {
		t.Errorf("MaxIns is %d", impl.MaxIns)
	}
}

func TestCodeOfExpressions(t *testing.T) {
	wantCode(t, [][2]string{
		{"", "1 1:"},
		{"5;", "1 1: push 5, pop"}, {"0; 2147483647;", "1 1: push 0, pop, push 2147483647, pop"}, {"'';", "1 1: push '', pop"}, {`'it\'s \\ ok';`, `1 1: push 'it\'s \\ ok', pop`}, {"true; false; null;", "1 1: push true, pop, push false, pop, push null, pop"}, {"path;", "1 1: load 0, pop"},
		{"-1;", "1 1: push 1, unary -, pop"}, {"!path;", "1 1: load 0, unary !, pop"}, {"!-!1;", "1 1: push 1, unary !, unary -, unary !, pop"},
		{"1 < path;", "1 1: push 1, load 0, binary <, pop"}, {"1 == 2;", "1 1: push 1, push 2, binary ==, pop"}, {"1 + 2;", "1 1: push 1, push 2, binary +, pop"}, {"1 - 2;", "1 1: push 1, push 2, binary -, pop"}, {"1 * 2;", "1 1: push 1, push 2, binary *, pop"}, {"1 / 2;", "1 1: push 1, push 2, binary /, pop"}, {"1 % 2;", "1 1: push 1, push 2, binary %, pop"},
		{"1 + 2 * 3;", "1 1: push 1, push 2, push 3, binary *, binary +, pop"}, {"(1 + 2) * 3;", "1 1: push 1, push 2, binary +, push 3, binary *, pop"}, {"1 - 2 - 3;", "1 1: push 1, push 2, binary -, push 3, binary -, pop"}, {"1 - (2 - -3);", "1 1: push 1, push 2, push 3, unary -, binary -, binary -, pop"},
	})
}

func TestCodeOfAndAndOr(t *testing.T) {
	wantCode(t, [][2]string{
		{"path && 1;", "1 1: load 0, and 3, push 1, pop"}, {"path || 1;", "1 1: load 0, or 3, push 1, pop"},
		{"path && 1 && 2;", "1 1: load 0, and 3, push 1, and 5, push 2, pop"}, {"path && (1 && 2);", "1 1: load 0, and 5, push 1, and 5, push 2, pop"}, {"path || 1 || 2;", "1 1: load 0, or 3, push 1, or 5, push 2, pop"}, {"path || (1 || 2);", "1 1: load 0, or 5, push 1, or 5, push 2, pop"},
		{"path || 1 && 2;", "1 1: load 0, or 5, push 1, and 5, push 2, pop"}, {"path && 1 || 2;", "1 1: load 0, and 3, push 1, or 5, push 2, pop"}, {"path && (1 || 2);", "1 1: load 0, and 5, push 1, or 5, push 2, pop"}, {"(path || 1) && (2 || 3);", "1 1: load 0, or 3, push 1, and 7, push 2, or 7, push 3, pop"},
		{"!(path && 1);", "1 1: load 0, and 3, push 1, unary !, pop"}, {"7 + (path || 2);", "1 1: push 7, load 0, or 4, push 2, binary +, pop"}, {"(path && 2) + 7;", "1 1: load 0, and 3, push 2, push 7, binary +, pop"}, {"path && 1 + 2;", "1 1: load 0, and 5, push 1, push 2, binary +, pop"}, {"max(path && 1, 2 || 3);", "1 1: load 0, and 3, push 1, push 2, or 6, push 3, builtin max 2, pop"},
		{"return path || 0;", "1 1: load 0, or 3, push 0, return"}, {"let x = path && 1; x = x || 2;", "1 2: load 0, and 3, push 1, store 1, load 1, or 7, push 2, store 1"},
	})
}

func TestCodeOfCalls(t *testing.T) {
	wantCode(t, [][2]string{
		{"len(path);", "1 1: load 0, builtin len 1, pop"}, {"str(1); abs(2);", "1 1: push 1, builtin str 1, pop, push 2, builtin abs 1, pop"}, {"at(path, 0); min(1, 2); cut(path, 3, 4);", "1 1: load 0, push 0, builtin at 2, pop, push 1, push 2, builtin min 2, pop, load 0, push 3, push 4, builtin cut 3, pop"}, {"max(1, abs(2));", "1 1: push 1, push 2, builtin abs 1, builtin max 2, pop"},
		{"f(); function f() { }", "1 1: call 1 0, pop; 0 0:"}, {"function f() { } f();", "1 1: call 1 0, pop; 0 0:"}, {"function f(a, b) { return b - a; } f(1, path);", "1 1: push 1, load 0, call 1 2, pop; 2 2: load 1, load 0, binary -, return"}, {"function f(a, b, c, d) { d; a; }", "1 1:; 4 4: load 3, pop, load 0, pop"},
		{"function f() { } g(f()); function g(a) { return g(f()); } h(); function h() { f(); h(); }", "1 1: call 1 0, call 2 1, pop, call 3 0, pop; 0 0:; 1 1: call 1 0, call 2 1, return; 0 0: call 1 0, pop, call 3 0, pop"},
		{"function f(a) { return len(str(a)) + f(f(a)); }", "1 1:; 1 1: load 0, builtin str 1, builtin len 1, load 0, call 1 1, call 1 1, binary +, return"},
		// A name that is a builtin's or a function's, too.
		{"let len = 1; len(len);", "1 2: push 1, store 1, load 1, builtin len 1, pop"}, {"let f = 2; f(f); function f(f) { f; }", "1 2: push 2, store 1, load 1, call 1 1, pop; 1 1: load 0, pop"}, {"function path(path) { path = path; } path(path);", "1 1: load 0, call 1 1, pop; 1 1: load 0, store 0"},
		// Functions without a return, and behind one.
		{"function f() { 1; } function g() { return 1; 2; }", "1 1:; 0 0: push 1, pop; 0 0: push 1, return, push 2, pop"},
	})
	nine := numbered(1, 8, "function f#() { return #; } ") + "f8(); f1();"
	want := "1 1: call 8 0, pop, call 1 0, pop" + numbered(1, 8, "; 0 0: push #, return")
	wantCode(t, [][2]string{{nine, want}})
}

func TestCodeOfStatements(t *testing.T) {
	wantCode(t, [][2]string{
		{"let x = 1;", "1 2: push 1, store 1"}, {"path = 'a';", "1 1: push 'a', store 0"}, {"let x = path; x = x + 1;", "1 2: load 0, store 1, load 1, push 1, binary +, store 1"}, {"return 1;", "1 1: push 1, return"}, {"throw path;", "1 1: load 0, throw"}, {"{ } { { 1; } }", "1 1: push 1, pop"},
		{"return 1; throw 2; 3;", "1 1: push 1, return, push 2, throw, push 3, pop"},
		// If.
		{"if (path) { }", "1 1: load 0, false 2"}, {"if (path) { 1; }", "1 1: load 0, false 4, push 1, pop"}, {"if (path) { 1; } 2;", "1 1: load 0, false 4, push 1, pop, push 2, pop"}, {"if (path) { } else { }", "1 1: load 0, false 3, jump 3"}, {"if (path) { 1; } else { }", "1 1: load 0, false 5, push 1, pop, jump 5"}, {"if (path) { } else { 2; }", "1 1: load 0, false 3, jump 5, push 2, pop"}, {"if (path) { 1; } else { 2; } 3;", "1 1: load 0, false 5, push 1, pop, jump 7, push 2, pop, push 3, pop"},
		{"if (path < 1 + 2) { return 1; } else { throw 2; }", "1 1: load 0, push 1, push 2, binary +, binary <, false 9, push 1, return, jump 11, push 2, throw"},
		// While.
		{"while (path) { }", "1 1: load 0, false 3, jump 0"}, {"while (path) { 1; } 2;", "1 1: load 0, false 5, push 1, pop, jump 0, push 2, pop"}, {"9; while (1 < 2) { path = 3; }", "1 1: push 9, pop, push 1, push 2, binary <, false 9, push 3, store 0, jump 2"}, {"while (path) { return 1; }", "1 1: load 0, false 5, push 1, return, jump 0"},
		// Try.
		{"try { } catch (e) { }", "1 2: try 3, done, jump 4, store 1"}, {"try { 1; } catch (e) { e; } 2;", "1 2: try 5, push 1, pop, done, jump 8, store 1, load 1, pop, push 2, pop"}, {"9; try { throw 1; } catch (e) { return e; }", "1 2: push 9, pop, try 7, push 1, throw, done, jump 10, store 1, load 1, return"}, {"try { return 1; } catch (e) { }", "1 2: try 5, push 1, return, done, jump 6, store 1"},
	})
}

func TestCodeOfJumpsWithinEachOther(t *testing.T) {
	wantCode(t, [][2]string{
		{"if (1) { if (2) { 3; } }", "1 1: push 1, false 6, push 2, false 6, push 3, pop"}, {"if (1) { if (2) { 3; } else { 4; } }", "1 1: push 1, false 9, push 2, false 7, push 3, pop, jump 9, push 4, pop"}, {"if (1) { if (2) { 3; } } else { 4; }", "1 1: push 1, false 7, push 2, false 6, push 3, pop, jump 9, push 4, pop"}, {"if (1) { } else { if (2) { } else { 3; } }", "1 1: push 1, false 3, jump 8, push 2, false 6, jump 8, push 3, pop"},
		{"while (1) { while (2) { } }", "1 1: push 1, false 6, push 2, false 5, jump 2, jump 0"}, {"while (1) { if (2) { 3; } else { 4; } }", "1 1: push 1, false 10, push 2, false 7, push 3, pop, jump 9, push 4, pop, jump 0"}, {"if (1) { while (2) { } } else { while (3) { } }", "1 1: push 1, false 6, push 2, false 5, jump 2, jump 9, push 3, false 9, jump 6"},
		{"if (path && 1) { 2; }", "1 1: load 0, and 3, push 1, false 6, push 2, pop"}, {"while (path || 1) { path && 2; }", "1 1: load 0, or 3, push 1, false 9, load 0, and 7, push 2, pop, jump 0"},
		{"try { try { 1; } catch (a) { a; } } catch (b) { b; }", "1 2: try 11, try 6, push 1, pop, done, jump 9, store 1, load 1, pop, done, jump 14, store 1, load 1, pop"}, {"try { } catch (a) { try { a; } catch (b) { a; b; } }", "1 3: try 3, done, jump 14, store 1, try 9, load 1, pop, done, jump 14, store 2, load 1, pop, load 2, pop"},
		{"while (1) { try { 2; } catch (e) { if (e) { 3; } } }", "1 2: push 1, false 13, try 7, push 2, pop, done, jump 12, store 1, load 1, false 12, push 3, pop, jump 0"}, {"try { while (1) { } } catch (e) { while (e) { } }", "1 2: try 6, push 1, false 4, jump 1, done, jump 10, store 1, load 1, false 10, jump 7"}, {"if (1) { try { } catch (e) { } } else { try { } catch (e) { } }", "1 2: push 1, false 7, try 5, done, jump 6, store 1, jump 11, try 10, done, jump 11, store 1"},
		// The places are those of the function that they stand in.
		{"1; function f() { while (1) { } } if (2) { }", "1 1: push 1, pop, push 2, false 4; 0 0: push 1, false 3, jump 0"},
	})
}

func TestCodeOfNamesThatComeAndGo(t *testing.T) {
	wantCode(t, [][2]string{
		{"let a = 1; let b = 2; let c = a; b = c;", "1 4: push 1, store 1, push 2, store 2, load 1, store 3, load 3, store 2"},
		{"{ let a = 1; } { let b = 2; } let c = 3; c;", "1 2: push 1, store 1, push 2, store 1, push 3, store 1, load 1, pop"}, {"{ let a = 1; let b = a; } let c = 3;", "1 3: push 1, store 1, load 1, store 2, push 3, store 1"}, {"let a = 1; { let b = 2; { let c = 3; } let d = b; } let e = a;", "1 4: push 1, store 1, push 2, store 2, push 3, store 3, load 2, store 3, load 1, store 2"},
		// A name that is known from outside.
		{"let x = 1; { let x = x; x; x = 2; } x; x = 3;", "1 3: push 1, store 1, load 1, store 2, load 2, pop, push 2, store 2, load 1, pop, push 3, store 1"}, {"let x = 1; { x = 2; let x = 3; x = 4; }", "1 3: push 1, store 1, push 2, store 1, push 3, store 2, push 4, store 2"}, {"{ let path = path; { let path = path; path; } path; } path;", "1 3: load 0, store 1, load 1, store 2, load 2, pop, load 1, pop, load 0, pop"}, {"function f(a) { let a = a; a; { let a = a; } a = 1; }", "1 1:; 1 3: load 0, store 1, load 1, pop, load 1, store 2, push 1, store 1"},
		{"if (1) { let x = 2; x; } else { let y = 3; let x = y; }", "1 3: push 1, false 7, push 2, store 1, load 1, pop, jump 11, push 3, store 1, load 1, store 2"}, {"while (path) { let x = 1; path = x; } let y = 2;", "1 2: load 0, false 7, push 1, store 1, load 1, store 0, jump 0, push 2, store 1"},
		// The name of a try.
		{"let a = 1; try { let b = 2; let c = 3; } catch (e) { let f = e; } let g = 4;", "1 4: push 1, store 1, try 9, push 2, store 2, push 3, store 3, done, jump 12, store 2, load 2, store 3, push 4, store 2"}, {"try { } catch (e) { let e = e; e; } let e = 1;", "1 3: try 3, done, jump 8, store 1, load 1, store 2, load 2, pop, push 1, store 1"}, {"let e = 1; { try { e; } catch (e) { e = 2; } e; }", "1 3: push 1, store 1, try 7, load 1, pop, done, jump 10, store 2, push 2, store 2, load 1, pop"}, {"try { } catch (e) { try { } catch (e) { e; } e; }", "1 3: try 3, done, jump 12, store 1, try 7, done, jump 10, store 2, load 2, pop, load 1, pop"},
		// Functions have slots of their own.
		{"let x = 1; let y = 2; function f(b, a) { let x = a; return x; } let z = y;", "1 4: push 1, store 1, push 2, store 2, load 2, store 3; 2 3: load 1, store 2, load 2, return"}, {"function f() { let path = 1; path; } function g() { { let a = 1; } let b = 2; }", "1 1:; 0 1: push 1, store 0, load 0, pop; 0 1: push 1, store 0, push 2, store 0"},
	})
}

func TestCodeAtTheBounds(t *testing.T) {
	lets := func(count int) string { return numbered(0, count, "let v#=1;") }
	for _, s := range []string{lets(19) + "v18;", "function f(a,b,c,d){" + lets(16) + "return v15;}", lets(18) + "try{}catch(e){e;}", numbered(0, 8, "function f#(a,b,c,d){return d;}"), strings.Repeat("try{", 20) + strings.Repeat("}catch(e){}", 20), strings.Repeat("{", 20) + strings.Repeat("}", 20), strings.Repeat(" ", 600), "path" + strings.Repeat("+1", 90) + ";", strings.Repeat("(1+", 18) + "1" + strings.Repeat(")", 18) + ";"} {
		p, code := impl.CompileSource(s)
		wantProgram(t, s, p, code, programWanted(parsed(t, s)), impl.OK)
		wantCompiled(t, parsed(t, s))
	}
	for s, want := range map[string]int{
		lets(20): impl.ErrFull, "function f(a,b,c,d){" + lets(17) + "}": impl.ErrFull, "function f(a,b,c,d,e){}": impl.ErrMany, numbered(0, 9, "function f#(){}"): impl.ErrMany, strings.Repeat("try{", 21) + strings.Repeat("}catch(e){}", 21): impl.ErrDeep, strings.Repeat(" ", 601): impl.ErrSize,
	} {
		p, code := impl.CompileSource(s)
		wantProgram(t, s, p, code, impl.Program{}, want)
	}
}

// Of several codes the one that the document names first counts.
func TestWhichCodeComesFirst(t *testing.T) {
	for _, c := range []struct {
		source string
		code   int
	}{
		{strings.Repeat("#", impl.MaxText+1), impl.ErrLong}, {strings.Repeat(" ", impl.MaxText+1), impl.ErrLong}, {strings.Repeat("x;", impl.MaxText), impl.ErrLong},
		{strings.Repeat("#", 601), impl.ErrSize}, {strings.Repeat("x;", 400), impl.ErrSize}, {strings.Repeat(" ", impl.MaxText), impl.ErrSize}, {"x" + strings.Repeat(" ", 600), impl.ErrSize},
		{"x; #", impl.ErrForm}, {"return", impl.ErrForm}, {"x; }", impl.ErrForm}, {strings.Repeat(";", 301), impl.ErrMany}, {"x;" + strings.Repeat("(", 30), impl.ErrDeep}, {"len(); x", impl.ErrForm}, {strings.Repeat("1;", 100), impl.ErrMany},
		{"x;", impl.ErrName}, {"x = 1;", impl.ErrName}, {"f();", impl.ErrName}, {"len();", impl.ErrCount}, {"function f(a) { } f();", impl.ErrCount}, {"let path = 1;", impl.ErrTwice}, {"function len() { }", impl.ErrTwice}, {"function f() { return path; }", impl.ErrName}, {"x; len();", impl.ErrName}, {"len(); x;", impl.ErrCount}, {"x; function f(a, a) { }", impl.ErrTwice}, {"try { x; } catch (path) { }", impl.ErrTwice},
	} {
		p, code := impl.CompileSource(c.source)
		wantProgram(t, fmt.Sprintf("CompileSource(%.60q)", c.source), p, code, impl.Program{}, c.code)
		if tree, _, parseCode := impl.ParseSource(c.source); parseCode == impl.OK {
			wantCompiled(t, tree)
		}
	}
}

func TestCodeOfWrongTrees(t *testing.T) {
	for _, tree := range wrongTrees() {
		wantBad(t, tree)
	}
	// A tree that is not right is told ahead of wrong names.
	tree := parsed(t, "x; let path = len();")
	tree.Nodes[tree.Root].N = 1
	p, code := impl.CompileTree(tree)
	wantProgram(t, "CompileTree of "+briefTree(tree), p, code, impl.Program{}, impl.ErrBad)
	for _, p := range rightPlants() {
		wantCompiled(t, p.parsed())
	}
}

// triesWithin is that many tries, each in the first block of the one ahead.
func triesWithin(count int, innermost ...*plant) *plant {
	p := plBlock(innermost...)
	for range count {
		p = plBlock(pl(impl.NoTry, "e", p, plBlock()))
	}
	return p
}

// Trees may have more tries within each other than a source: they have their code, too, which is right by itself as long as no more than 20 are open on some way.
func TestCodeOfTriesWithinEachOther(t *testing.T) {
	for count := range 67 {
		root := triesWithin(count)
		tree := root.parsed()
		if len(tree.Nodes) > 200 {
			continue
		}
		p, code := impl.CompileTree(tree)
		wantProgram(t, "CompileTree", p, code, impl.Program{Funcs: []impl.Func{{Params: 1, Slots: min(count, 1) + 1, Code: triesCode(count)}}}, impl.OK)
		if right := impl.ProgramOK(p); right != (count <= 20) {
			t.Errorf("ProgramOK of %d tries within each other is %v", count, right)
		}
		wantCompiled(t, tree)
		if inner := plBlock(plFunc("f", nil, root)).parsed(); len(inner.Nodes) <= 200 {
			wantCompiled(t, inner)
		}
		// Behind a return no way comes to them.
		root.kids = append([]*plant{pl(impl.NoReturn, "", plInt(1))}, root.kids...)
		if tree := root.parsed(); len(tree.Nodes) <= 200 {
			p, code := impl.CompileTree(tree)
			wantProgram(t, "CompileTree behind a return", p, code, programWanted(tree), impl.OK)
			wantRight(t, p)
		}
	}
	for _, count := range []int{20, 21, 30} {
		named := triesWithin(count, plDo(plName("x"))).parsed()
		p, code := impl.CompileTree(named)
		wantProgram(t, "CompileTree of a wrong name", p, code, impl.Program{}, impl.ErrName)
		wrong := triesWithin(count).parsed()
		wrong.Nodes[0].N = 1
		p, code = impl.CompileTree(wrong)
		wantProgram(t, "CompileTree of a wrong tree", p, code, impl.Program{}, impl.ErrBad)
	}
}

// triesCode is the code of triesWithin: all of them are opened ahead of the innermost block, and end from there on.
func triesCode(count int) []impl.Ins {
	var code []impl.Ins
	for k := range count {
		code = append(code, impl.Ins{Op: impl.CoTry, N: count + 3*(count-1-k) + 2})
	}
	for k := range count {
		code = append(code, impl.Ins{Op: impl.CoDone}, impl.Ins{Op: impl.CoJump, N: count + 3*k + 3}, impl.Ins{Op: impl.CoStore, N: 1})
	}
	return append(code, written("push null, return")...)
}

// The greatest code, the highest stacks and the deepest ways that 200 nodes can make.
func TestCodeOfGreatTrees(t *testing.T) {
	row := plBlock()
	for range 66 {
		row.kids = append(row.kids, pl(impl.NoTry, "e", plBlock(), plBlock()))
	}
	sum, calls := plInt(1), plInt(1)
	for range 98 {
		sum = plBinary("+", plInt(1), sum)
	}
	for range 48 {
		calls = pl(impl.NoCall, "f", plInt(1), plInt(2), plInt(3), calls)
	}
	choices, whiles, eithers := plBlock(), plBlock(), plName("path")
	for i := range 49 {
		choices = plBlock(pl(impl.NoIf, "", plInt(i), choices, plBlock()))
		whiles = plBlock(pl(impl.NoWhile, "", plInt(i), whiles))
		eithers = plBinary([]string{"&&", "||"}[i%2], plInt(i), eithers)
	}
	f := plFunc("f", strings.Fields("a b c d"), plBlock())
	for _, c := range []struct {
		root       *plant
		size, need int
	}{
		{row, 266, 1}, {plBlock(plDo(sum)), 200, 99}, {plBlock(plDo(calls), f), 198, 145}, {choices, 149, 1}, {whiles, 149, 1}, {plBlock(plDo(eithers)), 102, 1}, {chain(200), 201, 1},
	} {
		tree := c.root.parsed()
		p, code := impl.CompileTree(tree)
		if code != impl.OK {
			t.Fatalf("CompileTree of %s: %d", briefTree(tree), code)
		}
		wantCompiled(t, tree)
		size, code := impl.CodeSize(p)
		wantOfFunction(t, "CodeSize", p, 0, size, code, c.size, impl.OK)
		need, code := impl.StackNeed(p, 0)
		wantOfFunction(t, "StackNeed", p, 0, need, code, c.need, impl.OK)
	}
}

func TestCodeOfAllShortSources(t *testing.T) {
	t.Parallel()
	count := 0
	for _, texts := range []string{
		"if(path){|}else{|while(1&&path){|try{|}catch(e){|}|let a=path||2;|return a;|throw f(path);",
		"function f(a){|}|try{|}catch(a){|let a=1;|{|a=g(a);|function g(b){|while(f(a)){",
	} {
		forEachList(strings.Split(texts, "|"), 5, func(s string) {
			if tree, _, code := impl.ParseSource(s); code == impl.OK && !t.Failed() {
				wantCompiled(t, tree)
				if faultWanted(tree).Code == impl.OK {
					count++
				}
			}
		})
	}
	if count < 500 {
		t.Errorf("only %d sources had code", count)
	}
}

func TestCodeByChance(t *testing.T) {
	t.Parallel()
	g := &gardener{Rand: rand.New(rand.NewSource(12))}
	codes := map[int]int{}
	for i := range 2500 {
		p := g.tended(5+i%90, i%8)
		if i%5 == 0 {
			g.renamed(p)
		}
		tree := p.shuffled(g.Rand)
		if !rightTree(tree) {
			program, code := impl.CompileTree(tree)
			wantProgram(t, "CompileTree of "+briefTree(tree), program, code, impl.Program{}, impl.ErrBad)
			codes[impl.ErrBad]++
			continue
		}
		wantCompiled(t, tree)
		codes[faultWanted(tree).Code]++
		if t.Failed() {
			return
		}
	}
	for code, least := range map[int]int{impl.OK: 1200, impl.ErrName: 50, impl.ErrFull: 30} {
		if codes[code] < least {
			t.Errorf("only %d of the trees had %d: %v", codes[code], code, codes)
		}
	}
}

// A source and its tree have the same code, in whatever order the tree's nodes stand.
func TestCodeOfSourcesByChance(t *testing.T) {
	g := &gardener{Rand: rand.New(rand.NewSource(13))}
	count := 0
	for i := range 1500 {
		p := g.tended(3+i%30, i%6)
		s := g.rootWritten(p)
		tree, _, code := impl.ParseSource(s)
		if code != impl.OK || faultWanted(tree).Code != impl.OK {
			continue
		}
		count++
		got, code := impl.CompileSource(s)
		wantProgram(t, "CompileSource of "+s, got, code, programWanted(tree), impl.OK)
		got, code = impl.CompileTree(p.shuffled(g.Rand))
		wantProgram(t, "CompileTree of "+s, got, code, programWanted(tree), impl.OK)
		if !impl.ProgramOK(got) {
			t.Errorf("the code of %q is not right", s)
		}
	}
	if count < 700 {
		t.Errorf("only %d sources had code", count)
	}
}

// An empty list and nil are alike in a tree, and so is what comes of them.
func TestCodeOfEmptyLists(t *testing.T) {
	bare := parsed(t, "function f() { } f(); { }")
	want, _ := impl.CompileTree(bare)
	full := cloneTree(bare)
	got, code := impl.CompileTree(full)
	wantProgram(t, "CompileTree", got, code, want, impl.OK)
}

// What is answered is its caller's own: no two lists of it share anything, nor those of two answers.
func TestProgramsShareNothing(t *testing.T) {
	const source = "function f(a) { return f(a + 1); } function g() { } try { f(path); } catch (e) { g(); }"
	tree := parsed(t, source)
	before := cloneTree(tree)
	want := programWanted(tree)
	first, _ := impl.CompileTree(tree)
	second, _ := impl.CompileTree(tree)
	for k := range first.Funcs {
		clear(first.Funcs[k].Code[:cap(first.Funcs[k].Code)])
		for other := k + 1; other < len(first.Funcs); other++ {
			if !slices.Equal(first.Funcs[other].Code, want.Funcs[other].Code) {
				t.Errorf("functions %d and %d share their code", k, other)
			}
		}
	}
	clear(first.Funcs[:cap(first.Funcs)])
	third, code := impl.CompileSource(source)
	wantProgram(t, "the second answer", second, code, want, impl.OK)
	wantProgram(t, "the third answer", third, code, want, impl.OK)
	if !sameTree(tree, before) {
		t.Errorf("what was written into an answer is to be seen in the tree: %s", briefTree(tree))
	}
}
