package tests

import (
	"math"
	"math/rand"
	"slices"
	"strconv"
	"strings"
	"testing"

	"loop.example/g00370/impl"
)

func parsed(t *testing.T, s string) impl.Tree {
	t.Helper()
	tree, place, code := impl.ParseSource(s)
	if code != impl.OK {
		t.Fatalf("ParseSource(%q): %d, %d", s, place, code)
	}
	return tree
}

// plantOf is the plant of a tree from k on.
func plantOf(tree impl.Tree, k int) *plant {
	n := tree.Nodes[k]
	p := &plant{kind: n.Kind, n: n.N, text: n.Text, names: n.Names}
	for _, kid := range n.Kids {
		p.kids = append(p.kids, plantOf(tree, kid))
	}
	return p
}

// nodeWritten is the one node that is written so; of several ones the test would say nothing.
func nodeWritten(t *testing.T, tree impl.Tree, text string) int {
	t.Helper()
	var list []int
	for k := range tree.Nodes {
		if plantOf(tree, k).printed() == text {
			list = append(list, k)
		}
	}
	if len(list) != 1 {
		t.Fatalf("%q is written %d times in %q", text, len(list), sourceOf(tree))
	}
	return list[0]
}

// fault is what a source has, at the node that is written so.
type fault struct {
	source string
	code   int
	node   string
}

func wantFaults(t *testing.T, list []fault) {
	t.Helper()
	for _, c := range list {
		tree := parsed(t, c.source)
		wantFault(t, tree, impl.Fault{Code: c.code, Node: nodeWritten(t, tree, c.node)}, impl.OK)
		wantNameAnswers(t, tree)
	}
}

func wantNoFaults(t *testing.T, sources ...string) {
	t.Helper()
	for _, s := range sources {
		wantFault(t, parsed(t, s), impl.Fault{}, impl.OK)
		wantNameAnswers(t, parsed(t, s))
	}
}

// numbered joins texts, each # a number from `from` on.
func numbered(from, count int, text string) string {
	var s strings.Builder
	for i := range count {
		s.WriteString(strings.ReplaceAll(text, "#", strconv.Itoa(from+i)))
	}
	return s.String()
}

func TestNameConstantsAreTheDocuments(t *testing.T) {
	if impl.MaxParams != 4 || impl.MaxFuncs != 8 || impl.MaxSlots != 20 {
		t.Errorf("MaxParams %d, MaxFuncs %d, MaxSlots %d; want 4, 8, 20", impl.MaxParams, impl.MaxFuncs, impl.MaxSlots)
	}
}

func TestSourcesWithoutFaults(t *testing.T) {
	wantNoFaults(t,
		"", "path;", "path = path;", "{ path; { path = 1; } }", "let x = 1; x = x + path;", "let x = path; { let x = x; x; } x;",
		// What a function begins with, and what it does not see.
		"function f() { }", "function f(a, b, c, d) { return a + b + c + d; }", "function f(path) { return path; }", "function f(a) { a = 1; if (a) { a; } }", "function f(a) { let a = a; a; }", "function f() { let path = 1; return path; }",
		"function f(a) { { let a = a; { let a = a; } } }", "let a = 1; function f(a) { } a;", "function f(a) { } function g(a) { let b = a; } let a = 1; let b = a;",
		// Names of one sort are not those of another.
		"function f(f) { return f; }", "let len = 1; len(path) + len;", "let f = 1; f() + f; function f() { }", "function a(b) { return b(a(b)); } function b(a) { return a; }", "try { } catch (len) { len(len); }", "function path() { } path();",
		// Blocks of each kind.
		"let x = 1; { let x = 2; { let x = 3; } } { let x = 4; }", "if (path) { let x = 1; } else { let x = 2; } let x = 3;", "while (path) { let x = 1; x = x; } let x = 2;", "{ let y = 1; } { let y = 2; } let y = 3;", "{ let path = path; path; }", "if (1) { let path = 1; }",
		// The name of a try.
		"try { } catch (e) { e; e = 1; }", "try { } catch (e) { let e = e; e; }", "try { let e = 1; } catch (e) { }", "try { } catch (e) { } let e = 1;", "try { } catch (e) { } try { } catch (e) { }", "try { } catch (e) { try { } catch (e) { e; } e; }", "try { try { } catch (e) { } } catch (e) { }",
		"let e = 1; { try { e; } catch (e) { } }", "function f(e) { try { e; } catch (e) { e; } }", "{ try { } catch (path) { path; } path; }", "function f() { try { } catch (path) { path; } }", "try { } catch (e) { { let e = 1; } e; { e; } }",
		// Calls.
		"f(); function f() { return f(); }", "function f(a) { return g(a); } function g(a) { return f(a); } g(f(1));", "len(path); str(1); abs(1); at(path, 0); max(1, 2); min(1, 2); cut(path, 0, 1);", "function f(a, b, c, d) { f(d, c, b, a); }",
	)
}

func TestNamesThatAreNotKnown(t *testing.T) {
	wantFaults(t, []fault{
		{"x;", impl.ErrName, "x"}, {"x = 1;", impl.ErrName, "x = 1;"}, {"x();", impl.ErrName, "x()"}, {"Path;", impl.ErrName, "Path"}, {"_;", impl.ErrName, "_"},
		{"1 + -x;", impl.ErrName, "x"}, {"path && (path || !x);", impl.ErrName, "x"}, {"if (x) { }", impl.ErrName, "x"}, {"while (path) { x; }", impl.ErrName, "x"}, {"if (1) { } else { x; }", impl.ErrName, "x"}, {"return x;", impl.ErrName, "x"}, {"throw x;", impl.ErrName, "x"}, {"len(x);", impl.ErrName, "x"}, {"path = x;", impl.ErrName, "x"},
		// A let brings its name behind its expression, and for what comes behind it alone.
		{"let x = x;", impl.ErrName, "x"}, {"let x = len(1 + x);", impl.ErrName, "x"}, {"x; let x = 1;", impl.ErrName, "x"}, {"{ x = 1; } let x = 2;", impl.ErrName, "x = 1;"}, {"while (x) { let x = 1; }", impl.ErrName, "x"}, {"function f() { x; let x = 1; }", impl.ErrName, "x"},
		// A block's own names are gone behind it.
		{"{ let y = 1; } y;", impl.ErrName, "y"}, {"if (1) { let y = 1; } y = 2;", impl.ErrName, "y = 2;"}, {"if (1) { let y = 1; } else { y; }", impl.ErrName, "y"}, {"while (1) { let y = 1; } y;", impl.ErrName, "y"}, {"{ { let y = 1; } y; }", impl.ErrName, "y"}, {"{ let x = 1; { let y = x; } y; }", impl.ErrName, "y"}, {"try { let y = 1; } catch (e) { y; }", impl.ErrName, "y"}, {"try { } catch (e) { let y = e; } y;", impl.ErrName, "y"},
		{"{ let a = 1; let b = 2; } { a; }", impl.ErrName, "a"}, {"{ let a = 1; } { let b = 1; } { a + b; }", impl.ErrName, "a"},
		// A try's name stands for its second block alone.
		{"try { e; } catch (e) { }", impl.ErrName, "e"}, {"try { } catch (e) { } e;", impl.ErrName, "e"}, {"try { e = 1; } catch (e) { }", impl.ErrName, "e = 1;"}, {"try { } catch (e) { let e = 1; } e;", impl.ErrName, "e"}, {"try { } catch (e) { try { } catch (f) { } f; }", impl.ErrName, "f"}, {"try { } catch (e) { } try { e; } catch (f) { }", impl.ErrName, "e"},
		// A function sees its parameters and what it brings, no more.
		{"function f() { return path; }", impl.ErrName, "path"}, {"function f(a) { return b; }", impl.ErrName, "b"}, {"let x = 1; function f() { return x; }", impl.ErrName, "x"}, {"function f(a) { } a;", impl.ErrName, "a"}, {"function f() { let b = 1; } b;", impl.ErrName, "b"}, {"function f(a) { } function g() { return a; }", impl.ErrName, "a"}, {"function f() { let b = 1; } function g() { b; }", impl.ErrName, "b"}, {"function f() { path = 1; }", impl.ErrName, "path = 1;"},
		// Functions and builtins are no names, names are none of these.
		{"function f() { } f;", impl.ErrName, "f"}, {"function f() { } f = 1;", impl.ErrName, "f = 1;"}, {"len;", impl.ErrName, "len"}, {"len = 1;", impl.ErrName, "len = 1;"}, {"path();", impl.ErrName, "path()"}, {"let x = 1; x(1);", impl.ErrName, "x(1)"}, {"function f(a) { return a(1); }", impl.ErrName, "a(1)"}, {"Len(path);", impl.ErrName, "Len(path)"}, {"lens(path);", impl.ErrName, "lens(path)"},
	})
}

func TestCallsOfAnotherCount(t *testing.T) {
	var list []fault
	for name, count := range builtinCounts() {
		for n := range 6 {
			call := name + "(" + strings.Join(slices.Repeat([]string{"1"}, n), ", ") + ")"
			if n == count {
				wantNoFaults(t, call+";")
			} else {
				list = append(list, fault{call + ";", impl.ErrCount, call})
			}
		}
	}
	for count, names := range []string{"", "a", "a, b", "a, b, c", "a, b, c, d"} {
		for n := range 6 {
			call := "f(" + strings.Join(slices.Repeat([]string{"1"}, n), ", ") + ")"
			outside, inside := call+"; function f("+names+") { }", "function f("+names+") { return "+call+"; }"
			if n == count {
				wantNoFaults(t, outside, inside)
			} else {
				list = append(list, fault{outside, impl.ErrCount, call}, fault{inside, impl.ErrCount, call})
			}
		}
	}
	wantFaults(t, list)
}

func TestNamesThatAreThereAlready(t *testing.T) {
	wantFaults(t, []fault{
		// Functions.
		{"function f() { } function f() { 1; }", impl.ErrTwice, "function f() { 1; }"}, {"function f(a) { } 1; function g() { } function f() { }", impl.ErrTwice, "function f() { }"}, {"function f() { } function f(a) { } function f(a, b) { }", impl.ErrTwice, "function f(a) { }"},
		{"function len() { }", impl.ErrTwice, "function len() { }"}, {"function str(v) { }", impl.ErrTwice, "function str(v) { }"}, {"function abs(v) { }", impl.ErrTwice, "function abs(v) { }"}, {"function at() { }", impl.ErrTwice, "function at() { }"}, {"function max() { }", impl.ErrTwice, "function max() { }"}, {"function min() { }", impl.ErrTwice, "function min() { }"}, {"function g() { } function cut() { }", impl.ErrTwice, "function cut() { }"},
		// Parameters.
		{"function f(a, a) { }", impl.ErrTwice, "function f(a, a) { }"}, {"function f(a, b, c, a) { return a; }", impl.ErrTwice, "function f(a, b, c, a) { return a; }"}, {"function f(a, b) { } function g(a, b, b) { }", impl.ErrTwice, "function g(a, b, b) { }"},
		// Lets.
		{"let x = 1; let x = 2;", impl.ErrTwice, "let x = 2;"}, {"let x = 1; { let x = 2; let x = 3; }", impl.ErrTwice, "let x = 3;"}, {"let x = 1; { let x = 2; } let x = 3;", impl.ErrTwice, "let x = 3;"}, {"let path = 1;", impl.ErrTwice, "let path = 1;"}, {"let x = 1; if (x) { let y = 1; let z = 2; let y = 3; }", impl.ErrTwice, "let y = 3;"},
		{"function f(a) { let a = 1; let a = 2; }", impl.ErrTwice, "let a = 2;"}, {"function f() { let path = 1; let path = 2; }", impl.ErrTwice, "let path = 2;"}, {"try { } catch (e) { let e = 1; let e = 2; }", impl.ErrTwice, "let e = 2;"}, {"{ let path = 1; let path = 2; }", impl.ErrTwice, "let path = 2;"}, {"let x = 1; function f() { } let x = 2;", impl.ErrTwice, "let x = 2;"},
		// Names of a try.
		{"let e = 1; try { } catch (e) { }", impl.ErrTwice, "try { } catch (e) { }"}, {"try { } catch (path) { }", impl.ErrTwice, "try { } catch (path) { }"}, {"{ let e = 1; { } try { } catch (e) { } }", impl.ErrTwice, "try { } catch (e) { }"}, {"try { } catch (e) { let e = 1; try { } catch (e) { } }", impl.ErrTwice, "try { } catch (e) { }"}, {"function f() { let a = 1; try { } catch (a) { } }", impl.ErrTwice, "try { } catch (a) { }"},
	})
}

func TestMaxFuncsAndParams(t *testing.T) {
	eight := numbered(0, 8, "function f#() { } ")
	wantNoFaults(t, eight, eight+"f7();", "1; "+eight+"2;")
	wantFaults(t, []fault{
		{eight + "function g() { }", impl.ErrMany, "function g() { }"}, {eight + "1; function g() { } function h() { }", impl.ErrMany, "function g() { }"}, {"function g() { } " + eight, impl.ErrMany, "function f7() { }"},
		{"function f(a, b, c, d, e) { }", impl.ErrMany, "function f(a, b, c, d, e) { }"}, {"function f(a, b, c, d) { } function g(a, b, c, d, e, h) { }", impl.ErrMany, "function g(a, b, c, d, e, h) { }"}, {"function f(a, a, a, a, a) { }", impl.ErrMany, "function f(a, a, a, a, a) { }"},
	})
	many := plFunc("many", numberedNames(5000), plBlock())
	wantFault(t, plBlock(many).parsed(), impl.Fault{Code: impl.ErrMany, Node: 1}, impl.OK)
	wantNameAnswers(t, plBlock(many).parsed())
	wantNameAnswers(t, plBlock(many, plFunc("len", nil, plBlock()), many).shuffledOnce(5))
}

func numberedNames(count int) []string {
	return strings.Fields(numbered(0, count, "p# "))
}

// shuffledOnce clones the plant first: each node is to be there once.
func (p *plant) shuffledOnce(seed int64) impl.Tree {
	return cloneOfPlant(p).shuffled(rand.New(rand.NewSource(seed)))
}

func cloneOfPlant(p *plant) *plant {
	c := *p
	c.kids = nil
	for _, kid := range p.kids {
		c.kids = append(c.kids, cloneOfPlant(kid))
	}
	return &c
}

func TestMaxSlots(t *testing.T) {
	lets := func(count int) string { return numbered(0, count, "let v#=1;") }
	four := "function f(a, b, c, d) { "
	wantNoFaults(t, lets(19), "function f(){"+lets(20)+"}", four+lets(16)+"}", lets(18)+"{let w=1;}{let w=1;}", lets(18)+"try { } catch (e) { }", lets(18)+"try { let w=1; } catch (e) { }", lets(17)+"try { } catch (e) { let w=1; }", lets(10)+"{"+lets(9)+"}{"+lets(9)+"}", lets(18)+"if (1) { let w=1; } else { let w=2; }", "{"+lets(19)+"}"+lets(19), "function f(){"+lets(20)+"} "+lets(19), "f(); "+lets(19)+numbered(0, 7, "function g#(){}")+"function f(){}")
	wantFaults(t, []fault{
		{lets(19) + "let w = 2;", impl.ErrFull, "let w = 2;"}, {lets(20) + "let w = 2;", impl.ErrFull, "let v19 = 1;"}, {"function f(){" + lets(20) + "let w = 2;}", impl.ErrFull, "let w = 2;"}, {four + lets(16) + "let w = 2;}", impl.ErrFull, "let w = 2;"},
		{lets(19) + "{ let w = 2; }", impl.ErrFull, "let w = 2;"}, {lets(19) + "{ let v3 = 2; }", impl.ErrFull, "let v3 = 2;"}, {lets(18) + "{ let w = 2; } let x = 3; { let y = 4; }", impl.ErrFull, "let y = 4;"}, {lets(18) + "{ let w = 2; { let w = 3; } }", impl.ErrFull, "let w = 3;"}, {lets(19) + "if (1) { let w = 2; }", impl.ErrFull, "let w = 2;"}, {lets(18) + "while (1) { let w = 2; let x = 3; }", impl.ErrFull, "let x = 3;"},
		// The name of a try is known in its second block.
		{lets(19) + "try { } catch (e) { }", impl.ErrFull, "try { } catch (e) { }"}, {lets(18) + "try { } catch (e) { let w = 2; }", impl.ErrFull, "let w = 2;"}, {lets(18) + "try { let w = 2; let x = 3; } catch (e) { }", impl.ErrFull, "let x = 3;"}, {lets(19) + "{ try { } catch (v3) { } }", impl.ErrFull, "try { } catch (v3) { }"}, {lets(17) + "try { } catch (e) { try { } catch (e) { let e = 2; } }", impl.ErrFull, "let e = 2;"},
	})
}

// Of several faults the one that the document names first counts.
func TestWhichFaultComesFirst(t *testing.T) {
	eight := numbered(0, 8, "function f#() { } ")
	lets := numbered(0, 19, "let v#=1;")
	wantFaults(t, []fault{
		// The heads of all functions, in turn, ahead of all else.
		{"x; function f() { y; } function len() { z; }", impl.ErrTwice, "function len() { z; }"}, {"x; function f() { y; } function g(a, b, c, d, e) { }", impl.ErrMany, "function g(a, b, c, d, e) { }"}, {"x; " + eight + "function g() { }", impl.ErrMany, "function g() { }"},
		{"function f(a, b, c, d, e) { } function f() { }", impl.ErrMany, "function f(a, b, c, d, e) { }"}, {"function f() { } function f(a, b, c, d, e) { }", impl.ErrTwice, "function f(a, b, c, d, e) { }"}, {"function len(a, b, c, d, e) { }", impl.ErrTwice, "function len(a, b, c, d, e) { }"},
		{eight + "function f3() { 1; }", impl.ErrTwice, "function f3() { 1; }"}, {eight + "function g() { } function f3() { 1; }", impl.ErrMany, "function g() { }"}, {"function len() { } " + eight, impl.ErrTwice, "function len() { }"}, {"function g(a, b, c, d, e) { } " + eight, impl.ErrMany, "function g(a, b, c, d, e) { }"},
		{"function f(a, a) { } function f() { }", impl.ErrTwice, "function f() { }"}, {"function f(a, a) { } function g(a, b, c, d, e) { }", impl.ErrMany, "function g(a, b, c, d, e) { }"}, {"function f(a, a) { } function max() { }", impl.ErrTwice, "function max() { }"},
		// Function by function, a parameter that is there twice ahead of what the function has; then the outmost block.
		{"function f() { x; } function g(a, a) { }", impl.ErrName, "x"}, {"function g(a, a) { x; } function f() { y; }", impl.ErrTwice, "function g(a, a) { x; }"}, {"x; function f() { y; } z;", impl.ErrName, "y"}, {"x; function f() { } y; function g() { z; }", impl.ErrName, "z"}, {"let x = 1; let x = 2; function f() { len(); }", impl.ErrCount, "len()"}, {"y; function f() { } x;", impl.ErrName, "y"},
		// As it is written.
		{"x; y;", impl.ErrName, "x"}, {"x + y;", impl.ErrName, "x"}, {"path + (x * y) - z;", impl.ErrName, "x"}, {"len(); x;", impl.ErrCount, "len()"}, {"{ { x; } } y;", impl.ErrName, "x"}, {"if (x) { y; } else { z; }", impl.ErrName, "x"}, {"if (1) { } else { y; } z;", impl.ErrName, "y"}, {"while (x) { y; }", impl.ErrName, "x"}, {"try { x; } catch (e) { y; }", impl.ErrName, "x"}, {"try { } catch (e) { y; } x;", impl.ErrName, "y"},
		// A node ahead of its kids.
		{"x = y;", impl.ErrName, "x = y;"}, {"f(x);", impl.ErrName, "f(x)"}, {"len(x, y);", impl.ErrCount, "len(x, y)"}, {"len(len());", impl.ErrCount, "len()"}, {"max(len(), x);", impl.ErrCount, "len()"}, {"max(x, len());", impl.ErrName, "x"}, {"max(len(len()));", impl.ErrCount, "max(len(len()))"}, {"f(f(1)); function g() { }", impl.ErrName, "f(f(1))"},
		{"try { x; } catch (path) { y; }", impl.ErrTwice, "try { x; } catch (path) { y; }"}, {"let e = 1; try { let e = x; } catch (e) { let e = 1; let e = 2; }", impl.ErrTwice, "try { let e = x; } catch (e) { let e = 1; let e = 2; }"}, {lets + "try { x; } catch (e) { }", impl.ErrFull, "try { x; } catch (e) { }"}, {lets + "try { let w = 1; } catch (e) { }", impl.ErrFull, "try { let w = 1; } catch (e) { }"},
		// But for a let.
		{"let path = x;", impl.ErrName, "x"}, {"let x = 1; let x = len();", impl.ErrCount, "len()"}, {"let path = f(x);", impl.ErrName, "f(x)"}, {lets + "let w = x;", impl.ErrName, "x"},
		// Of one node.
		{lets + "let v3 = 2;", impl.ErrTwice, "let v3 = 2;"}, {lets + "let path = 2;", impl.ErrTwice, "let path = 2;"}, {lets + "try { } catch (v3) { }", impl.ErrTwice, "try { } catch (v3) { }"},
	})
}

// Each two faults in one source, each within a function or the outmost block.
func TestEachTwoFaults(t *testing.T) {
	parts := []string{"x;", "x = y;", "let x = y;", "f(y);", "len();", "let a = 1; let a = 2;", "let path = y;", "try { y; } catch (path) { z; }", "let e = 1; try { } catch (e) { }", "{ let b = 1; } b;", "1;", numbered(0, 21, "let v#=1;"),
		"function f(a, a) { x; }", "function f() { y; }", "function f(a, b, c, d, e) { z; }", "function len() { }", numbered(0, 8, "function g#(){}")}
	for _, p := range parts {
		for _, q := range parts {
			for _, form := range []string{"P Q", "Q function h() { P }", "function h() { P Q }", "{ P } Q", "if (1) { P } else { Q }", "try { P } catch (e) { Q }"} {
				s := strings.ReplaceAll(strings.ReplaceAll(form, "Q", q), "P", p)
				if tree, _, code := impl.ParseSource(s); code == impl.OK {
					wantNameAnswers(t, tree)
				}
			}
		}
	}
}

func TestNamesOfAllShortSources(t *testing.T) {
	t.Parallel()
	count := 0
	for _, texts := range []string{
		"let a=b;|let b=1;|a;|b=a;|{|}|try{|}catch(a){|let path=a;",
		"let a=1;|a=path;|function f(a){|function f(){|function g(a,b){|}|f(a);|g(f(1),a);|{",
	} {
		forEachList(strings.Split(texts, "|"), 5, func(s string) {
			if tree, _, code := impl.ParseSource(s); code == impl.OK && !t.Failed() {
				count++
				wantNameAnswers(t, tree)
			}
		})
	}
	if count < 4000 {
		t.Errorf("only %d sources were read", count)
	}
}

func TestNamesByChance(t *testing.T) {
	t.Parallel()
	g := &gardener{Rand: rand.New(rand.NewSource(11))}
	codes := map[int]int{}
	for i := range 2000 {
		p := g.tended(5+i%90, i%10)
		for range i % 3 {
			g.renamed(p)
		}
		tree := p.shuffled(g.Rand)
		if !rightTree(tree) {
			wantBadNames(t, tree)
			codes[-1]++
		} else {
			wantNameAnswers(t, tree)
			codes[faultWanted(tree).Code]++
		}
		if t.Failed() {
			return
		}
	}
	for code, least := range map[int]int{impl.OK: 500, impl.ErrName: 300, impl.ErrCount: 60, impl.ErrTwice: 60, impl.ErrMany: 10, impl.ErrFull: 60} {
		if codes[code] < least {
			t.Errorf("only %d of the trees had %d: %v", codes[code], code, codes)
		}
	}
}

func TestFuncsOf(t *testing.T) {
	for s, want := range map[string][]string{
		"": nil, "1; path;": nil, "function f() { }": {"f"}, "function b() { } 1; function a(b) { a; } { } function c() { }": {"b", "a", "c"},
		// Also with faults.
		"function f() { } function f(a) { } function len() { }": {"f", "f", "len"}, numbered(0, 10, "function f#(){}"): strings.Fields(numbered(0, 10, "f# ")),
	} {
		tree := parsed(t, s)
		got, code := impl.FuncsOf(tree)
		wantNames(t, "FuncsOf", tree, 0, got, code, want, impl.OK)
	}
	most := plBlock()
	for i := range 99 {
		most.kids = append(most.kids, plFunc("f"+strconv.Itoa(98-i), nil, plBlock()))
	}
	wantNameAnswers(t, most.parsed())
	wantNameAnswers(t, most.shuffledOnce(3))
}

func TestSlotsOf(t *testing.T) {
	for s, want := range map[string][]int{ // of each function, then of the Root
		"": {1}, "path;": {1}, "{ { } }": {1}, "let x = 1;": {2}, "let x = 1; let y = 2;": {3}, "{ let x = 1; } { let y = 1; } let z = 1;": {2}, "{ let x = 1; let y = 1; } let z = 1;": {3}, "let z = 1; { let x = 1; let y = 1; }": {4}, "let x = 1; { let x = 2; { let x = 3; } } { let x = 4; }": {4},
		"if (1) { let x = 1; } else { let x = 1; let y = 1; }": {3}, "while (1) { let x = 1; }": {2}, "try { } catch (e) { }": {2}, "try { let a = 1; let b = 1; } catch (e) { }": {3}, "try { let a = 1; } catch (e) { let a = 1; let b = 1; }": {4}, "try { } catch (e) { let e = 1; }": {3}, "try { } catch (e) { try { } catch (e) { } }": {3}, "try { try { } catch (e) { } } catch (e) { }": {2},
		"function f() { }": {0, 1}, "function f(a) { }": {1, 1}, "function f(a, b, c, d) { }": {4, 1}, "function f(a) { let a = 1; }": {2, 1}, "function f() { { let x = 1; } try { } catch (e) { } } let y = 1; function g(a, b) { let c = 1; } let z = 1;": {1, 3, 3}, "function f(a) { { let b = 1; let c = 1; } let d = 1; } function g() { }": {3, 0, 1},
		"function f(a, b, c, d) { " + numbered(0, 16, "let v#=1;") + "}" + numbered(0, 19, "let v#=1;"): {20, 20},
	} {
		tree := parsed(t, s)
		for i, k := range append(funcsWanted(tree), tree.Root) {
			got, code := impl.SlotsOf(tree, k)
			wantNumber(t, "SlotsOf "+s, tree, k, got, code, want[i], impl.OK)
		}
	}
	// A fault anywhere is ErrName, whatever it is; a place that is none comes first.
	for _, s := range []string{"x; function f() { }", "function f() { x; } function g() { }", "function f(a, a) { }", "function f() { } function f() { }", "function f() { } len();", "function f(a, b, c, d, e) { }", "let path = 1; function f() { }", numbered(0, 9, "function f#(){}"), numbered(0, 20, "let v#=1;")} {
		tree := parsed(t, s)
		for _, k := range append(funcsWanted(tree), tree.Root) {
			got, code := impl.SlotsOf(tree, k)
			wantNumber(t, "SlotsOf", tree, k, got, code, 0, impl.ErrName)
		}
		for _, k := range []int{-1, 0, len(tree.Nodes), math.MaxInt} {
			got, code := impl.SlotsOf(tree, k)
			wantNumber(t, "SlotsOf", tree, k, got, code, 0, impl.ErrPlace)
		}
	}
}

func TestScopeAt(t *testing.T) {
	for s, want := range map[string][][]string{ // of each function, then of the Root
		"": {{"path"}}, "let x = 1;": {{"path"}}, "function f() { }": {nil, {"path"}}, "function f(b, a) { let c = 1; } function g(path) { } let y = 1;": {{"b", "a"}, {"path"}, {"path"}},
		// Also with faults.
		"function f(a, a, b, c, d, e) { x; }": {{"a", "a", "b", "c", "d", "e"}, {"path"}}, "function f(a) { } function f(b) { }": {{"a"}, {"b"}, {"path"}},
	} {
		tree := parsed(t, s)
		for i, k := range append(funcsWanted(tree), tree.Root) {
			got, code := impl.ScopeAt(tree, k)
			wantNames(t, "ScopeAt", tree, k, got, code, want[i], impl.OK)
		}
	}
}

func TestUsesOf(t *testing.T) {
	tree := parsed(t, "function a(a) { a = a + a; } let a = 1; try { a; } catch (a) { a(path, 'a'); } path = b;")
	for name, want := range map[string]int{"a": 4, "path": 2, "b": 1, "": 0, "A": 0, "aa": 0, "len": 0} {
		got, code := impl.UsesOf(tree, name)
		wantNumber(t, "UsesOf "+name, tree, 0, got, code, want, impl.OK)
	}
	for _, p := range rightPlants() {
		tree := p.parsed()
		for _, name := range noNames() {
			got, code := impl.UsesOf(tree, name)
			wantNumber(t, "UsesOf", tree, 0, got, code, 0, impl.OK)
		}
	}
}

func TestCallsOf(t *testing.T) {
	const functions = "function f(a) { return g(f(a)); } function g(a) { if (a) { h(); } return len(h()); } function h() { } "
	for s, want := range map[string][]string{
		"": nil, "f(1);": {"f"}, "f(g(1));": {"g", "f"}, "f(f(f(1)));": {"f"}, "f(1); g(1); f(2); h();": {"f", "g", "h"}, "h() + f(g(1));": {"h", "g", "f"}, "f(g(f(1)));": {"f", "g"}, "len(path); str(1);": nil, "len(f(1));": {"f"}, "nosuch(h());": {"h"}, "path(1);": nil,
		"if (h()) { g(1); } else { f(1); }": {"h", "g", "f"}, "while (g(1)) { h(); }": {"g", "h"}, "let x = h(); x = g(f(1)); throw -h();": {"h", "f", "g"}, "try { g(1); } catch (e) { f(e); }": {"g", "f"}, "{ { return !h(); } }": {"h"}, "h() && g(1) || f(1);": {"h", "g", "f"}, "let f = 1; f;": nil,
	} {
		for _, whole := range []string{functions + s, s + functions} {
			tree := parsed(t, whole)
			got, code := impl.CallsOf(tree, tree.Root)
			wantNames(t, "CallsOf "+s, tree, tree.Root, got, code, want, impl.OK)
			for i, want := range [][]string{{"f", "g"}, {"h"}, nil} {
				k := funcsWanted(tree)[i]
				got, code := impl.CallsOf(tree, k)
				wantNames(t, "CallsOf "+s, tree, k, got, code, want, impl.OK)
			}
			wantNameAnswers(t, tree)
		}
	}
	tree := parsed(t, functions+"f(g(1)) + h();")
	for node, want := range map[string][]string{"f(g(1))": {"g", "f"}, "g(1)": {"g"}, "f(a)": {"f"}, "g(f(a))": {"f", "g"}, "(f(g(1)) + h());": {"g", "f", "h"}, "{ h(); }": {"h"}, "if (a) { h(); }": {"h"}, "return len(h());": {"h"}, "1": nil} {
		k := nodeWritten(t, tree, node)
		got, code := impl.CallsOf(tree, k)
		wantNames(t, "CallsOf "+node, tree, k, got, code, want, impl.OK)
	}
}

func TestComes(t *testing.T) {
	tree := parsed(t, "function a() { b(); } function b() { c(); d(); } function c() { b(); } function d() { len(path); } function e() { return e(); } function f() { } e(a());")
	for from, reached := range map[string]string{"a": "bcd", "b": "bcd", "c": "bcd", "d": "", "e": "e", "f": ""} {
		for _, to := range strings.Split("abcdef", "") {
			wantComes(t, tree, from, to, strings.Contains(reached, to), impl.OK)
		}
		for _, none := range append(noNames(), "len", "path", "g", "A") {
			wantComes(t, tree, from, none, false, impl.ErrName)
			wantComes(t, tree, none, from, false, impl.ErrName)
			wantComes(t, tree, none, none, false, impl.ErrName)
		}
	}
	wantComes(t, parsed(t, ""), "path", "path", false, impl.ErrName)
	// Of functions of one name the first one counts.
	tree = parsed(t, "function f() { g(); } function f() { h(); } function g() { } function h() { f(); }")
	wantComes(t, tree, "f", "g", true, impl.OK)
	wantComes(t, tree, "f", "h", false, impl.OK)
	wantComes(t, tree, "h", "g", true, impl.OK)
	wantNameAnswers(t, tree)
}

// A ring, and a row that leads into none, of as many functions as a tree can have.
func TestComesThroughManyFunctions(t *testing.T) {
	for _, count := range []int{1, 2, 8, 49} {
		ring, row := plBlock(), plBlock()
		for i := range count {
			name, next := "f"+strconv.Itoa(i), "f"+strconv.Itoa((i+1)%count)
			ring.kids = append(ring.kids, plFunc(name, nil, plBlock(plDo(pl(impl.NoCall, next)))))
			row.kids = append(row.kids, plFunc(name, nil, plBlock()))
			if i < count-1 {
				row.kids[i].kids[0].kids = []*plant{pl(impl.NoReturn, "", pl(impl.NoCall, next))}
			}
		}
		for i := range count {
			for j := range count {
				from, to := "f"+strconv.Itoa(i), "f"+strconv.Itoa(j)
				wantComes(t, ring.parsed(), from, to, true, impl.OK)
				wantComes(t, row.parsed(), from, to, i < j, impl.OK)
			}
		}
	}
}

func TestPlacesWithoutNames(t *testing.T) {
	trees := []impl.Tree{parsed(t, ""), parsed(t, "function f(a) { return a; } let x = f(1); { }"), parsed(t, "y;")}
	for _, p := range rightPlants() {
		trees = append(trees, p.parsed())
	}
	for _, tree := range trees {
		for _, k := range otherPlaces(len(tree.Nodes)) {
			if k >= 0 && k < len(tree.Nodes) {
				continue
			}
			slots, code := impl.SlotsOf(tree, k)
			wantNumber(t, "SlotsOf", tree, k, slots, code, 0, impl.ErrPlace)
			got, code := impl.ScopeAt(tree, k)
			wantNames(t, "ScopeAt", tree, k, got, code, nil, impl.ErrPlace)
			got, code = impl.CallsOf(tree, k)
			wantNames(t, "CallsOf", tree, k, got, code, nil, impl.ErrPlace)
		}
		wantNameAnswers(t, tree)
	}
}

// A name that is too long is told ahead of a tree that is not right.
func TestNamesThatAreTooLong(t *testing.T) {
	for _, tree := range []impl.Tree{{}, parsed(t, ""), parsed(t, "function f() { } x;"), {Root: -1}} {
		for _, long := range tooLong() {
			got, code := impl.UsesOf(tree, long)
			wantNumber(t, "UsesOf", tree, 0, got, code, 0, impl.ErrLong)
			for _, other := range []string{"f", "", "nosuch", long} {
				wantComes(t, tree, long, other, false, impl.ErrLong)
				wantComes(t, tree, other, long, false, impl.ErrLong)
			}
		}
		for _, name := range noNames() {
			if _, code := impl.UsesOf(tree, name); code == impl.ErrLong {
				t.Errorf("UsesOf of %d bytes is ErrLong", len(name))
			}
			if _, code := impl.Comes(tree, name, name); code == impl.ErrLong {
				t.Errorf("Comes of %d bytes is ErrLong", len(name))
			}
		}
	}
}

// An empty list and nil are alike, and so are texts of other memory.
func TestNamesOfEmptyLists(t *testing.T) {
	bare := parsed(t, "function f() { g(); } function g() { let a = 1; } f();")
	full := cloneTree(bare) // with lists that are empty where these are nil
	for k := range bare.Nodes {
		if full.Nodes[k].Kids == nil || full.Nodes[k].Names == nil {
			t.Fatal("the lists are nil")
		}
	}
	for _, tree := range []impl.Tree{bare, full} {
		wantNameAnswers(t, tree)
	}
}

// What is answered is its caller's own, and shares nothing with the tree.
func TestNameListsShareNothing(t *testing.T) {
	tree := parsed(t, "function f(a, b) { return g(f(a, b)); } function g(a) { } f(g(1), 2);")
	f := funcsWanted(tree)[0]
	for _, list := range []func() ([]string, int){
		func() ([]string, int) { return impl.FuncsOf(tree) },
		func() ([]string, int) { return impl.ScopeAt(tree, f) },
		func() ([]string, int) { return impl.ScopeAt(tree, tree.Root) },
		func() ([]string, int) { return impl.CallsOf(tree, f) },
		func() ([]string, int) { return impl.CallsOf(tree, tree.Root) },
	} {
		before := cloneTree(tree)
		first, _ := list()
		want := slices.Clone(first)
		second, _ := list()
		clear(first[:cap(first)])
		if third, _ := list(); !slices.Equal(second, want) || !slices.Equal(third, want) || len(want) == 0 {
			t.Errorf("the answer %q was written over: %q, then %q", want, second, third)
		}
		if !sameTree(tree, before) {
			t.Errorf("what was written into an answer is to be seen in the tree: %s", briefTree(tree))
		}
	}
}
