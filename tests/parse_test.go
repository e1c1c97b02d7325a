package tests

import (
	"math/rand"
	"slices"
	"strconv"
	"strings"
	"testing"

	"loop.example/g00370/impl"
)

func sameNode(a, b impl.Node) bool {
	return a.Kind == b.Kind && a.N == b.N && a.Text == b.Text && slices.Equal(a.Names, b.Names) && slices.Equal(a.Kids, b.Kids)
}

func sameTree(a, b impl.Tree) bool {
	return a.Root == b.Root && slices.EqualFunc(a.Nodes, b.Nodes, sameNode)
}

func wantParse(t *testing.T, s string, want *plant) {
	t.Helper()
	tree, place, code := impl.ParseSource(s)
	if !sameTree(tree, want.parsed()) || place != 0 || code != impl.OK {
		t.Errorf("ParseSource(%.120q) = %s, %d, %d; want %s", s, briefTree(tree), place, code, briefTree(want.parsed()))
	}
}

func wantParseFault(t *testing.T, s string, wantPlace, wantCode int) {
	t.Helper()
	tree, place, code := impl.ParseSource(s)
	if !sameTree(tree, impl.Tree{}) || place != wantPlace || code != wantCode {
		t.Errorf("ParseSource(%.120q) = %s, %d, %d; want none, %d, %d", s, briefTree(tree), place, code, wantPlace, wantCode)
	}
}

// wantParseAsReckoned is called of thousands of sources: behind a first fault it says nothing, so that this one is found.
func wantParseAsReckoned(t *testing.T, s string) {
	t.Helper()
	if t.Failed() {
		return
	}
	nodes, wantPlace, wantCode := parseWanted(s)
	tree, place, code := impl.ParseSource(s)
	if len(tree.Nodes) != nodes || place != wantPlace || code != wantCode {
		t.Errorf("ParseSource(%q) = %d nodes, %d, %d; want %d, %d, %d", s, len(tree.Nodes), place, code, nodes, wantPlace, wantCode)
	}
	if code != impl.OK {
		wantParseFault(t, s, wantPlace, wantCode)
	} else if tree.Root != nodes-1 || !rightTree(tree) {
		t.Errorf("ParseSource(%q) = %s, which is not right", s, briefTree(tree))
	}
}

func TestTreeConstantsAreTheDocuments(t *testing.T) {
	for i, got := range []int{impl.NoInt, impl.NoText, impl.NoBool, impl.NoNull, impl.NoName, impl.NoUnary, impl.NoBinary, impl.NoAnd, impl.NoOr, impl.NoCall,
		impl.NoLet, impl.NoSet, impl.NoIf, impl.NoWhile, impl.NoReturn, impl.NoThrow, impl.NoTry, impl.NoBlock, impl.NoDo, impl.NoFunc} {
		if got != i+1 {
			t.Errorf("the kind %d is %d", i+1, got)
		}
	}
	if impl.MaxNodes != 200 || impl.MaxDepth != 20 {
		t.Errorf("MaxNodes %d, MaxDepth %d; want 200, 20", impl.MaxNodes, impl.MaxDepth)
	}
}

func TestParseEachExpression(t *testing.T) {
	a, b := plName("a"), plName("b")
	for s, want := range map[string]*plant{
		"0;": plInt(0), "2147483647;": plInt(2147483647),
		"'';": pl(impl.NoText, ""), `'it\'s \\';`: pl(impl.NoText, `it's \`), "'let';": pl(impl.NoText, "let"), "'(';": pl(impl.NoText, "("), "'-';": pl(impl.NoText, "-"), "'null';": pl(impl.NoText, "null"),
		"true;": {kind: impl.NoBool, n: 1}, "false;": {kind: impl.NoBool}, "null;": pl(impl.NoNull, ""),
		"a;": a, "lets;": plName("lets"), "zzzzzzzzzzzzzzzzzzz0;": plName("zzzzzzzzzzzzzzzzzzz0"),
		"!a;": pl(impl.NoUnary, "!", a), "-1;": pl(impl.NoUnary, "-", plInt(1)), "!-!a;": pl(impl.NoUnary, "!", pl(impl.NoUnary, "-", pl(impl.NoUnary, "!", a))),
		"a||b;": pl(impl.NoOr, "", a, b), "a&&b;": pl(impl.NoAnd, "", a, b),
		"a<b;": pl(impl.NoBinary, "<", a, b), "a==b;": pl(impl.NoBinary, "==", a, b), "a+b;": pl(impl.NoBinary, "+", a, b), "a-b;": pl(impl.NoBinary, "-", a, b),
		"a*b;": pl(impl.NoBinary, "*", a, b), "a/b;": pl(impl.NoBinary, "/", a, b), "a%b;": pl(impl.NoBinary, "%", a, b),
		"a();": pl(impl.NoCall, "a"), "a(b);": pl(impl.NoCall, "a", b), "a(b,'',1);": pl(impl.NoCall, "a", b, pl(impl.NoText, ""), plInt(1)), "a ( a(a()) );": pl(impl.NoCall, "a", pl(impl.NoCall, "a", pl(impl.NoCall, "a"))),
		"(a);": a, "(((1)));": plInt(1), "(a)-b;": pl(impl.NoBinary, "-", a, b), "-(a-b);": pl(impl.NoUnary, "-", pl(impl.NoBinary, "-", a, b)), "a- -b;": pl(impl.NoBinary, "-", a, pl(impl.NoUnary, "-", b)),
	} {
		wantParse(t, s, plBlock(plDo(want)))
	}
}

func TestParseEachStatement(t *testing.T) {
	a, b, c := plName("a"), plName("b"), plName("c")
	for s, want := range map[string]*plant{
		"":                             plBlock(),
		" \n\t ":                       plBlock(),
		"let x = a;":                   plBlock(pl(impl.NoLet, "x", a)),
		"x=a;":                         plBlock(pl(impl.NoSet, "x", a)),
		"x==a;":                        plBlock(plDo(pl(impl.NoBinary, "==", plName("x"), a))),
		"if(a){}":                      plBlock(pl(impl.NoIf, "", a, plBlock())),
		"if(a){}else{}":                plBlock(pl(impl.NoIf, "", a, plBlock(), plBlock())),
		"if(a){b;}else{c;}":            plBlock(pl(impl.NoIf, "", a, plBlock(plDo(b)), plBlock(plDo(c)))),
		"if(a){if(b){}else{}}":         plBlock(pl(impl.NoIf, "", a, plBlock(pl(impl.NoIf, "", b, plBlock(), plBlock())))),
		"if(a){if(b){}}else{}":         plBlock(pl(impl.NoIf, "", a, plBlock(pl(impl.NoIf, "", b, plBlock())), plBlock())),
		"while(a){b;}":                 plBlock(pl(impl.NoWhile, "", a, plBlock(plDo(b)))),
		"while((a)){}":                 plBlock(pl(impl.NoWhile, "", a, plBlock())),
		"return a;":                    plBlock(pl(impl.NoReturn, "", a)),
		"throw a;":                     plBlock(pl(impl.NoThrow, "", a)),
		"try{a;}catch(e){b;}":          plBlock(pl(impl.NoTry, "e", plBlock(plDo(a)), plBlock(plDo(b)))),
		"{}":                           plBlock(plBlock()),
		"{{}{a;}b;}":                   plBlock(plBlock(plBlock(), plBlock(plDo(a)), plDo(b))),
		"function f(){}":               plBlock(plFunc("f", nil, plBlock())),
		"function f(a){a;}":            plBlock(plFunc("f", []string{"a"}, plBlock(plDo(a)))),
		"function f(b,a,b){}":          plBlock(plFunc("f", []string{"b", "a", "b"}, plBlock())),
		"a;function f(x){}b;":          plBlock(plDo(a), plFunc("f", []string{"x"}, plBlock()), plDo(b)),
		"function f(){}function f(){}": plBlock(plFunc("f", nil, plBlock()), plFunc("f", nil, plBlock())),
		"function f(a,b,c,d,e,g){}":    plBlock(plFunc("f", []string{"a", "b", "c", "d", "e", "g"}, plBlock())),
		"f(a)==b;":                     plBlock(plDo(pl(impl.NoBinary, "==", pl(impl.NoCall, "f", a), b))),
		"let path = a; let path = b;":  plBlock(pl(impl.NoLet, "path", a), pl(impl.NoLet, "path", b)),
	} {
		wantParse(t, s, want)
	}
}

// Of each two signs that with the greater closeness takes the middle; of two alike the first one does.
func TestParseClosenessOfEachTwoSigns(t *testing.T) {
	signs := strings.Fields(strings.Join(closeness, " "))
	for _, p := range signs {
		for _, q := range signs {
			a, b, c := plName("a"), plName("b"), plName("c")
			want := plBinary(q, plBinary(p, a, b), c)
			if closenessWanted(p) < closenessWanted(q) {
				want = plBinary(p, a, plBinary(q, b, c))
			}
			wantParse(t, "a "+p+" b "+q+" c;", plBlock(plDo(want)))
			wantParse(t, "(a"+p+"b)"+q+"c;", plBlock(plDo(plBinary(q, plBinary(p, a, b), c))))
			wantParse(t, "a"+p+"(b"+q+"c);", plBlock(plDo(plBinary(p, a, plBinary(q, b, c)))))
		}
		for _, u := range []string{"!", "-"} {
			wantParse(t, u+"a "+p+" "+u+"b;", plBlock(plDo(plBinary(p, pl(impl.NoUnary, u, plName("a")), pl(impl.NoUnary, u, plName("b"))))))
		}
	}
}

func TestParseNodesStandAsTheyEnd(t *testing.T) {
	tree, place, code := impl.ParseSource("function f(p) { if (!p) { return g(1, p); } } x = 'a' + 2 * y;")
	want := impl.Tree{Root: 16, Nodes: []impl.Node{
		{Kind: impl.NoName, Text: "p"}, {Kind: impl.NoUnary, Text: "!", Kids: []int{0}},
		{Kind: impl.NoInt, N: 1}, {Kind: impl.NoName, Text: "p"}, {Kind: impl.NoCall, Text: "g", Kids: []int{2, 3}}, {Kind: impl.NoReturn, Kids: []int{4}}, {Kind: impl.NoBlock, Kids: []int{5}},
		{Kind: impl.NoIf, Kids: []int{1, 6}}, {Kind: impl.NoBlock, Kids: []int{7}}, {Kind: impl.NoFunc, Text: "f", Names: []string{"p"}, Kids: []int{8}},
		{Kind: impl.NoText, Text: "a"}, {Kind: impl.NoInt, N: 2}, {Kind: impl.NoName, Text: "y"}, {Kind: impl.NoBinary, Text: "*", Kids: []int{11, 12}}, {Kind: impl.NoBinary, Text: "+", Kids: []int{10, 13}}, {Kind: impl.NoSet, Text: "x", Kids: []int{14}},
		{Kind: impl.NoBlock, Kids: []int{9, 15}},
	}}
	if !sameTree(tree, want) || place != 0 || code != impl.OK {
		t.Errorf("got %s, %d, %d; want %s", briefTree(tree), place, code, briefTree(want))
	}
}

// respaced writes the tokens of a source with other blanks between, or none where they stay what they are.
func (g *gardener) respaced(s string) string {
	tokens, _, _ := lexWanted(s)
	var out strings.Builder
	last := ""
	for _, x := range tokens {
		text := writtenWanted(x)
		blank := []string{"", "", " ", "\n", "\t", " \n "}[g.Intn(6)]
		if pair, _, _ := lexWanted(last + text); blank == "" && last != "" && (len(pair) != 2 || writtenWanted(pair[0]) != last) {
			blank = " "
		}
		out.WriteString(blank + text)
		last = text
	}
	return out.String()
}

func TestParseSourcesByChance(t *testing.T) {
	t.Parallel()
	g := &gardener{Rand: rand.New(rand.NewSource(5))}
	read := 0
	for i := range 3000 {
		p := g.source(1 + i%60)
		s := g.respaced(g.rootWritten(p))
		wantParseAsReckoned(t, s)
		if _, _, code := parseWanted(s); code == impl.OK && !t.Failed() {
			wantParse(t, s, p)
			wantPrinted(t, p.parsed(), p.rootPrinted(), p.parsed())
			read++
		}
	}
	if read < 2000 {
		t.Errorf("only %d sources were right", read)
	}
}

// Each token of a right source is left out, doubled, put behind the next one, or another one stands there; and the source ends there.
func TestParseFaultsAtEachToken(t *testing.T) {
	t.Parallel()
	g := &gardener{Rand: rand.New(rand.NewSource(6))}
	others := strings.Fields("let if else while return throw try catch function true null a 7 'x' + - ! == = && ( ) { } , ; #")
	for i := range 160 {
		parts := strings.Fields(g.rootWritten(g.source(2 + i%25)))
		for k := range parts {
			other := others[g.Intn(len(others))]
			swapped := slices.Clone(parts)
			if k > 0 {
				swapped[k-1], swapped[k] = swapped[k], swapped[k-1]
			}
			for _, list := range [][]string{parts[:k], slices.Delete(slices.Clone(parts), k, k+1), slices.Insert(slices.Clone(parts), k, parts[k]), slices.Insert(slices.Clone(parts), k, other), slices.Replace(slices.Clone(parts), k, k+1, other), swapped} {
				wantParseAsReckoned(t, strings.Join(list, " "))
			}
		}
	}
}

// forEachList goes through all lists of at most size texts, a blank between.
func forEachList(texts []string, size int, do func(string)) {
	do("")
	if size == 0 {
		return
	}
	for _, first := range texts {
		forEachList(texts, size-1, func(s string) { do(first + " " + s) })
	}
}

func TestParseAllShortSources(t *testing.T) {
	t.Parallel()
	check := func(s string) { wantParseAsReckoned(t, s) }
	forEachList(strings.Fields("a 1 - + == = ( ) , ;"), 5, check)
	forEachList(strings.Fields("a ; { } ( ) if else while"), 5, check)
	forEachList(strings.Fields("a { } ( ) try catch function ,"), 5, check)
	forEachList(append(sourceWords(), "x", "0", "'='", "'('"), 3, check)
	forEachList(append(sourceSigns(), "x", "null"), 3, check)
	for _, ahead := range []string{"function f (", "function f ( a ,", "try { } catch", "if ( a ) { }", "let", "f ( a ,", "a = - ", "{ a ;", "while ("} {
		forEachList(strings.Fields("a ; { } ( ) , = else function !"), 4, func(s string) { check(ahead + " " + s) })
	}
}

func TestParseTellsThePlace(t *testing.T) {
	for _, c := range []struct {
		s     string
		place int
	}{
		// The token that comes next.
		{";", 0}, {"}", 0}, {")", 0}, {"=", 0}, {"else {}", 0}, {"catch (e) {}", 0}, {"  +1;", 2}, {"\n\n}", 2},
		{"1 2;", 2}, {"a b;", 2}, {"a = b = c;", 6}, {"1 = 2;", 2}, {"(a) = 2;", 4}, {"a() = 2;", 4}, {"let 1 = 2;", 4}, {"let if = 2;", 4}, {"let 'a' = 2;", 4}, {"let a 2;", 6}, {"let a == 2;", 6}, {"let a;", 5},
		{"return;", 6}, {"throw ;", 6}, {"return return 1;", 7}, {"a = let;", 4}, {"x = ;", 4}, {"a + ;", 4}, {"a + * b;", 4}, {"a - + b;", 4}, {"- ;", 2}, {"!;", 1}, {"a !b;", 2}, {"a ! = b;", 2},
		{"();", 1}, {"(a;", 2}, {"(a b);", 3}, {"a);", 1}, {"(a));", 3}, {"a(;", 2}, {"a(,);", 2}, {"a(1,);", 4}, {"a(1 2);", 4}, {"a(1;", 3}, {"a()();", 3}, {"1();", 1}, {"(a)();", 3}, {"'a'();", 3}, {"null();", 4}, {"if();", 3},
		{"if a {}", 3}, {"if () {}", 4}, {"if (a {}", 6}, {"if (a) b;", 7}, {"if (a) ;", 7}, {"if (a) {} else b;", 15}, {"if (a) {} else if (b) {}", 15}, {"if (a) {} else {} else {}", 18}, {"if (a = b) {}", 6}, {"if (a;) {}", 5},
		{"while {}", 6}, {"while (a) b;", 10}, {"while (a) {} else {}", 13}, {"while (let a = 1) {}", 7},
		{"try a;", 4}, {"try {} {}", 7}, {"try {} catch {}", 13}, {"try {} catch (1) {}", 14}, {"try {} catch () {}", 14}, {"try {} catch (e, f) {}", 15}, {"try {} catch (let) {}", 14}, {"try {} catch (e) a;", 17}, {"try {} a;", 7},
		{"{ a; ) }", 5}, {"{ a }", 4}, {"{};", 2}, {"{ } }", 4}, {"{ ; }", 2}, {"a;;", 2},
		{"function () {}", 9}, {"function f {}", 11}, {"function f(1) {}", 11}, {"function f(a,) {}", 13}, {"function f(a b) {}", 13}, {"function f(,) {}", 11}, {"function f(null) {}", 11}, {"function f(a = 1) {}", 13}, {"function f() a;", 13}, {"function f(a) ;", 14}, {"function if() {}", 9}, {"function 'f'() {}", 9}, {"function f() {};", 15},
		// Functions elsewhere than at the outmost level.
		{"{ function f() { } }", 2}, {"{ a; function f() { } }", 5}, {"if (a) { function f() { } }", 9}, {"while (a) { function f() { } }", 12}, {"function f() { function g() { } }", 15}, {"try { function f() { } } catch (e) { }", 6}, {"try { } catch (e) { function f() { } }", 20}, {"if (a) { } else { function f() { } }", 18}, {"x = function f() { };", 4}, {"f(function g() { });", 2}, {"if (a) function f() { }", 7},
		// The end: one behind where the last token begins, however long it is and whatever blanks follow.
		{"let", 1}, {"return 1", 8}, {"{", 1}, {"a", 1}, {"abc", 1}, {"  abc  \n", 3}, {"x = 2147483647 ", 5}, {"'long text'", 1}, {"a ==", 3}, {"a &&\n\n", 3}, {"function", 1}, {"function f", 10}, {"function f(", 11}, {"function f()", 12}, {"if (a) { } else", 12}, {"try { } catch (eee", 16}, {"a;{", 3}, {"f(1,", 4}, {"-", 1}, {"((", 2}, {"let a", 5}, {"let a =", 7},
	} {
		wantParseFault(t, c.s, c.place, impl.ErrForm)
		wantParseAsReckoned(t, c.s)
	}
}

func TestParseNamesAreNoWords(t *testing.T) {
	for _, w := range sourceWords() {
		for ahead, behind := range map[string]string{"let ": " = 1;", "a; ": " = 1;", "function ": "() { }", "function f(": ") { }", "function f(a, ": ") { }", "try { } catch (": ") { }"} {
			wantParseAsReckoned(t, ahead+w+behind)
			if _, _, code := impl.ParseSource(ahead + w + behind); code != impl.ErrForm {
				t.Errorf("%q is a name in %q", w, ahead+w+behind)
			}
			wantParseAsReckoned(t, ahead+w+"x"+behind)
			if _, place, code := impl.ParseSource(ahead + w + "x" + behind); code != impl.OK {
				t.Errorf("%q is no name in %q: %d, %d", w+"x", ahead+w+"x"+behind, place, code)
			}
		}
	}
	twenty := strings.Repeat("n", 20)
	for ahead, behind := range map[string]string{"": ";", " ": " = 1;", "let ": " = 1;", "f(": ");", "function ": "() { }", "function f(": ") { }", "try { } catch (": ") { }", "a + ": "(1);"} {
		if _, place, code := impl.ParseSource(ahead + twenty + behind); code != impl.OK {
			t.Errorf("ParseSource(%q): %d, %d", ahead+twenty+behind, place, code)
		}
		wantParseFault(t, ahead+twenty+"n"+behind, len(ahead), impl.ErrForm)
	}
}

func TestParseLexFaultsComeFirst(t *testing.T) {
	for _, c := range []struct {
		s           string
		place, code int
	}{
		{"a #", 2, impl.ErrForm}, {"} #", 2, impl.ErrForm}, {"let = 1; 01", 9, impl.ErrForm}, {strings.Repeat("(", 30) + "'", 30, impl.ErrForm}, {strings.Repeat("1;", 110) + " 'a", 221, impl.ErrForm},
		{strings.Repeat(";", 301), 300, impl.ErrMany}, {strings.Repeat("1;", 150) + "a", 300, impl.ErrMany}, {strings.Repeat("(", 301), 300, impl.ErrMany}, {strings.Repeat(";", 300) + " #", 301, impl.ErrMany},
		{strings.Repeat(";", 300), 0, impl.ErrForm}, {strings.Repeat(" ", 601), 0, impl.ErrSize}, {strings.Repeat("a", 601), 0, impl.ErrSize}, {strings.Repeat(" ", 600) + "}", 0, impl.ErrSize}, {strings.Repeat("#", 601), 0, impl.ErrSize}, {strings.Repeat("1;", 301), 0, impl.ErrSize},
		{strings.Repeat(" ", impl.MaxText), 0, impl.ErrSize}, {strings.Repeat(" ", impl.MaxText+1), 0, impl.ErrLong}, {strings.Repeat("}", impl.MaxText+1), 0, impl.ErrLong},
		{strings.Repeat(" ", 599) + "}", 599, impl.ErrForm}, {strings.Repeat(" ", 599) + "a", 600, impl.ErrForm}, {"a" + strings.Repeat(" ", 599), 1, impl.ErrForm}, {strings.Repeat(" ", 599) + "#", 599, impl.ErrForm},
	} {
		wantParseFault(t, c.s, c.place, c.code)
		wantParseAsReckoned(t, c.s)
	}
	wantParse(t, strings.Repeat(" ", 600), plBlock())
}

func TestParseMaxNodes(t *testing.T) {
	ones := func(n int) string { return strings.Repeat("1;", n) } // two nodes and two bytes each
	for s, nodes := range map[string]int{ones(99): 199, ones(98) + "-1;": 200, ones(98) + "{} {} {}": 200, ones(98) + "if (1) { }": 200} {
		wantParseAsReckoned(t, s)
		if tree, place, code := impl.ParseSource(s); len(tree.Nodes) != nodes || code != impl.OK {
			t.Errorf("ParseSource(%q) has %d nodes, %d, %d; want %d", s, len(tree.Nodes), place, code, nodes)
		}
	}
	for _, c := range []struct {
		ones  int // statements ahead of the tail
		tail  string
		place int // from the tail's beginning on
		code  int
	}{
		// The Root is node 201: behind the last token.
		{100, "", 0, impl.ErrMany}, {100, "  ", 0, impl.ErrMany}, {99, "{}{}", 4, impl.ErrMany}, {99, "{} {  } ", 7, impl.ErrMany}, {98, "if (1) { } else { } ", 19, impl.ErrMany}, {98, "function f() { f; }", 19, impl.ErrMany},
		// Another one is: the token behind it.
		{100, "1;", 1, impl.ErrMany}, {100, "  a  ;", 5, impl.ErrMany}, {100, "a+1;", 1, impl.ErrMany}, {100, "let a = 7 ; b;", 10, impl.ErrMany}, {100, "( ( a ) )", 6, impl.ErrMany}, {100, "a(  ) ;", 6, impl.ErrMany}, {100, "a(1, 2)", 3, impl.ErrMany}, {100, "{}1;", 2, impl.ErrMany},
		{99, "!1 ; a", 5, impl.ErrMany}, {99, "{{}}1 ;", 6, impl.ErrMany}, {99, "1+1+1;", 3, impl.ErrMany}, {99, "1+ 1 * 1;", 8, impl.ErrMany}, {98, "1+1*1 ;", 6, impl.ErrMany}, {99, "if (1) { } a", 11, impl.ErrMany}, {98, "f(1,2,3 ) ; a", 12, impl.ErrMany},
		// The same at the end of the source.
		{100, "1", 1, impl.ErrMany}, {100, "a", 1, impl.ErrMany}, {100, "a(1", 3, impl.ErrMany}, {99, "!1;", 3, impl.ErrMany}, {99, "a ( ) ;{}", 9, impl.ErrMany}, {99, "{}{}{}", 6, impl.ErrMany}, {99, "return 7; abc", 11, impl.ErrMany}, {99, "1+1", 3, impl.ErrMany}, {99, "if (1) { }", 10, impl.ErrMany}, {99, "function f() { } a", 18, impl.ErrMany}, {99, "try { } catch (e) { }", 21, impl.ErrMany}, {98, "try { } catch (e) { } a;", 24, impl.ErrMany},
		// A node that ends is looked at ahead of the token behind it.
		{100, "1 1", 2, impl.ErrMany}, {100, "1)", 1, impl.ErrMany}, {99, "--1 )", 4, impl.ErrMany}, {100, "{} }", 3, impl.ErrMany}, {100, "a b", 2, impl.ErrMany},
		// Another fault comes ahead of its end.
		{100, "}", 0, impl.ErrForm}, {100, ";", 0, impl.ErrForm}, {100, "let", 1, impl.ErrForm}, {100, "{", 1, impl.ErrForm}, {100, "(;", 1, impl.ErrForm}, {99, "1 1", 2, impl.ErrForm}, {99, "1", 1, impl.ErrForm}, {99, "{1", 2, impl.ErrForm}, {99, "-1 )", 3, impl.ErrForm}, {99, "{{}", 3, impl.ErrForm}, {98, "try { } catch (e) { } a", 23, impl.ErrForm},
		{100, strings.Repeat("(", 19) + "a", 19, impl.ErrDeep}, {100, strings.Repeat("(", 18) + "a", 19, impl.ErrMany},
	} {
		wantParseFault(t, ones(c.ones)+c.tail, 2*c.ones+c.place, c.code)
		wantParseAsReckoned(t, ones(c.ones)+c.tail)
	}
}

// deep has n times what opens, then the middle, then n times what shuts.
func deep(n int, opens, middle, shuts string) string {
	return strings.Repeat(opens, n) + middle + strings.Repeat(shuts, n)
}

func TestParseMaxDepth(t *testing.T) {
	for _, c := range []struct {
		opens, middle, shuts string
		most                 int // how many times it may open
		place                int // of the fault with one more
	}{
		{"(", "1", ")", 18, 19}, {"( ", "1", " )", 18, 38}, {"-", "1", "", 18, 19}, {"! ", "a", "", 18, 38}, {"f(", "1", ")", 18, 38}, {"f(1,", "a", ")", 18, 74}, {"f(a)+(", "1", ")", 18, 110},
		{"(-", "1", ")", 9, 19}, {"-(", "1", ")", 9, 19}, {"f(-", "1", ")", 9, 29},
	} {
		for ahead, behind := range map[string]string{"": ";", "return ": ";", "x = ": ";", "let x = ": ";", "if (": ") { }", "while (": ") { }", "function f() { ": "; }"} {
			for n := range c.most + 1 {
				wantParseAsReckoned(t, ahead+deep(n, c.opens, c.middle, c.shuts)+behind)
			}
			s := ahead + deep(c.most, c.opens, c.middle, c.shuts) + behind
			if tree, place, code := impl.ParseSource(s); code != impl.OK || !rightTree(tree) {
				t.Errorf("ParseSource(%q): %d, %d", s, place, code)
			}
			wantParseFault(t, ahead+deep(c.most+1, c.opens, c.middle, c.shuts)+behind, len(ahead)+c.place, impl.ErrDeep)
			wantParseFault(t, ahead+deep(c.most+3, c.opens, c.middle, c.shuts)+behind, len(ahead)+c.place, impl.ErrDeep)
			wantParseFault(t, ahead+deep(c.most+3, c.opens, "", ""), len(ahead)+c.place, impl.ErrDeep)
		}
	}
	for _, c := range []struct {
		opens, shuts string
		most, place  int
	}{
		{"{", "}", 20, 20}, {"{ ", "}", 20, 40}, {"if(1){", "}", 19, 117}, {"while(1){", "}", 19, 177}, {"try{", "}catch(e){}", 20, 80}, {"{{", "}}", 10, 20},
	} {
		wantParseAsReckoned(t, deep(c.most, c.opens, "", c.shuts))
		if tree, place, code := impl.ParseSource(deep(c.most, c.opens, "", c.shuts)); code != impl.OK || !rightTree(tree) {
			t.Errorf("ParseSource(%q): %d, %d", deep(c.most, c.opens, "", c.shuts), place, code)
		}
		wantParseFault(t, deep(c.most+1, c.opens, "", c.shuts), c.place, impl.ErrDeep)
		wantParseFault(t, "function f(){"+deep(c.most+1, c.opens, "", c.shuts)+"}", 13+c.place, impl.ErrDeep)
	}
}

func TestParseDepthIsOfBoth(t *testing.T) {
	for blocks := range 22 {
		for signs := range 22 {
			s := deep(blocks, "{", strings.Repeat("-", signs)+"1;", "}")
			wantParseAsReckoned(t, s)
			// Open are the blocks, the statement, its expression, and what stands behind each sign.
			if _, place, code := impl.ParseSource(s); (code == impl.OK) != (blocks+2+signs <= 20) || code != impl.OK && (code != impl.ErrDeep || blocks <= 18 && place != 19) {
				t.Errorf("ParseSource(%q): %d, %d", s, place, code)
			}
		}
	}
	// What has ended is open no more.
	for _, s := range []string{
		strings.Repeat("{}", 60), strings.Repeat("-1;", 60), strings.Repeat("(1)+", 60) + "1;", "f(" + strings.Repeat("(-1),", 40) + "1);", strings.Repeat("-1+", 60) + "1;", strings.Repeat("1<", 90) + "1;", strings.Repeat("1*-1+", 30) + "(1);",
		strings.Repeat("if(1){2;}else{3;}", 11), strings.Repeat("try{}catch(e){}", 23), strings.Repeat("function f(){}", 23), deep(18, "(", "1", ")") + ";" + deep(18, "(", "1", ")") + ";", deep(18, "-", "1", "") + "+" + deep(18, "-", "1", "") + ";",
	} {
		wantParseAsReckoned(t, s)
		if _, place, code := impl.ParseSource(s); code != impl.OK {
			t.Errorf("ParseSource(%q): %d, %d", s, place, code)
		}
	}
}

// With MaxDepth open a token that begins nothing is told as such; one that begins something is too deep.
func TestParseAtFullDepth(t *testing.T) {
	for s, want := range map[string][2]int{
		strings.Repeat("(", 19): {19, impl.ErrForm}, strings.Repeat("(", 19) + ")": {19, impl.ErrForm}, strings.Repeat("(", 19) + "let": {19, impl.ErrForm}, strings.Repeat("(", 19) + "1": {19, impl.ErrDeep}, strings.Repeat("(", 19) + "-": {19, impl.ErrDeep}, strings.Repeat("(", 19) + "'": {19, impl.ErrForm}, strings.Repeat("(", 19) + "''": {19, impl.ErrDeep}, strings.Repeat("(", 19) + "null": {19, impl.ErrDeep},
		strings.Repeat("-", 19): {19, impl.ErrForm}, strings.Repeat("-", 19) + ";": {19, impl.ErrForm}, strings.Repeat("-", 19) + "a": {19, impl.ErrDeep},
		strings.Repeat("{", 20): {20, impl.ErrForm}, strings.Repeat("{", 20) + ")": {20, impl.ErrForm}, strings.Repeat("{", 20) + "function": {20, impl.ErrForm}, strings.Repeat("{", 20) + "else": {20, impl.ErrForm}, strings.Repeat("{", 20) + "try": {20, impl.ErrDeep}, strings.Repeat("{", 20) + "a": {20, impl.ErrDeep}, strings.Repeat("{", 20) + "{": {20, impl.ErrDeep}, strings.Repeat("{", 20) + "}": {21, impl.ErrForm},
		strings.Repeat("{", 19) + "a": {19, impl.ErrDeep}, strings.Repeat("{", 19) + "a=": {21, impl.ErrForm}, strings.Repeat("{", 19) + "a=1": {21, impl.ErrDeep}, strings.Repeat("{", 19) + "a==": {19, impl.ErrDeep}, strings.Repeat("{", 19) + "a '='": {19, impl.ErrDeep}, strings.Repeat("{", 19) + "return": {20, impl.ErrForm}, strings.Repeat("{", 19) + "return 1": {26, impl.ErrDeep}, strings.Repeat("{", 19) + "if(": {22, impl.ErrForm}, strings.Repeat("{", 19) + "if(1": {22, impl.ErrDeep}, strings.Repeat("{", 19) + "let": {20, impl.ErrForm}, strings.Repeat("{", 19) + "let a = b": {27, impl.ErrDeep}, strings.Repeat("{", 19) + "try{a": {23, impl.ErrDeep},
		strings.Repeat("{", 18) + "f(": {20, impl.ErrForm}, strings.Repeat("{", 18) + "f(1": {20, impl.ErrDeep}, strings.Repeat("{", 18) + "f()": {21, impl.ErrForm}, strings.Repeat("{", 18) + "1+-1": {21, impl.ErrDeep}, strings.Repeat("{", 18) + "1+1": {21, impl.ErrForm},
	} {
		wantParseFault(t, s, want[0], want[1])
		wantParseAsReckoned(t, s)
	}
}

func TestParseDeepSourcesByChance(t *testing.T) {
	t.Parallel()
	g := &gardener{Rand: rand.New(rand.NewSource(7))}
	for range 15000 {
		var s strings.Builder
		for range 8 + g.Intn(20) {
			s.WriteString(g.word("( ( - ! f( f(1, 1+ a*( {} 1;{ ") + " ")
		}
		s.WriteString(g.word("a 1; ) } ( - function let if") + " ")
		wantParseAsReckoned(t, strings.Repeat(g.word("{ if(1){ try{"), g.Intn(21))+s.String())
	}
}

func TestParsedListsShareNothing(t *testing.T) {
	const source = "function f(a, b) { return g(a, b, 1); } function g(c, d) { } if (x) { y(1, 2); } else { } x = 1 + 2;"
	first, _, _ := impl.ParseSource(source)
	second, _, _ := impl.ParseSource(source)
	for i := range first.Nodes {
		want := cloneTree(first)
		n := first.Nodes[i]
		kids, names := n.Kids[:cap(n.Kids)], n.Names[:cap(n.Names)]
		for k := range kids {
			kids[k] = -5
		}
		for k := range names {
			names[k] = "written"
		}
		for k := range want.Nodes {
			if k != i && !sameNode(first.Nodes[k], want.Nodes[k]) {
				t.Errorf("what is written into node %d is to be seen in node %d", i, k)
			}
		}
	}
	clear(first.Nodes[:cap(first.Nodes)])
	third, _, _ := impl.ParseSource(source)
	if !sameTree(second, third) || !rightTree(second) {
		t.Error("two answers share memory: " + briefTree(second))
	}
}

func TestParseNumbersAndTextsWhole(t *testing.T) {
	for _, n := range []int{0, 1, 9, 10, 999999999, 2147483646, 2147483647} {
		wantParse(t, strconv.Itoa(n)+";", plBlock(plDo(plInt(n))))
	}
	for _, s := range plainTexts() {
		wantParse(t, quoted(s)+";", plBlock(plDo(pl(impl.NoText, s))))
	}
}
