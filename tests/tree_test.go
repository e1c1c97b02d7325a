package tests

import (
	"math"
	"math/rand"
	"slices"
	"strings"
	"testing"

	"loop.example/g00370/impl"
)

// cloneTree leaves room behind each list, so that what is written there can be seen.
func cloneTree(t impl.Tree) impl.Tree {
	c := impl.Tree{Root: t.Root, Nodes: append(make([]impl.Node, 0, len(t.Nodes)+2), t.Nodes...)}
	for i := range c.Nodes {
		n := &c.Nodes[i]
		n.Names = append(make([]string, 0, len(n.Names)+2), n.Names...)
		n.Kids = append(make([]int, 0, len(n.Kids)+2), n.Kids...)
	}
	return c
}

func identWanted(s string) bool {
	x, written, right := tokenWanted(s)
	return right && x.Kind == impl.ToName && written == s
}

// partsWanted: what a node has beside its kids.
func partsWanted(n impl.Node) bool {
	bare := impl.Node{Kind: n.Kind, Kids: n.Kids}
	switch n.Kind {
	case impl.NoInt:
		bare.N = min(max(n.N, 0), 2147483647)
	case impl.NoBool:
		bare.N = min(max(n.N, 0), 1)
	case impl.NoFunc:
		bare.Names = n.Names
		fallthrough
	case impl.NoName, impl.NoCall, impl.NoLet, impl.NoSet, impl.NoTry:
		if identWanted(n.Text) {
			bare.Text = n.Text
		}
		if bare.Text == "" || slices.ContainsFunc(bare.Names, func(s string) bool { return !identWanted(s) }) {
			return false
		}
	case impl.NoText:
		if len(n.Text) <= 60 && plainBytes(n.Text) {
			bare.Text = n.Text
		}
	case impl.NoUnary, impl.NoBinary:
		signs := map[int]string{impl.NoUnary: "! -", impl.NoBinary: "< == + - * / %"}[n.Kind]
		if !slices.Contains(strings.Fields(signs), n.Text) {
			return false
		}
		bare.Text = n.Text
	}
	return sameNode(n, bare)
}

// kidsWanted has a letter for each kid: e an expression, b a block, s a statement, i a statement or a function; * is any number of the one ahead, ? one or none.
var kidsWanted = map[int]string{
	impl.NoInt: "", impl.NoText: "", impl.NoBool: "", impl.NoNull: "", impl.NoName: "", impl.NoUnary: "e", impl.NoBinary: "ee", impl.NoAnd: "ee", impl.NoOr: "ee", impl.NoCall: "e*",
	impl.NoLet: "e", impl.NoSet: "e", impl.NoIf: "ebb?", impl.NoWhile: "eb", impl.NoReturn: "e", impl.NoThrow: "e", impl.NoTry: "bb", impl.NoBlock: "s*", impl.NoDo: "e", impl.NoFunc: "b",
}

func sortWanted(letter byte, kind int) bool {
	switch letter {
	case 'e':
		return kind >= 1 && kind <= 10
	case 'b':
		return kind == 18
	case 's':
		return kind >= 11 && kind <= 19
	}
	return kind >= 11 && kind <= 20
}

func kidsFit(form string, kinds []int) bool {
	if many, found := strings.CutSuffix(form, "*"); found {
		form = strings.Repeat(many, len(kinds))
	}
	if some, found := strings.CutSuffix(form, "?"); found {
		form = some[:max(len(some)-1, min(len(some), len(kinds)))]
	}
	if len(form) != len(kinds) {
		return false
	}
	for i, kind := range kinds {
		if !sortWanted(form[i], kind) {
			return false
		}
	}
	return true
}

// parentsOf has the parent of each node, -1 of the Root; nil unless all nodes have one parent each and lead up to the Root.
func parentsOf(t impl.Tree) []int {
	parents := slices.Repeat([]int{-1}, len(t.Nodes))
	for i, n := range t.Nodes {
		for _, k := range n.Kids {
			if k < 0 || k >= len(t.Nodes) || k == t.Root || parents[k] >= 0 {
				return nil
			}
			parents[k] = i
		}
	}
	for i := range t.Nodes {
		at := i
		for range t.Nodes {
			if at != t.Root && at >= 0 {
				at = parents[at]
			}
		}
		if at != t.Root {
			return nil
		}
	}
	return parents
}

// rightTree is TreeOK of the tests' own: from the nodes up, where the program goes from the Root down.
func rightTree(t impl.Tree) bool {
	if len(t.Nodes) > 200 || t.Root < 0 || t.Root >= len(t.Nodes) || t.Nodes[t.Root].Kind != impl.NoBlock || parentsOf(t) == nil {
		return false
	}
	for i, n := range t.Nodes {
		var kinds []int
		for _, k := range n.Kids {
			kinds = append(kinds, t.Nodes[k].Kind)
		}
		form, found := kidsWanted[n.Kind]
		if i == t.Root {
			form = "i*"
		}
		if !found || !kidsFit(form, kinds) || !partsWanted(n) {
			return false
		}
	}
	return true
}

func pathWanted(parents []int, k int) []int {
	if parents[k] < 0 {
		return []int{k}
	}
	return append(pathWanted(parents, parents[k]), k)
}

func wantNumber(t *testing.T, what string, tree impl.Tree, k, got, code, want, wantCode int) {
	t.Helper()
	if got != want || code != wantCode {
		t.Errorf("%s of %s, %d = %d, %d; want %d, %d", what, briefTree(tree), k, got, code, want, wantCode)
	}
}

func otherPlaces(count int) []int {
	return []int{-1, count, count + 1, 200, 201, -200, math.MinInt, math.MaxInt, 1 << 32, 1<<32 + 1}
}

// wantTreeAnswers holds all calls of a right tree against the tests' own reckoning, and p, its plant, if there is one.
func wantTreeAnswers(t *testing.T, tree impl.Tree, p *plant) {
	t.Helper()
	given := cloneTree(tree)
	if !impl.TreeOK(tree) {
		t.Fatalf("TreeOK of %s = false", briefTree(tree))
	}
	deepest := 0
	parents := parentsOf(tree)
	sizes := make([]int, len(tree.Nodes))
	for k := range tree.Nodes {
		path := pathWanted(parents, k)
		deepest = max(deepest, len(path))
		for _, at := range path {
			sizes[at]++
		}
		if got, code := impl.PathTo(tree, k); !slices.Equal(got, path) || code != impl.OK {
			t.Errorf("PathTo of %s, %d = %v, %d; want %v", briefTree(tree), k, got, code, path)
		}
		got, code := impl.ParentOf(tree, k)
		if k == tree.Root {
			wantNumber(t, "ParentOf", tree, k, got, code, 0, impl.ErrNone)
		} else {
			wantNumber(t, "ParentOf", tree, k, got, code, path[len(path)-2], impl.OK)
		}
	}
	for k := range tree.Nodes {
		got, code := impl.SizeOf(tree, k)
		wantNumber(t, "SizeOf", tree, k, got, code, sizes[k], impl.OK)
	}
	got, code := impl.TreeDepth(tree)
	wantNumber(t, "TreeDepth", tree, 0, got, code, deepest, impl.OK)
	wantKindsCounted(t, tree)
	wantNameAnswers(t, tree)
	wantCompiled(t, tree)
	if p != nil {
		wantPrinted(t, tree, p.rootPrinted(), p.parsed())
	}
	if !sameTree(tree, given) {
		t.Errorf("a call changed its tree: %s, was %s", briefTree(tree), briefTree(given))
	}
}

func wantKindsCounted(t *testing.T, tree impl.Tree) {
	t.Helper()
	for kind := 1; kind <= 20; kind++ {
		want := 0
		for _, n := range tree.Nodes {
			if n.Kind == kind {
				want++
			}
		}
		got, code := impl.CountKind(tree, kind)
		wantNumber(t, "CountKind", tree, kind, got, code, want, impl.OK)
	}
}

// wantPrinted: the text is as told, and is read back, if it is no longer and no deeper than a source may be: as the tree with its nodes in order.
func wantPrinted(t *testing.T, tree impl.Tree, want string, inOrder impl.Tree) {
	t.Helper()
	text, code := impl.TreeText(tree)
	if text != want || code != impl.OK {
		t.Errorf("TreeText of %s = %q, %d; want %q", briefTree(tree), text, code, want)
	}
	if _, _, fault := parseWanted(text); fault != impl.OK {
		if fault != impl.ErrSize && fault != impl.ErrMany && fault != impl.ErrDeep && fault != impl.ErrLong {
			t.Errorf("%q is printed, and has the fault %d", text, fault)
		}
		return
	}
	back, place, code := impl.ParseSource(text)
	if !sameTree(back, inOrder) || code != impl.OK {
		t.Errorf("%q is read back as %s, %d, %d; want %s", text, briefTree(back), place, code, briefTree(inOrder))
	}
	if again, code := impl.TreeText(back); again != text || code != impl.OK {
		t.Errorf("%q is printed again as %q, %d", text, again, code)
	}
}

// wantBad: of a tree that is not right each call answers ErrBad, whatever else it is given.
func wantBad(t *testing.T, tree impl.Tree) {
	t.Helper()
	given := cloneTree(tree)
	if impl.TreeOK(tree) {
		t.Fatalf("TreeOK of %s = true", briefTree(tree))
	}
	if text, code := impl.TreeText(tree); text != "" || code != impl.ErrBad {
		t.Errorf("TreeText of %s = %.80q, %d; want none, ErrBad", briefTree(tree), text, code)
	}
	got, code := impl.TreeDepth(tree)
	wantNumber(t, "TreeDepth", tree, 0, got, code, 0, impl.ErrBad)
	for _, k := range append(otherPlaces(len(tree.Nodes)), 0, 1, tree.Root, 18, 20, 21) {
		got, code := impl.CountKind(tree, k)
		wantNumber(t, "CountKind", tree, k, got, code, 0, impl.ErrBad)
		got, code = impl.ParentOf(tree, k)
		wantNumber(t, "ParentOf", tree, k, got, code, 0, impl.ErrBad)
		got, code = impl.SizeOf(tree, k)
		wantNumber(t, "SizeOf", tree, k, got, code, 0, impl.ErrBad)
		if path, code := impl.PathTo(tree, k); len(path) != 0 || code != impl.ErrBad {
			t.Errorf("PathTo of %s, %d = %v, %d; want none, ErrBad", briefTree(tree), k, path, code)
		}
	}
	wantBadNames(t, tree)
	p, code := impl.CompileTree(tree)
	wantProgram(t, "CompileTree of "+briefTree(tree), p, code, impl.Program{}, impl.ErrBad)
	if !sameTree(tree, given) {
		t.Errorf("a call changed its tree: %s, was %s", briefTree(tree), briefTree(given))
	}
}

// chain is a tree of so many nodes, each within the one ahead.
func chain(nodes int) *plant {
	p := plInt(5)
	for range nodes - 3 {
		p = pl(impl.NoUnary, "-", p)
	}
	return plBlock(plDo(p))
}

func rightPlants() []*plant {
	e := func() *plant { return plName("e") }
	wide, row := plBlock(), plBlock()
	for range 199 {
		wide.kids = append(wide.kids, plBlock())
	}
	for range 66 {
		row.kids = append(row.kids, pl(impl.NoLet, "x", pl(impl.NoUnary, "!", e())))
	}
	nest := plBlock()
	for range 199 {
		nest = plBlock(nest)
	}
	call := pl(impl.NoCall, "f")
	for range 197 {
		call.kids = append(call.kids, e())
	}
	return []*plant{
		plBlock(), plBlock(plBlock()), plBlock(plDo(e())), wide, row, nest, plBlock(plDo(call)), chain(3), chain(20), chain(199), chain(200),
		plBlock(plDo(plInt(0)), plDo(plInt(2147483647)), plDo(pl(impl.NoText, "")), plDo(pl(impl.NoText, `it's \`)), plDo(pl(impl.NoText, strings.Repeat("'", 60))), plDo(&plant{kind: impl.NoBool, n: 1}), plDo(&plant{kind: impl.NoBool}), plDo(pl(impl.NoNull, ""))),
		plBlock(plFunc("f", nil, plBlock()), plFunc("f", []string{"a", "a", "b", "c", "d", "e"}, plBlock(pl(impl.NoReturn, "", e()))), plFunc(strings.Repeat("n", 20), []string{strings.Repeat("p", 20)}, plBlock())),
		plBlock(pl(impl.NoLet, "x", e()), pl(impl.NoSet, "x", e()), pl(impl.NoIf, "", e(), plBlock()), pl(impl.NoIf, "", e(), plBlock(plDo(e())), plBlock()), pl(impl.NoWhile, "", e(), plBlock(pl(impl.NoThrow, "", e()))), pl(impl.NoTry, "x", plBlock(), plBlock(plBlock()))),
		plBlock(plDo(plBinary("||", plBinary("&&", e(), plBinary("<", e(), e())), plBinary("==", plBinary("+", e(), plBinary("*", e(), e())), plBinary("-", plBinary("/", e(), e()), plBinary("%", e(), e())))))),
		plBlock(plFunc("many", slices.Repeat([]string{"parameter_1"}, 5000), plBlock())),
	}
}

func TestRightTrees(t *testing.T) {
	t.Parallel()
	chance := rand.New(rand.NewSource(8))
	for _, p := range rightPlants() {
		wantTreeAnswers(t, p.parsed(), p)
		for range 3 {
			wantTreeAnswers(t, p.shuffled(chance), p)
		}
		if !rightTree(p.parsed()) {
			t.Errorf("%s is not right", briefTree(p.parsed()))
		}
	}
}

func TestTreesByChance(t *testing.T) {
	t.Parallel()
	g := &gardener{Rand: rand.New(rand.NewSource(9))}
	for i := range 800 {
		p := g.source(1 + i%80)
		if tree := p.shuffled(g.Rand); len(tree.Nodes) <= 200 {
			wantTreeAnswers(t, tree, p)
		} else {
			wantBad(t, tree)
		}
		if t.Failed() {
			return
		}
	}
}

func TestTreeDepthAndSizeAtTheBounds(t *testing.T) {
	for _, n := range []int{3, 4, 20, 21, 100, 199, 200} {
		tree := chain(n).parsed()
		got, code := impl.TreeDepth(tree)
		wantNumber(t, "TreeDepth", tree, 0, got, code, n, impl.OK)
		got, code = impl.SizeOf(tree, tree.Root)
		wantNumber(t, "SizeOf", tree, tree.Root, got, code, n, impl.OK)
		if path, code := impl.PathTo(tree, 0); len(path) != n || path[0] != n-1 || path[n-1] != 0 || code != impl.OK {
			t.Errorf("PathTo of a tree %d deep = %v, %d", n, path, code)
		}
		if text, code := impl.TreeText(tree); text != strings.Repeat("(-", n-3)+"5"+strings.Repeat(")", n-3)+";" || code != impl.OK {
			t.Errorf("TreeText of a tree %d deep = %q, %d", n, text, code)
		}
	}
	wantBad(t, chain(201).parsed())
	wantBad(t, chain(400).parsed())
}

func TestTreeText(t *testing.T) {
	for s, want := range map[string]string{
		"":                        "",
		"a;b ; ":                  "a; b;",
		"(((a)));":                "a;",
		"{}":                      "{ }",
		"{{}{a;}}":                "{ { } { a; } }",
		"1-2-3;":                  "((1 - 2) - 3);",
		"1-(2-3);":                "(1 - (2 - 3));",
		"-1- -1;":                 "((-1) - (-1));",
		"!!a==b;":                 "((!(!a)) == b);",
		"-a*b;-(a*b);":            "((-a) * b); (-(a * b));",
		"a<b<c;":                  "((a < b) < c);",
		"f ( ) ;":                 "f();",
		"f(a+b,(c));":             "f((a + b), c);",
		`'it\'s \\'+'';`:          `('it\'s \\' + '');`,
		"let x=null;":             "let x = null;",
		"x=a==b;":                 "x = (a == b);",
		"if(a<b){}":               "if ((a < b)) { }",
		"if(a){}else{b;c;}":       "if (a) { } else { b; c; }",
		"while(!a){return-1;}":    "while ((!a)) { return (-1); }",
		"try{}catch(e){throw e;}": "try { } catch (e) { throw e; }",
		"function f(){}":          "function f() { }",
		"function f(a){}function g(b,c){return b;}x;": "function f(a) { } function g(b, c) { return b; } x;",
	} {
		tree, _, _ := impl.ParseSource(s)
		wantPrinted(t, tree, want, tree)
	}
}

func TestPlacesAndKindsThatAreNone(t *testing.T) {
	for _, p := range rightPlants() {
		tree := p.parsed()
		for _, k := range otherPlaces(len(tree.Nodes)) {
			if k >= 0 && k < len(tree.Nodes) {
				continue
			}
			got, code := impl.ParentOf(tree, k)
			wantNumber(t, "ParentOf", tree, k, got, code, 0, impl.ErrPlace)
			got, code = impl.SizeOf(tree, k)
			wantNumber(t, "SizeOf", tree, k, got, code, 0, impl.ErrPlace)
			if path, code := impl.PathTo(tree, k); len(path) != 0 || code != impl.ErrPlace {
				t.Errorf("PathTo of %s, %d = %v, %d; want none, ErrPlace", briefTree(tree), k, path, code)
			}
		}
		for _, kind := range []int{0, -1, 21, 22, -20, 1 << 32, 1<<32 + 1, math.MinInt, math.MaxInt} {
			got, code := impl.CountKind(tree, kind)
			wantNumber(t, "CountKind", tree, kind, got, code, 0, impl.ErrRange)
		}
	}
}

// Each kind, with each number of kids of each kind, stands where it may stand by itself.
func TestKidsOfEachKind(t *testing.T) {
	leaf := func(kind int) *plant {
		p := &plant{kind: kind}
		switch kind {
		case impl.NoName, impl.NoCall, impl.NoLet, impl.NoSet, impl.NoTry, impl.NoFunc:
			p.text = "x"
		case impl.NoUnary, impl.NoBinary:
			p.text = "-"
		}
		for _, letter := range strings.TrimRight(kidsWanted[kind], "*?") {
			switch {
			case letter == 'e' && kind != impl.NoCall:
				p.kids = append(p.kids, plInt(1))
			case letter == 'b':
				p.kids = append(p.kids, plBlock())
			}
		}
		return p
	}
	stand := func(p *plant) *plant {
		if p.kind >= 1 && p.kind <= 10 {
			p = plDo(p)
		}
		return plBlock(p)
	}
	for parent := -1; parent <= 22; parent++ {
		for count := range 5 {
			for k := range count + 1 {
				for kind := -1; kind <= 22; kind++ {
					p := leaf(parent)
					for i, letter := range "ebbb"[:count] {
						if k == i {
							p.kids = append(p.kids[:i:i], leaf(kind))
						} else if i >= len(p.kids) {
							p.kids = append(p.kids[:i:i], leaf(map[rune]int{'e': impl.NoInt, 'b': impl.NoBlock}[letter]))
						}
					}
					if len(p.kids) > count {
						p.kids = p.kids[:count]
					}
					tree := stand(p).parsed()
					if impl.TreeOK(tree) != rightTree(tree) {
						t.Fatalf("TreeOK of %s = %v", briefTree(tree), impl.TreeOK(tree))
					}
				}
			}
		}
	}
	for kind := 1; kind <= 20; kind++ {
		wantTreeAnswers(t, stand(leaf(kind)).parsed(), stand(leaf(kind)))
	}
}

func TestFunctionsStandInTheRootAlone(t *testing.T) {
	f := func() *plant { return plFunc("f", nil, plBlock()) }
	e := func() *plant { return plName("e") }
	wantTreeAnswers(t, plBlock(f(), f()).parsed(), plBlock(f(), f()))
	for _, p := range []*plant{
		plBlock(plBlock(f())), plBlock(plBlock(plBlock(f()))), plBlock(plFunc("g", nil, plBlock(f()))), plBlock(plFunc("g", nil, f())), plBlock(plDo(f())), plBlock(pl(impl.NoLet, "x", f())),
		plBlock(pl(impl.NoIf, "", e(), plBlock(f()))), plBlock(pl(impl.NoIf, "", e(), f())), plBlock(pl(impl.NoIf, "", e(), plBlock(), plBlock(f()))), plBlock(pl(impl.NoWhile, "", e(), plBlock(f()))), plBlock(pl(impl.NoTry, "x", plBlock(f()), plBlock())), plBlock(pl(impl.NoTry, "x", plBlock(), f())),
		f(), plDo(e()), pl(impl.NoIf, "", e(), plBlock()), e(),
	} {
		wantBad(t, p.parsed())
	}
}

// Of a node's parts only those that its kind has a use for are anything, and these are what a source can have.
func TestPartsOfEachKind(t *testing.T) {
	var sample *plant
	for _, p := range rightPlants() {
		if nodes := p.parsed().Nodes; sample == nil || len(nodes) > 20 && len(nodes) < 60 {
			sample = p
		}
	}
	numbers := []int{0, 1, 2, -1, 2147483647, 2147483648, -2147483648, 1 << 32, math.MinInt, math.MaxInt}
	texts := append(append(plainTexts(), otherTexts()...), append(append(sourceSigns(), sourceWords()...), strings.Repeat("n", 20), strings.Repeat("n", 21), strings.Repeat("n", 40), "1a", "a b", "a-b", "\xff", "a\x00")...)
	lists := [][]string{nil, {}, {"a"}, {"a", "b"}, {"a", ""}, {"let"}, {"a", "1"}, {strings.Repeat("n", 21)}, {""}}
	try := func(tree impl.Tree) {
		t.Helper()
		if impl.TreeOK(tree) != rightTree(tree) {
			t.Errorf("TreeOK of %s = %v", briefTree(tree), impl.TreeOK(tree))
		}
	}
	for _, p := range append(rightPlants()[11:15], sample) {
		tree := p.parsed()
		for k := range tree.Nodes {
			n := tree.Nodes[k]
			for _, m := range numbers {
				tree.Nodes[k].N = m
				try(tree)
			}
			tree.Nodes[k] = n
			for _, s := range texts {
				tree.Nodes[k].Text = s
				try(tree)
			}
			tree.Nodes[k] = n
			for _, names := range lists {
				tree.Nodes[k].Names = names
				try(tree)
			}
			tree.Nodes[k] = n
		}
	}
	empty := impl.Tree{Nodes: []impl.Node{{Kind: impl.NoBlock, Names: []string{}, Kids: []int{}}}}
	wantTreeAnswers(t, empty, plBlock())
}

func wrongTrees() []impl.Tree {
	block := func(kids ...int) impl.Node { return impl.Node{Kind: impl.NoBlock, Kids: kids} }
	nodes := func(list ...impl.Node) impl.Tree { return impl.Tree{Nodes: list} }
	list := []impl.Tree{
		{}, {Nodes: []impl.Node{}}, {Root: -1}, {Root: 1}, {Root: math.MinInt}, nodes(impl.Node{}),
		nodes(block(0)), nodes(block(1), block(0)), nodes(block(1), block(1)), nodes(block(1, 1), block()), nodes(block(1, 2), block(2), block()), nodes(block(1), block(2), block(1)), nodes(block(2), block(), block(2)),
		nodes(block(), block()), nodes(block(), block(2), block(1)), nodes(block(), block(0)), nodes(block(1), block(), block(1)),
		nodes(block(1)), nodes(block(-1)), nodes(block(math.MinInt)), nodes(block(math.MaxInt)), nodes(block(1 << 32)), nodes(block(1, 2), block()), nodes(block(1, -1), block()),
		nodes(block(slices.Repeat([]int{1}, 100000)...), block()), nodes(block(slices.Repeat([]int{0}, 100000)...)), nodes(block(make([]int, impl.MaxList+1)...)),
		nodes(slices.Repeat([]impl.Node{block()}, 201)...), nodes(slices.Repeat([]impl.Node{block()}, impl.MaxList+1)...), {Nodes: make([]impl.Node, 100000), Root: 99999},
		nodes(block(1), impl.Node{Kind: impl.NoNull}), nodes(block(1), impl.Node{Kind: impl.NoDo}), nodes(block(1), impl.Node{Kind: impl.NoDo, Kids: []int{1}}), nodes(block(1), impl.Node{Kind: impl.NoDo, Kids: []int{2}}, impl.Node{Kind: impl.NoName, Text: "let"}),
	}
	wide := make([]int, 200)
	for i := range wide {
		wide[i] = i + 1
	}
	list = append(list, nodes(append([]impl.Node{block(wide...)}, slices.Repeat([]impl.Node{block()}, 200)...)...))
	ring := make([]impl.Node, 200)
	for i := range ring {
		ring[i] = block((i + 1) % 200)
	}
	list = append(list, impl.Tree{Nodes: ring, Root: 7})
	for _, root := range []int{-1, 0, 2, 3, 4, 5, math.MinInt, math.MaxInt, 1 << 32} {
		tree, _, _ := impl.ParseSource("a; {}")
		list = append(list, impl.Tree{Nodes: tree.Nodes, Root: root})
		if root == 3 {
			list = list[:len(list)-1]
		}
	}
	return list
}

func TestWrongTrees(t *testing.T) {
	for _, tree := range wrongTrees() {
		wantBad(t, tree)
	}
}

// spoilt changes one thing of a tree.
func (g *gardener) spoilt(tree impl.Tree) impl.Tree {
	tree = cloneTree(tree)
	k := g.Intn(len(tree.Nodes))
	n := &tree.Nodes[k]
	place := append(otherPlaces(len(tree.Nodes)), k, tree.Root, g.Intn(len(tree.Nodes)), g.Intn(len(tree.Nodes)))[g.Intn(14)]
	switch g.Intn(11) {
	case 0:
		n.Kind = g.Intn(23) - 1
	case 1:
		n.N = []int{1, -1, 2, math.MaxInt, math.MinInt}[g.Intn(5)]
	case 2:
		n.Text = []string{"", "x", "let", "-", "!", "+", "&&", "\n", strings.Repeat("a", 21), strings.Repeat("a", 61)}[g.Intn(10)]
	case 3:
		n.Names = append(n.Names, []string{"x", "let", "", "\xff"}[g.Intn(4)])
	case 4:
		n.Kids = append(n.Kids, place)
	case 5:
		n.Kids = n.Kids[:g.Intn(len(n.Kids)+1)]
	case 6:
		tree.Root = place
	case 7:
		tree.Nodes = append(tree.Nodes, tree.Nodes[k])
	case 8:
		tree.Nodes = tree.Nodes[:k]
	default:
		if len(n.Kids) > 0 {
			n.Kids[g.Intn(len(n.Kids))] = place
		}
	}
	return tree
}

func TestSpoiltTreesByChance(t *testing.T) {
	t.Parallel()
	g := &gardener{Rand: rand.New(rand.NewSource(10))}
	right, wrong := 0, 0
	for i := range 12000 {
		tree := g.spoilt(g.source(1 + i%20).shuffled(g.Rand))
		if i%3 == 0 && len(tree.Nodes) > 0 {
			tree = g.spoilt(tree)
		}
		if rightTree(tree) {
			right++
			wantTreeAnswers(t, tree, nil)
			if text, _ := impl.TreeText(tree); !t.Failed() {
				wantParseAsReckoned(t, text)
			}
		} else {
			wrong++
			wantBad(t, tree)
		}
		if t.Failed() {
			return
		}
	}
	if right < 500 || wrong < 4000 {
		t.Errorf("%d trees were right, %d wrong", right, wrong)
	}
}

func FuzzTrees(f *testing.F) {
	f.Add("let x1=12<y; f(1,(g()),'a'); !-x*2;", int64(1))
	f.Add("function f(a,b){if(a){b;}else{}}try{x;}catch(e){while(e){return-1;}}", int64(2))
	f.Add(strings.Repeat("(", 25)+"1", int64(3))
	f.Add(strings.Repeat("1+1;", 67), int64(4))
	f.Fuzz(func(t *testing.T, s string, seed int64) {
		wantParseAsReckoned(t, s)
		tree, _, code := impl.ParseSource(s)
		if code != impl.OK {
			return
		}
		text, _ := impl.TreeText(tree)
		wantPrinted(t, tree, text, tree)
		wantTreeAnswers(t, tree, nil)
		g := &gardener{Rand: rand.New(rand.NewSource(seed))}
		if other := g.spoilt(tree); rightTree(other) {
			wantTreeAnswers(t, other, nil)
		} else {
			wantBad(t, other)
		}
	})
}
