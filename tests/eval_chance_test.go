package tests

import (
	"math/rand"
	"strings"
	"testing"

	"loop.example/g00370/impl"
)

// tally counts how evaluations ended, and what was thrown.
type tally map[string]int

func (c tally) add(o impl.Outcome, code int) {
	switch {
	case code != impl.OK:
		c[codeTable()[code].word]++
	case o.State == impl.MaThrew:
		c["threw"]++
		c["threw "+textWanted(o.Value)]++
	default:
		c["done"]++
		if o.Value != null {
			c["returned"]++
		}
	}
}

func (c tally) want(t *testing.T, least map[string]int) {
	t.Helper()
	for what, count := range least {
		if c[what] < count {
			t.Errorf("only %d evaluations came to %q, not %d", c[what], what, count)
		}
	}
}

func TestMeaningsOfAllShortSources(t *testing.T) {
	t.Parallel()
	ends := tally{}
	for _, texts := range []string{
		"if(path){~}else{~while(path){~try{~}catch(e){~}~path=0;~return path;~throw 1/0;~1;",
		"function f(a){~}~try{~}catch(e){~{~f(1);~return 2;~throw f(3);~while(0){",
		"return ~1~0~path~&&~||~+~;~(~)~!",
	} {
		forEachList(strings.Split(texts, "~"), 5, func(s string) {
			tree, _, code := impl.ParseSource(s)
			if code != impl.OK || t.Failed() {
				return
			}
			ends.add(wantMeaning(t, tree, "/"))
		})
	}
	ends.want(t, map[string]int{"done": 1000, "returned": 300, "threw range": 100, "threw deep": 10, "fuel": 20, "name": 100})
}

// Sources whose names are right, of all kinds of nodes; in whatever order the nodes of their trees stand they mean the same.
func TestMeaningsByChance(t *testing.T) {
	t.Parallel()
	g := &gardener{Rand: rand.New(rand.NewSource(31))}
	ends := tally{}
	for i := range 4000 {
		p := g.tended(3+i%70, i%5)
		if i%10 == 0 {
			g.renamed(p)
		}
		path := g.word("/ /a 0 abcdefgh")
		tree := p.shuffled(g.Rand)
		o, code := wantMeaning(t, tree, path)
		ends.add(o, code)
		if s := g.rootWritten(p); code == impl.OK || code == impl.ErrFuel {
			got, gotCode := impl.EvalSource(s, path)
			if _, _, parseCode := impl.ParseSource(s); parseCode != impl.OK {
				o, code = impl.Outcome{}, parseCode
			}
			wantEval(t, "EvalSource of "+s, got, gotCode, o, code)
		}
		if t.Failed() {
			return
		}
	}
	ends.want(t, map[string]int{"done": 1000, "returned": 300, "threw": 500, "threw type": 300, "threw range": 10, "threw deep": 30, "fuel": 100, "name": 50})
}

// Sources that rarely have a wrong kind of value, with many calls, loops and tries within each other.
func TestMeaningsOfTypedSourcesByChance(t *testing.T) {
	t.Parallel()
	g := &gardener{Rand: rand.New(rand.NewSource(32))}
	ends, count, most := tally{}, 0, 0
	for range 4000 {
		s := "let x=1;let y=2;" + g.typed(2) + g.typed(1) + "return x+y;function f(x){let y=3;" + g.typed(1) + "return x+1;}function g(x,y){try{" + g.typed(0) + "}catch(e){return f(e);}return f(x)*y;}"
		o, code := wantSourceMeaning(t, s, g.word("/ /a"))
		ends.add(o, code)
		if code == impl.OK {
			count++
			most = max(most, o.Steps)
		}
		if t.Failed() {
			return
		}
	}
	if count < 1500 || most < 500 {
		t.Errorf("%d sources ended, in %d steps at most", count, most)
	}
	ends.want(t, map[string]int{"returned": 1000, "threw range": 50, "threw deep": 20})
}

// wrapped is a statement that some others stand around: it may be come to or not, thrown through, returned from, and gone past.
func (g *gardener) wrapped(depth int) string {
	if depth == 0 {
		return g.word("1; x=x+1; throw(x); return(x); f(x); 1/0; x=f(1)+f(x); x=x&&f(2)||3; {}")
	}
	digit := func() string { return g.word("1 2 3 5") }
	inner, beside := g.wrapped(depth-1), g.wrapped(0)
	switch g.Intn(8) {
	case 0:
		return "{" + inner + beside + "}"
	case 1:
		return "if(x<" + digit() + "){" + inner + "}"
	case 2:
		return "if(x<" + digit() + "){" + beside + "}else{" + inner + "}"
	case 3:
		return "while(x<" + digit() + "){x=x+1;" + inner + "}"
	case 4, 5:
		return "try{" + inner + beside + "}catch(e){x=7;" + g.wrapped(0) + "}"
	case 6:
		return "try{" + beside + "}catch(e){x=9;" + inner + "}"
	}
	return beside + inner
}

func TestMeaningsOfWrappedSourcesByChance(t *testing.T) {
	t.Parallel()
	g := &gardener{Rand: rand.New(rand.NewSource(33))}
	ends := tally{}
	for i := range 5000 {
		s := "let x=0;" + g.wrapped(i%6) + "return x*10;function f(x){" + g.wrapped(i%4) + "return x+1;}"
		ends.add(wantSourceMeaning(t, s, ""))
		if t.Failed() {
			return
		}
	}
	ends.want(t, map[string]int{"returned": 2000, "done": 2500, "threw range": 300, "threw 1": 50, "threw deep": 50})
}

// layers puts what wrap makes around a plant that many times.
func layers(count int, inner *plant, wrap func(inner *plant) *plant) *plant {
	for range count {
		inner = wrap(inner)
	}
	return inner
}

// Trees that no source has: tries, blocks, loops, operations and calls deeper within each other. What is told is how often each layer is come to.
func TestMeaningsOfGreatTrees(t *testing.T) {
	returns := func(e *plant) *plant { return pl(impl.NoReturn, "", e) }
	throws := func(e *plant) *plant { return pl(impl.NoThrow, "", e) }
	last := plFunc("f", strings.Fields("a b c d"), plBlock(returns(plName("d"))))
	more := func() *plant { return plBinary("+", plName("e"), plInt(1)) }
	catches := func(count int) *plant {
		return layers(count, plBlock(returns(plInt(8))), func(b *plant) *plant { return plBlock(pl(impl.NoTry, "e", plBlock(throws(plInt(1))), b)) })
	}
	done, threw := impl.MaDone, impl.MaThrew
	for what, c := range map[string]struct {
		root *plant
		want impl.Outcome
	}{
		"signs":             {chain(200), impl.Outcome{State: done, Steps: 199}},
		"sums":              {plBlock(returns(layers(98, plInt(1), func(e *plant) *plant { return plBinary("+", plInt(1), e) }))), impl.Outcome{State: done, Value: num(99), Steps: 2 + 98*2}},
		"ands":              {plBlock(returns(layers(98, plInt(7), func(e *plant) *plant { return plBinary("&&", plInt(1), e) }))), impl.Outcome{State: done, Value: num(7), Steps: 2 + 98*2}},
		"ors":               {plBlock(returns(layers(98, plInt(7), func(e *plant) *plant { return plBinary("||", plInt(1), e) }))), impl.Outcome{State: done, Value: num(1), Steps: 3}},
		"calls":             {plBlock(last, returns(layers(48, plInt(9), func(e *plant) *plant { return pl(impl.NoCall, "f", plInt(1), plInt(2), plInt(3), e) }))), impl.Outcome{State: done, Value: num(9), Steps: 2 + 48*4 + 48*3}},
		"blocks":            {layers(197, plBlock(returns(plInt(3))), func(b *plant) *plant { return plBlock(b) }), impl.Outcome{State: done, Value: num(3), Steps: 197 + 2}},
		"ifs":               {layers(49, plBlock(returns(plInt(4))), func(b *plant) *plant { return plBlock(pl(impl.NoIf, "", plInt(0), plBlock(), b)) }), impl.Outcome{State: done, Value: num(4), Steps: 49*3 + 2}},
		"whiles":            {layers(65, plBlock(returns(plInt(5))), func(b *plant) *plant { return plBlock(pl(impl.NoWhile, "", plInt(1), b)) }), impl.Outcome{State: done, Value: num(5), Steps: 65*4 + 2}},
		"tries":             {triesWithin(66), impl.Outcome{State: done, Steps: 66 * 2}},
		"tries and a throw": {triesWithin(65, throws(plInt(6))), impl.Outcome{State: done, Steps: 65*2 + 2 + 1}},
		"tries and returns": {triesWithin(65, returns(plInt(6))), impl.Outcome{State: done, Value: num(6), Steps: 65*2 + 2}},
		"throws once more":  {layers(28, plBlock(throws(plInt(1))), func(b *plant) *plant { return plBlock(pl(impl.NoTry, "e", b, plBlock(throws(more())))) }), impl.Outcome{State: threw, Value: num(29), Steps: 28*2 + 2 + 28*5}},
		"tries in catches":  {catches(19), impl.Outcome{State: done, Value: num(8), Steps: 19*5 + 2}},
	} {
		o, code := wantMeaning(t, c.root.parsed(), "")
		wantEval(t, what, o, code, c.want, impl.OK)
	}
	o, code := wantMeaning(t, catches(20).parsed(), "")
	wantEval(t, "more names at once than there may be", o, code, impl.Outcome{}, impl.ErrFull)
}

// However many tries are open, none of them takes the end of the steps.
func TestNoTryTakesTheEndOfSteps(t *testing.T) {
	for _, count := range []int{1, 2, 5, 20, 60} {
		tree := triesWithin(count, pl(impl.NoWhile, "", plInt(1), plBlock())).parsed()
		for _, steps := range []int{0, 1, count, 2 * count, 2*count + 1, 2*count + 2, 2*count + 3, 1000, 3000} {
			wantEvalTree(t, tree, "", steps, impl.Outcome{}, impl.ErrFuel)
		}
		wantMeaning(t, tree, "")
	}
}

func TestMeaningsOfWrongTrees(t *testing.T) {
	for _, tree := range wrongTrees() {
		if _, code := wantMeaning(t, tree, "/"); code != impl.ErrBad {
			t.Errorf("EvalTree of %s: %d", briefTree(tree), code)
		}
		for _, steps := range append(wrongSteps(), 0, 1, 3000) {
			wantEvalTree(t, tree, strings.Repeat("p", 61), steps, impl.Outcome{}, impl.ErrBad)
			wantEvalTree(t, tree, strings.Repeat("p", 65537), steps, impl.Outcome{}, impl.ErrLong)
		}
	}
	for _, p := range rightPlants() {
		wantMeaning(t, p.parsed(), "/")
	}
}

func TestMeaningsOfSpoiltTreesByChance(t *testing.T) {
	t.Parallel()
	g := &gardener{Rand: rand.New(rand.NewSource(34))}
	ends := tally{}
	for i := range 8000 {
		tree := g.spoilt(g.tended(2+i%25, i%3).shuffled(g.Rand))
		if i%3 == 0 && len(tree.Nodes) > 0 {
			tree = g.spoilt(tree)
		}
		ends.add(wantMeaning(t, tree, "/a"))
		if t.Failed() {
			return
		}
	}
	ends.want(t, map[string]int{"bad": 2000, "done": 400, "threw": 100, "name": 10})
}

func FuzzMeaning(f *testing.F) {
	f.Add("let x = 0; while (x < 3) { x = x + 1; } return x;", "/a", 20, int64(1))
	f.Add("function f(a){try{return f(a+1);}catch(e){throw e+str(a);}}try{1+f(1);}catch(e){return e;}", "", 60, int64(2))
	f.Add("try { return 1 + (2 && len(path)) / 0; } catch (e) { throw e; }", "x", 9, int64(3))
	f.Fuzz(func(t *testing.T, s, path string, steps int, seed int64) {
		tree, _, code := impl.ParseSource(s)
		got, gotCode := impl.EvalSource(s, path)
		switch {
		case len(s) > impl.MaxText || len(path) > impl.MaxText:
			wantEval(t, "EvalSource", got, gotCode, impl.Outcome{}, impl.ErrLong)
			return
		case len(path) > 60:
			wantEval(t, "EvalSource", got, gotCode, impl.Outcome{}, impl.ErrRange)
			return
		case code != impl.OK:
			wantEval(t, "EvalSource", got, gotCode, impl.Outcome{}, code)
			return
		}
		whole, code := wantSourceMeaning(t, s, path)
		switch {
		case steps < 0 || steps > 3000:
			wantEvalTree(t, tree, path, steps, impl.Outcome{}, impl.ErrRange)
		case code == impl.OK && steps < whole.Steps:
			wantEvalTree(t, tree, path, steps, impl.Outcome{}, impl.ErrFuel)
		default:
			wantEvalTree(t, tree, path, steps, whole, code)
		}
		g := &gardener{Rand: rand.New(rand.NewSource(seed))}
		wantMeaning(t, g.spoilt(tree), path)
	})
}
