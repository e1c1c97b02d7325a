package tests

import (
	"fmt"
	"math/rand"
	"slices"
	"strconv"
	"strings"

	"loop.example/g00370/impl"
)

// plant is a tree of the tests' own, from which an impl.Tree, its text and sources of it are made.
type plant struct {
	kind, n int
	text    string
	names   []string
	kids    []*plant
}

func pl(kind int, text string, kids ...*plant) *plant {
	return &plant{kind: kind, text: text, kids: kids}
}

func plInt(n int) *plant { return &plant{kind: impl.NoInt, n: n} }

func plName(text string) *plant { return pl(impl.NoName, text) }

func plDo(e *plant) *plant { return pl(impl.NoDo, "", e) }

func plBlock(kids ...*plant) *plant { return pl(impl.NoBlock, "", kids...) }

func plFunc(text string, names []string, body *plant) *plant {
	return &plant{kind: impl.NoFunc, text: text, names: names, kids: []*plant{body}}
}

func plBinary(sign string, a, b *plant) *plant {
	switch sign {
	case "||":
		return pl(impl.NoOr, "", a, b)
	case "&&":
		return pl(impl.NoAnd, "", a, b)
	}
	return pl(impl.NoBinary, sign, a, b)
}

func (p *plant) sign() string {
	switch p.kind {
	case impl.NoOr:
		return "||"
	case impl.NoAnd:
		return "&&"
	}
	return p.text
}

// inOrder has the nodes in the order in which they end.
func (p *plant) inOrder() []*plant {
	var list []*plant
	for _, k := range p.kids {
		list = append(list, k.inOrder()...)
	}
	return append(list, p)
}

// tree puts the nodes into the order told.
func (p *plant) tree(order []*plant) impl.Tree {
	var t impl.Tree
	for _, q := range order {
		n := impl.Node{Kind: q.kind, N: q.n, Text: q.text, Names: slices.Clone(q.names)}
		for _, k := range q.kids {
			n.Kids = append(n.Kids, slices.Index(order, k))
		}
		t.Nodes = append(t.Nodes, n)
	}
	t.Root = slices.Index(order, p)
	return t
}

func (p *plant) parsed() impl.Tree { return p.tree(p.inOrder()) }

func (p *plant) shuffled(chance *rand.Rand) impl.Tree {
	order := p.inOrder()
	chance.Shuffle(len(order), func(i, j int) { order[i], order[j] = order[j], order[i] })
	return p.tree(order)
}

func textsOf(list []*plant) []string {
	var texts []string
	for _, p := range list {
		texts = append(texts, p.printed())
	}
	return texts
}

// rootPrinted is how TreeText has to tell a tree.
func (p *plant) rootPrinted() string { return strings.Join(textsOf(p.kids), " ") }

func (p *plant) printed() string {
	k := textsOf(p.kids)
	switch p.kind {
	case impl.NoInt:
		return strconv.Itoa(p.n)
	case impl.NoText:
		return quoted(p.text)
	case impl.NoBool:
		return []string{"false", "true"}[p.n]
	case impl.NoNull:
		return "null"
	case impl.NoName:
		return p.text
	case impl.NoUnary:
		return "(" + p.text + k[0] + ")"
	case impl.NoBinary, impl.NoAnd, impl.NoOr:
		return "(" + k[0] + " " + p.sign() + " " + k[1] + ")"
	case impl.NoCall:
		return p.text + "(" + strings.Join(k, ", ") + ")"
	case impl.NoLet:
		return "let " + p.text + " = " + k[0] + ";"
	case impl.NoSet:
		return p.text + " = " + k[0] + ";"
	case impl.NoIf:
		return "if (" + k[0] + ") " + strings.Join(k[1:], " else ")
	case impl.NoWhile:
		return "while (" + k[0] + ") " + k[1]
	case impl.NoReturn:
		return "return " + k[0] + ";"
	case impl.NoThrow:
		return "throw " + k[0] + ";"
	case impl.NoTry:
		return "try " + k[0] + " catch (" + p.text + ") " + k[1]
	case impl.NoBlock:
		return strings.Join(append(append([]string{"{"}, k...), "}"), " ")
	case impl.NoDo:
		return k[0] + ";"
	case impl.NoFunc:
		return "function " + p.text + "(" + strings.Join(p.names, ", ") + ") " + k[0]
	}
	panic(fmt.Sprint("no kind: ", p.kind))
}

// gardener makes plants and sources by chance.
type gardener struct {
	*rand.Rand
	budget int // of nodes; when it is used up only small ones come
}

func (g *gardener) word(list string) string {
	words := strings.Fields(list)
	return words[g.Intn(len(words))]
}

func (g *gardener) name() string {
	return g.word("a b x y1 _ path len f lets iff Null zzzzzzzzzzzzzzzzzzz0")
}

func (g *gardener) names() []string {
	var list []string
	for range g.Intn(4) {
		list = append(list, g.name())
	}
	return list
}

func (g *gardener) expression() *plant {
	g.budget--
	kind := 1 + g.Intn(10)
	if g.budget < 0 {
		kind = 1 + g.Intn(5)
	}
	switch kind {
	case impl.NoInt:
		return plInt([]int{0, 1, 7, 10, 65536, 2147483647}[g.Intn(6)])
	case impl.NoText:
		return pl(impl.NoText, []string{"", "a", "it's", "\\", "let", "+", ";", "a b", "}"}[g.Intn(9)])
	case impl.NoBool:
		return &plant{kind: impl.NoBool, n: g.Intn(2)}
	case impl.NoNull:
		return pl(impl.NoNull, "")
	case impl.NoName:
		return plName(g.name())
	case impl.NoUnary:
		return pl(impl.NoUnary, g.word("! -"), g.expression())
	case impl.NoCall:
		p := pl(impl.NoCall, g.name())
		for range g.Intn(4) {
			p.kids = append(p.kids, g.expression())
		}
		return p
	}
	return plBinary(g.word("|| && < == + - * / %"), g.expression(), g.expression())
}

func (g *gardener) block() *plant {
	p := plBlock()
	g.budget--
	for range g.Intn(4) {
		if g.budget > 0 {
			p.kids = append(p.kids, g.statement())
		}
	}
	return p
}

func (g *gardener) statement() *plant {
	g.budget--
	switch kind := impl.NoLet + g.Intn(9); kind {
	case impl.NoLet, impl.NoSet:
		return pl(kind, g.name(), g.expression())
	case impl.NoIf:
		p := pl(kind, "", g.expression(), g.block())
		if g.Intn(2) == 0 {
			p.kids = append(p.kids, g.block())
		}
		return p
	case impl.NoWhile:
		return pl(kind, "", g.expression(), g.block())
	case impl.NoTry:
		return pl(kind, g.name(), g.block(), g.block())
	case impl.NoBlock:
		return g.block()
	default:
		return pl(kind, "", g.expression())
	}
}

// source is a Root of so many nodes, about.
func (g *gardener) source(size int) *plant {
	g.budget = size
	p := plBlock()
	for g.budget > 0 {
		if g.Intn(4) == 0 {
			p.kids = append(p.kids, plFunc(g.name(), g.names(), g.block()))
			g.budget -= 2
		} else {
			p.kids = append(p.kids, g.statement())
		}
	}
	return p
}

// needsParentheses: of what binds less close, and of the second operand also of what binds as close.
func needsParentheses(parent *plant, i int, kid *plant) bool {
	if kid.kind != impl.NoBinary && kid.kind != impl.NoAnd && kid.kind != impl.NoOr {
		return false
	}
	if parent.kind == impl.NoUnary {
		return true
	}
	return closenessWanted(kid.sign()) < closenessWanted(parent.sign())+i
}

// written has the tokens of an expression with no more parentheses than it takes, and some more by chance.
func (g *gardener) written(p *plant) string {
	var k []string
	operation := p.kind >= impl.NoUnary && p.kind <= impl.NoOr
	for i, kid := range p.kids {
		text := g.written(kid)
		if operation && needsParentheses(p, i, kid) {
			text = "( " + text + " )"
		}
		k = append(k, text)
	}
	text := p.printed()
	switch {
	case p.kind == impl.NoUnary:
		text = p.text + " " + k[0]
	case operation:
		text = k[0] + " " + p.sign() + " " + k[1]
	case p.kind == impl.NoCall:
		text = p.text + " ( " + strings.Join(k, " , ") + " )"
	}
	if g.Intn(12) == 0 {
		text = "( " + text + " )"
	}
	return text
}

func (g *gardener) statementWritten(p *plant) string {
	switch p.kind {
	case impl.NoBlock, impl.NoTry, impl.NoFunc:
		return g.blocksWritten(p)
	case impl.NoIf, impl.NoWhile:
		text := []string{impl.NoIf: "if", impl.NoWhile: "while"}[p.kind] + " ( " + g.written(p.kids[0]) + " ) " + g.statementWritten(p.kids[1])
		if len(p.kids) > 2 {
			text += " else " + g.statementWritten(p.kids[2])
		}
		return text
	}
	ahead := []string{impl.NoLet: "let " + p.text + " = ", impl.NoSet: p.text + " = ", impl.NoReturn: "return ", impl.NoThrow: "throw ", impl.NoDo: ""}[p.kind]
	return ahead + g.written(p.kids[0]) + " ;"
}

func (g *gardener) blocksWritten(p *plant) string {
	switch p.kind {
	case impl.NoTry:
		return "try " + g.statementWritten(p.kids[0]) + " catch ( " + p.text + " ) " + g.statementWritten(p.kids[1])
	case impl.NoFunc:
		return "function " + p.text + " ( " + strings.Join(p.names, " , ") + " ) " + g.statementWritten(p.kids[0])
	}
	return "{ " + g.rootWritten(p) + " }"
}

func (g *gardener) rootWritten(p *plant) string {
	var list []string
	for _, k := range p.kids {
		list = append(list, g.statementWritten(k))
	}
	return strings.Join(list, " ")
}
