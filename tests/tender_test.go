package tests

import (
	"slices"
	"strconv"

	"loop.example/g00370/impl"
)

// tender makes plants whose names are right, but that there may be too many at once.
type tender struct {
	*gardener
	takes map[string]int // of each function and builtin how many arguments
	calls []string
	known []string
	own   int // how many of the known ones stand outside of the block
	lets  int // of ten statements so many more are lets
}

func (g *gardener) tended(size, lets int) *plant {
	d := &tender{gardener: g, takes: builtinCounts(), calls: []string{"abs", "at", "cut", "len", "max", "min", "str"}, lets: lets}
	var functions []*plant
	for i := range g.Intn(6) {
		f := plFunc("f"+strconv.Itoa(i), []string{"a", "b", "f1", "path"}[:g.Intn(5)], nil)
		d.takes[f.text] = len(f.names)
		d.calls = append(d.calls, f.text, f.text)
		functions = append(functions, f)
	}
	for _, f := range functions {
		g.budget = size / 4
		d.known, d.own = slices.Clone(f.names), len(f.names)
		f.kids[0] = d.block()
	}
	g.budget = size
	d.known, d.own = []string{"path"}, 0
	root := plBlock(d.statements()...)
	for _, f := range functions {
		root.kids = slices.Insert(root.kids, g.Intn(len(root.kids)+1), f)
	}
	return root
}

func (d *tender) block(names ...string) *plant {
	known, own := len(d.known), d.own
	d.known = append(d.known, names...)
	d.own = len(d.known)
	p := plBlock(d.statements()...)
	d.known, d.own = d.known[:known], own
	return p
}

func (d *tender) statements() []*plant {
	var list []*plant
	d.budget--
	for d.budget > 0 && d.Intn(8+8*d.lets) > 0 {
		list = append(list, d.statement())
	}
	return list
}

// fresh is a name that the block does not have; it may be known from outside.
func (d *tender) fresh() string {
	for {
		name := "v" + strconv.Itoa(d.Intn(99))
		if d.Intn(3) == 0 {
			name = d.word("a b x path len f0 f1")
		}
		if !slices.Contains(d.known[d.own:], name) {
			return name
		}
	}
}

func (d *tender) statement() *plant {
	d.budget--
	kind := impl.NoLet + d.Intn(9)
	if d.Intn(10) < d.lets {
		kind = impl.NoLet
	}
	switch kind {
	case impl.NoLet:
		p := pl(kind, "", d.expression())
		p.text = d.fresh()
		d.known = append(d.known, p.text)
		return p
	case impl.NoSet:
		if len(d.known) > 0 {
			return pl(kind, d.known[d.Intn(len(d.known))], d.expression())
		}
	case impl.NoIf:
		p := pl(kind, "", d.expression(), d.block())
		if d.Intn(2) == 0 {
			p.kids = append(p.kids, d.block())
		}
		return p
	case impl.NoWhile:
		return pl(kind, "", d.expression(), d.block())
	case impl.NoTry:
		name := d.fresh()
		return pl(kind, name, d.block(), d.block(name))
	case impl.NoBlock:
		return d.block()
	case impl.NoReturn, impl.NoThrow:
		return pl(kind, "", d.expression())
	}
	return plDo(d.expression())
}

func (d *tender) expression() *plant {
	d.budget--
	choice := d.Intn(9)
	if d.lets > 5 { // small ones, so that there is room for many names
		choice = max(choice, 3)
	}
	switch {
	case d.budget > 0 && choice < 2:
		p := pl(impl.NoCall, d.calls[d.Intn(len(d.calls))])
		for range d.takes[p.text] {
			p.kids = append(p.kids, d.expression())
		}
		return p
	case d.budget > 0 && choice == 2:
		return plBinary(d.word("|| && < == + - * / %"), d.expression(), d.expression())
	case d.budget > 0 && choice == 3:
		return pl(impl.NoUnary, d.word("! -"), d.expression())
	case len(d.known) > 0 && choice < 8:
		return plName(d.known[d.Intn(len(d.known))])
	}
	return plInt(choice)
}

// renamed changes one name, or the number of a call's arguments or of a function's parameters.
func (g *gardener) renamed(p *plant) {
	nodes := p.inOrder()
	named := slices.DeleteFunc(slices.Clone(nodes), func(q *plant) bool {
		return q.kind != impl.NoName && q.kind != impl.NoSet && q.kind != impl.NoCall && q.kind != impl.NoLet && q.kind != impl.NoTry && q.kind != impl.NoFunc
	})
	if len(named) == 0 {
		return
	}
	q := named[g.Intn(len(named))]
	switch {
	case q.kind == impl.NoCall && g.Intn(2) == 0:
		if len(q.kids) > 0 && g.Intn(2) == 0 {
			q.kids = q.kids[1:]
		} else {
			q.kids = append(q.kids, plInt(7))
		}
	case q.kind == impl.NoFunc && g.Intn(2) == 0:
		q.names = append(slices.Clone(q.names), g.word("a b c path"))
	default:
		q.text = append(namesOfPlants(named), g.word("a b path len max f0 f1 f2 v1 v2 nosuch"))[g.Intn(len(named)+1)]
	}
}

func namesOfPlants(list []*plant) []string {
	var names []string
	for _, p := range list {
		names = append(names, p.text)
	}
	return names
}
