package tests

import (
	"math"
	"slices"
	"testing"

	"loop.example/g00370/impl"
)

// This is chapter 8 reckoned once more, by node numbers, without closures and panics: each node tells how it ended. A function's names are one list, which is cut behind a block.

const (
	goesOn = iota
	returned
	threw
	spent
)

type reckoner struct {
	tree        impl.Tree
	steps, most int
}

type frameOfNames struct {
	names  []string
	values []impl.Value
	open   int
}

func (f *frameOfNames) bring(name string, v impl.Value) {
	f.names, f.values = append(f.names, name), append(f.values, v)
}

func (f *frameOfNames) cut(high int) {
	f.names, f.values = f.names[:high], f.values[:high]
}

// slot is that of the last one of a name.
func (f *frameOfNames) slot(name string) int {
	for k := len(f.names) - 1; ; k-- {
		if f.names[k] == name {
			return k
		}
	}
}

func (r *reckoner) step() bool {
	r.steps++
	return r.steps <= r.most
}

func madeWanted(v impl.Value, code int) (impl.Value, int) {
	if code != impl.OK {
		return word(codeTable()[code].word), threw
	}
	return v, goesOn
}

// all does nodes in turn, until one does not go on.
func (r *reckoner) all(f *frameOfNames, list []int) (values []impl.Value, v impl.Value, how int) {
	for _, k := range list {
		if v, how = r.node(f, k); how != goesOn {
			return nil, v, how
		}
		values = append(values, v)
	}
	return values, null, goesOn
}

func (r *reckoner) node(f *frameOfNames, k int) (impl.Value, int) {
	if !r.step() {
		return null, spent
	}
	n := r.tree.Nodes[k]
	switch n.Kind {
	case impl.NoIf:
		return r.choice(f, n)
	case impl.NoWhile:
		return r.loop(f, n)
	case impl.NoTry:
		return r.attempt(f, n)
	case impl.NoBlock:
		high := len(f.names)
		_, v, how := r.all(f, n.Kids)
		f.cut(high)
		return v, how
	case impl.NoAnd, impl.NoOr:
		v, how := r.node(f, n.Kids[0])
		if how == goesOn && trueWanted(v) == (n.Kind == impl.NoAnd) {
			return r.node(f, n.Kids[1])
		}
		return v, how
	}
	values, v, how := r.all(f, n.Kids)
	if how != goesOn {
		return v, how
	}
	return r.behindKids(f, n, values)
}

// behindKids is of the nodes that come to all their kids.
func (r *reckoner) behindKids(f *frameOfNames, n impl.Node, kids []impl.Value) (impl.Value, int) {
	switch n.Kind {
	case impl.NoInt:
		return num(n.N), goesOn
	case impl.NoText:
		return word(n.Text), goesOn
	case impl.NoBool:
		return []impl.Value{no, yes}[n.N], goesOn
	case impl.NoName:
		return f.values[f.slot(n.Text)], goesOn
	case impl.NoUnary:
		return madeWanted(unaryWanted(n.Text, kids[0]))
	case impl.NoBinary:
		return madeWanted(binaryWanted(n.Text, kids[0], kids[1]))
	case impl.NoCall:
		return r.call(f, n.Text, kids)
	case impl.NoLet:
		f.bring(n.Text, kids[0])
	case impl.NoSet:
		f.values[f.slot(n.Text)] = kids[0]
	case impl.NoReturn:
		return kids[0], returned
	case impl.NoThrow:
		return kids[0], threw
	}
	return null, goesOn
}

func (r *reckoner) call(f *frameOfNames, name string, args []impl.Value) (impl.Value, int) {
	for _, k := range funcsWanted(r.tree) {
		n := r.tree.Nodes[k]
		if n.Text != name {
			continue
		}
		if f.open == 6 {
			return word("deep"), threw
		}
		v, how := r.node(&frameOfNames{names: slices.Clone(n.Names), values: args, open: f.open + 1}, n.Kids[0])
		switch how {
		case returned:
			return v, goesOn
		case goesOn:
			return null, goesOn
		}
		return v, how
	}
	return madeWanted(builtinWanted(name, args))
}

func (r *reckoner) choice(f *frameOfNames, n impl.Node) (impl.Value, int) {
	v, how := r.node(f, n.Kids[0])
	switch {
	case how != goesOn:
		return v, how
	case trueWanted(v):
		return r.node(f, n.Kids[1])
	case len(n.Kids) == 3:
		return r.node(f, n.Kids[2])
	}
	return null, goesOn
}

func (r *reckoner) loop(f *frameOfNames, n impl.Node) (impl.Value, int) {
	for {
		if !r.step() {
			return null, spent
		}
		v, how := r.node(f, n.Kids[0])
		if how != goesOn || !trueWanted(v) {
			return v, how
		}
		if v, how := r.node(f, n.Kids[1]); how != goesOn {
			return v, how
		}
	}
}

func (r *reckoner) attempt(f *frameOfNames, n impl.Node) (impl.Value, int) {
	high := len(f.names)
	v, how := r.node(f, n.Kids[0])
	f.cut(high)
	if how != threw {
		return v, how
	}
	f.bring(n.Text, v)
	v, how = r.node(f, n.Kids[1])
	f.cut(high)
	return v, how
}

// evalWanted is of a right tree without a fault.
func evalWanted(tree impl.Tree, path string, steps int) (impl.Outcome, int) {
	r := &reckoner{tree: tree, most: steps}
	functions := funcsWanted(tree)
	list := slices.DeleteFunc(slices.Clone(tree.Nodes[tree.Root].Kids), func(k int) bool { return slices.Contains(functions, k) })
	_, v, how := r.all(&frameOfNames{names: []string{"path"}, values: []impl.Value{word(path)}, open: 1}, list)
	switch how {
	case spent:
		return impl.Outcome{}, impl.ErrFuel
	case threw:
		return impl.Outcome{State: impl.MaThrew, Value: v, Steps: r.steps}, impl.OK
	}
	return impl.Outcome{State: impl.MaDone, Value: v, Steps: r.steps}, impl.OK
}

func wantEval(t *testing.T, what string, got impl.Outcome, code int, want impl.Outcome, wantCode int) {
	t.Helper()
	if got != want || code != wantCode {
		t.Errorf("%.700s = %d %s %d, %d; want %d %s %d, %d", what, got.State, valueTold(got.Value), got.Steps, code, want.State, valueTold(want.Value), want.Steps, wantCode)
	}
}

// wantEvalTree holds one call against what is told.
func wantEvalTree(t *testing.T, tree impl.Tree, path string, steps int, want impl.Outcome, wantCode int) {
	t.Helper()
	if got, code := impl.EvalTree(tree, path, steps); got != want || code != wantCode {
		wantEval(t, "EvalTree of "+sourceOf(tree)+" "+briefTree(tree), got, code, want, wantCode)
	}
}

func wrongSteps() []int {
	return []int{-1, 3001, -3000, 20000, 1 << 32, -1 << 32, 1<<32 + 5, math.MinInt, math.MaxInt}
}

// wantMeaning holds the evaluation of any tree, right or not, with that many steps and others, against what is reckoned here, and against its code. It answers the outcome with all steps that there may be.
func wantMeaning(t *testing.T, tree impl.Tree, path string) (impl.Outcome, int) {
	t.Helper()
	if !rightTree(tree) {
		for _, steps := range []int{0, 3000, 3001, math.MinInt} {
			wantEvalTree(t, tree, path, steps, impl.Outcome{}, impl.ErrBad)
		}
		return impl.Outcome{}, impl.ErrBad
	}
	if fault := faultWanted(tree).Code; fault != impl.OK {
		wantEvalTree(t, tree, path, 0, impl.Outcome{}, fault)
		wantEvalTree(t, tree, path, 3000, impl.Outcome{}, fault)
		wantEvalTree(t, tree, path, 3001, impl.Outcome{}, impl.ErrRange)
		return impl.Outcome{}, fault
	}
	want, wantCode := evalWanted(tree, path, 3000)
	wantEvalTree(t, tree, path, 3000, want, wantCode)
	if wantCode == impl.OK {
		wantEnough(t, tree, path, want)
		wantSameAsCode(t, tree, path, want)
	} else {
		for _, steps := range []int{0, 1, 7, 100, 2999} {
			wantEvalTree(t, tree, path, steps, impl.Outcome{}, impl.ErrFuel)
		}
	}
	for _, steps := range []int{-1, 3001} {
		wantEvalTree(t, tree, path, steps, impl.Outcome{}, impl.ErrRange)
	}
	return want, wantCode
}

// wantEnough: just as many steps are enough, and more of them change nothing; with fewer it does not end.
func wantEnough(t *testing.T, tree impl.Tree, path string, o impl.Outcome) {
	t.Helper()
	for _, more := range []int{0, 1, 2, 10, 500} {
		wantEvalTree(t, tree, path, min(o.Steps+more, 3000), o, impl.OK)
	}
	for _, less := range []int{1, 2, 3, o.Steps / 2, o.Steps} {
		if less > 0 && less <= o.Steps {
			wantEvalTree(t, tree, path, o.Steps-less, impl.Outcome{}, impl.ErrFuel)
		}
	}
}

// wantSameAsCode: no node makes more than three instructions each time that it is come to, so the code ends with all fuel that there may be if its tree does so. Code with too many tries in each other is not right, and is not run.
func wantSameAsCode(t *testing.T, tree impl.Tree, path string, o impl.Outcome) {
	t.Helper()
	p, code := impl.CompileTree(tree)
	if code != impl.OK {
		t.Errorf("CompileTree of %q: %d", sourceOf(tree), code)
		return
	}
	if !impl.ProgramOK(p) {
		return
	}
	first, _ := impl.StartMachine(p, path)
	m, code := impl.RunMachine(p, first, 20000)
	if code != impl.OK || m.State == impl.MaRun || !impl.SameOutcome(o, m) || m.State != o.State || m.Value != o.Value {
		t.Errorf("%q means %d %s, but its code comes to %s, %d; SameOutcome is %v", sourceOf(tree), o.State, valueTold(o.Value), toldMachine(m), code, impl.SameOutcome(o, m))
	}
	if impl.SameOutcome(o, first) {
		t.Errorf("SameOutcome of %q holds ahead of the first instruction", sourceOf(tree))
	}
	// As long as the machine runs it has no outcome.
	if before, _ := impl.RunMachine(p, first, m.Used-1); before.State != impl.MaRun || impl.SameOutcome(o, before) {
		t.Errorf("SameOutcome of %q holds ahead of the last instruction", sourceOf(tree))
	}
}

// wantSourceMeaning is wantMeaning of a source.
func wantSourceMeaning(t *testing.T, s, path string) (impl.Outcome, int) {
	t.Helper()
	tree, _, code := impl.ParseSource(s)
	want := impl.Outcome{}
	if code == impl.OK {
		want, code = wantMeaning(t, tree, path)
	}
	got, gotCode := impl.EvalSource(s, path)
	wantEval(t, "EvalSource of "+s, got, gotCode, want, code)
	return want, code
}
