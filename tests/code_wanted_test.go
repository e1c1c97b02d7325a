package tests

import (
	"fmt"
	"math/rand"
	"slices"
	"strconv"
	"strings"
	"testing"

	"loop.example/g00370/impl"
)

// This is chapter 6 reckoned once more. Code is written with names for its places first, which are looked up when all of it is there; slots come from the names that chapter 5's reckoner finds on a node's way to the Root.

// codeLine is the name of the place that comes next, or an instruction, which leads to a named place if it has one.
type codeLine struct {
	label string
	ins   impl.Ins
	to    string
}

type assembler struct {
	tree    impl.Tree
	parents []int
}

func label(what string, k int) codeLine {
	return codeLine{label: what + " " + strconv.Itoa(k)}
}

func plainIns(op int) []codeLine { return []codeLine{{ins: impl.Ins{Op: op}}} }

// leading is an instruction that leads to what label(what, k) names.
func leading(op int, what string, k int) codeLine {
	return codeLine{ins: impl.Ins{Op: op}, to: label(what, k).label}
}

func (a assembler) known(k int) []string {
	known, _ := knownWanted(a.tree, a.parents, k)
	return known
}

// slot is the newest one of that name.
func (a assembler) slot(op, k int) []codeLine {
	known := a.known(k)
	slices.Reverse(known)
	return []codeLine{{ins: impl.Ins{Op: op, N: len(known) - 1 - slices.Index(known, a.tree.Nodes[k].Text)}}}
}

// newSlot is that of a name which the node k brings.
func (a assembler) newSlot(k int) []codeLine {
	return []codeLine{{ins: impl.Ins{Op: impl.CoStore, N: len(a.known(k))}}}
}

func (a assembler) call(n impl.Node) []codeLine {
	for i, f := range funcsWanted(a.tree) {
		if a.tree.Nodes[f].Text == n.Text {
			return []codeLine{{ins: impl.Ins{Op: impl.CoCall, N: i + 1, M: len(n.Kids)}}}
		}
	}
	return []codeLine{{ins: impl.Ins{Op: impl.CoBuiltin, N: len(n.Kids), T: n.Text}}}
}

func (a assembler) lines(k int) []codeLine {
	n := a.tree.Nodes[k]
	var kids [][]codeLine
	for _, kid := range n.Kids {
		if a.tree.Nodes[kid].Kind != impl.NoFunc {
			kids = append(kids, a.lines(kid))
		}
	}
	all := slices.Concat(kids...)
	push := func(v impl.Value) []codeLine { return []codeLine{{ins: impl.Ins{Op: impl.CoPush, V: v}}} }
	switch n.Kind {
	case impl.NoInt:
		return push(num(n.N))
	case impl.NoText:
		return push(word(n.Text))
	case impl.NoBool:
		return push(truthValue(n.N == 1))
	case impl.NoNull:
		return push(null)
	case impl.NoName:
		return a.slot(impl.CoLoad, k)
	case impl.NoUnary:
		return append(all, codeLine{ins: impl.Ins{Op: impl.CoUnary, T: n.Text}})
	case impl.NoBinary:
		return append(all, codeLine{ins: impl.Ins{Op: impl.CoBinary, T: n.Text}})
	case impl.NoAnd:
		return slices.Concat(kids[0], []codeLine{leading(impl.CoAnd, "behind", k)}, kids[1], []codeLine{label("behind", k)})
	case impl.NoOr:
		return slices.Concat(kids[0], []codeLine{leading(impl.CoOr, "behind", k)}, kids[1], []codeLine{label("behind", k)})
	case impl.NoCall:
		return append(all, a.call(n)...)
	case impl.NoLet:
		return append(all, a.newSlot(k)...)
	case impl.NoSet:
		return append(all, a.slot(impl.CoStore, k)...)
	case impl.NoReturn:
		return append(all, plainIns(impl.CoReturn)...)
	case impl.NoThrow:
		return append(all, plainIns(impl.CoThrow)...)
	case impl.NoDo:
		return append(all, plainIns(impl.CoPop)...)
	case impl.NoBlock, impl.NoFunc:
		return all
	}
	return a.jumps(k, kids)
}

func (a assembler) jumps(k int, kids [][]codeLine) []codeLine {
	switch a.tree.Nodes[k].Kind {
	case impl.NoIf:
		if len(kids) == 2 {
			return slices.Concat(kids[0], []codeLine{leading(impl.CoFalse, "behind", k)}, kids[1], []codeLine{label("behind", k)})
		}
		return slices.Concat(kids[0], []codeLine{leading(impl.CoFalse, "third", k)}, kids[1], []codeLine{leading(impl.CoJump, "behind", k), label("third", k)}, kids[2], []codeLine{label("behind", k)})
	case impl.NoWhile:
		return slices.Concat([]codeLine{label("first", k)}, kids[0], []codeLine{leading(impl.CoFalse, "behind", k)}, kids[1], []codeLine{leading(impl.CoJump, "first", k), label("behind", k)})
	}
	first := slices.Concat([]codeLine{leading(impl.CoTry, "store", k)}, kids[0], plainIns(impl.CoDone), []codeLine{leading(impl.CoJump, "behind", k)})
	return slices.Concat(first, []codeLine{label("store", k)}, a.newSlot(k), kids[1], []codeLine{label("behind", k)})
}

// assembled leaves the labels out, and puts their places where they are led to.
func assembled(lines []codeLine) []impl.Ins {
	places := map[string]int{}
	count := 0
	for _, l := range lines {
		if l.label != "" {
			places[l.label] = count
		} else {
			count++
		}
	}
	var code []impl.Ins
	for _, l := range lines {
		if l.label != "" {
			continue
		}
		if l.to != "" {
			l.ins.N = places[l.to]
		}
		code = append(code, l.ins)
	}
	return code
}

// programWanted is the program of a right tree whose names are right.
func programWanted(tree impl.Tree) impl.Program {
	a := assembler{tree: tree, parents: parentsOf(tree)}
	var p impl.Program
	for _, unit := range append([]int{tree.Root}, funcsWanted(tree)...) {
		end := append(plainIns(impl.CoPush), plainIns(impl.CoReturn)...)
		p.Funcs = append(p.Funcs, impl.Func{Name: tree.Nodes[unit].Text, Params: len(beginsWanted(tree, unit)), Slots: slotsWanted(tree, unit), Code: assembled(append(a.lines(unit), end...))})
	}
	return p
}

// opUses has the parts of an instruction that an Op has a use for, and what it takes off the stack and puts there (N and M: so many), when it goes on to the next instruction.
var opUses = map[int]struct{ word, parts, takes, makes string }{
	impl.CoPush:    {"push", "V", "", "v"},
	impl.CoLoad:    {"load", "N", "", "v"},
	impl.CoStore:   {"store", "N", "v", ""},
	impl.CoUnary:   {"unary", "T", "v", "v"},
	impl.CoBinary:  {"binary", "T", "vv", "v"},
	impl.CoJump:    {"jump", "N", "", ""},
	impl.CoFalse:   {"false", "N", "v", ""},
	impl.CoAnd:     {"and", "N", "v", ""},
	impl.CoOr:      {"or", "N", "v", ""},
	impl.CoCall:    {"call", "NM", "M", "v"},
	impl.CoBuiltin: {"builtin", "TN", "N", "v"},
	impl.CoReturn:  {"return", "", "v", ""},
	impl.CoThrow:   {"throw", "", "v", ""},
	impl.CoTry:     {"try", "N", "", ""},
	impl.CoDone:    {"done", "", "", ""},
	impl.CoPop:     {"pop", "", "v", ""},
}

func valuesTaken(i impl.Ins) int {
	switch takes := opUses[i.Op].takes; takes {
	case "N":
		return i.N
	case "M":
		return i.M
	default:
		return len(takes)
	}
}

func opLeads(op int) bool {
	return slices.Contains([]int{impl.CoJump, impl.CoFalse, impl.CoAnd, impl.CoOr, impl.CoTry}, op)
}

func insWanted(p impl.Program, f impl.Func, i impl.Ins) bool {
	uses, found := opUses[i.Op]
	for part, zero := range map[string]bool{"N": i.N == 0, "M": i.M == 0, "T": i.T == "", "V": i.V == null} {
		if !zero && !strings.Contains(uses.parts, part) {
			return false
		}
	}
	count, builtin := builtinCounts()[i.T]
	switch {
	case i.Op == impl.CoPush:
		return impl.ValueOK(i.V)
	case i.Op == impl.CoLoad || i.Op == impl.CoStore:
		return 0 <= i.N && i.N < f.Slots
	case i.Op == impl.CoUnary:
		return i.T == "!" || i.T == "-"
	case i.Op == impl.CoBinary:
		return slices.Contains(strings.Fields("< == + - * / %"), i.T)
	case opLeads(i.Op):
		return 0 <= i.N && i.N < len(f.Code)
	case i.Op == impl.CoCall:
		return 0 <= i.N && i.N < len(p.Funcs) && i.M == p.Funcs[i.N].Params
	case i.Op == impl.CoBuiltin:
		return builtin && i.N == count
	}
	return found
}

// point is a place of the code, how high the stack is there, and how many tries are open.
type point struct{ place, high, tries int }

// pointsBehind has the points that an instruction leads to; the bool says that it takes nothing that is not there.
func pointsBehind(i impl.Ins, at point) ([]point, bool) {
	high := at.high - valuesTaken(i) + len(opUses[i.Op].makes)
	next := point{at.place + 1, high, at.tries}
	right := at.high >= valuesTaken(i)
	switch i.Op {
	case impl.CoReturn, impl.CoThrow:
		return nil, right
	case impl.CoJump:
		return []point{{i.N, high, at.tries}}, right
	case impl.CoFalse:
		return []point{next, {i.N, high, at.tries}}, right
	case impl.CoAnd, impl.CoOr:
		return []point{next, {i.N, high + 1, at.tries}}, right
	case impl.CoTry:
		return []point{{next.place, high, at.tries + 1}, {i.N, high + 1, at.tries}}, right
	case impl.CoDone:
		return []point{{next.place, high, at.tries - 1}}, right && at.tries > 0
	}
	return []point{next}, right
}

// pointsWanted has the one point of each place that some way comes to; or, if there is a way that may not be gone, a word of why not.
func pointsWanted(code []impl.Ins) (map[int]point, string) {
	points := map[int]point{}
	for list := []point{{}}; len(list) > 0; list = list[1:] {
		at := list[0]
		before, found := points[at.place]
		switch {
		case at.place < 0 || at.place >= len(code):
			return nil, "leaves"
		case at.high > 200 || at.tries > 20:
			return nil, "high"
		case found && before.high != at.high:
			return nil, "stack"
		case found && before.tries != at.tries:
			return nil, "tries"
		case found:
			continue
		}
		points[at.place] = at
		behind, right := pointsBehind(code[at.place], at)
		if !right {
			return nil, "takes"
		}
		list = append(list, behind...)
	}
	return points, ""
}

// rightProgram is ProgramOK of the tests' own.
func rightProgram(p impl.Program) bool {
	if len(p.Funcs) < 1 || len(p.Funcs) > 9 {
		return false
	}
	for k, f := range p.Funcs {
		if k == 0 && (f.Name != "" || f.Params != 1) || k > 0 && !identWanted(f.Name) {
			return false
		}
		if f.Params < 0 || f.Params > 4 || f.Slots < f.Params || f.Slots > 20 || len(f.Code) == 0 || len(f.Code) > 400 {
			return false
		}
		if slices.ContainsFunc(f.Code, func(i impl.Ins) bool { return !insWanted(p, f, i) }) {
			return false
		}
	}
	for _, f := range p.Funcs {
		if _, fault := pointsWanted(f.Code); fault != "" {
			return false
		}
	}
	return true
}

// insTextWanted is asked of instructions that are told.
func insTextWanted(i impl.Ins) string {
	uses := opUses[i.Op]
	text := uses.word
	for _, part := range uses.parts {
		switch part {
		case 'N':
			text += fmt.Sprintf(" %d", i.N)
		case 'M':
			text += fmt.Sprintf(" %d", i.M)
		case 'T':
			text += " " + i.T
		case 'V':
			text += " " + valueWritten(i.V)
		}
	}
	return text
}

func valueWritten(v impl.Value) string {
	switch v.Kind {
	case impl.VaInt:
		return fmt.Sprint(v.N)
	case impl.VaBool:
		return fmt.Sprint(v.N == 1)
	case impl.VaText:
		return quoted(v.T)
	}
	return "null"
}

// linesWanted has no lines of a program with a text that can't be quoted; the bool says so.
func linesWanted(p impl.Program) ([]string, bool) {
	var lines []string
	for k, f := range p.Funcs {
		lines = append(lines, fmt.Sprintf("function %d %d %d", k, f.Params, f.Slots))
		for at, i := range f.Code {
			if i.Op == impl.CoPush && !plainBytes(i.V.T) {
				return nil, false
			}
			lines = append(lines, fmt.Sprintf("%d %s", at, insTextWanted(i)))
		}
	}
	return lines, true
}

func targetsWanted(code []impl.Ins) []int {
	var list []int
	for place := range code {
		if slices.ContainsFunc(code, func(i impl.Ins) bool { return opLeads(i.Op) && i.N == place }) {
			list = append(list, place)
		}
	}
	return list
}

func sameProgram(p, q impl.Program) bool {
	return slices.EqualFunc(p.Funcs, q.Funcs, func(f, g impl.Func) bool {
		return f.Name == g.Name && f.Params == g.Params && f.Slots == g.Slots && slices.Equal(f.Code, g.Code)
	})
}

// cloneProgram leaves room behind each list, so that what is written there can be seen.
func cloneProgram(p impl.Program) impl.Program {
	c := impl.Program{Funcs: append(make([]impl.Func, 0, len(p.Funcs)+2), p.Funcs...)}
	for k := range c.Funcs {
		f := &c.Funcs[k]
		f.Code = append(make([]impl.Ins, 0, len(f.Code)+2), f.Code...)
	}
	return c
}

// briefProgram tells the beginning of a program, so that a failed test stays readable.
func briefProgram(p impl.Program) string {
	told := fmt.Sprintf("%d functions", len(p.Funcs))
	for _, f := range p.Funcs[:min(len(p.Funcs), 3)] {
		told += fmt.Sprintf(" %.25q %d %d of %d:", f.Name, f.Params, f.Slots, len(f.Code))
		for _, i := range f.Code[:min(len(f.Code), 14)] {
			told += fmt.Sprintf(" {%d %d %d %.25q %s}", i.Op, i.N, i.M, i.T, brieflyTold(i.V))
		}
	}
	return told
}

func brieflyTold(v impl.Value) string {
	v.T = v.T[:min(len(v.T), 25)]
	return tell(v)
}

func wantProgram(t *testing.T, what string, got impl.Program, code int, want impl.Program, wantCode int) {
	t.Helper()
	if !sameProgram(got, want) || code != wantCode {
		t.Errorf("%.200s = %s, %d; want %s, %d", what, briefProgram(got), code, briefProgram(want), wantCode)
	}
}

func wantOfFunction(t *testing.T, what string, p impl.Program, k, got, code, want, wantCode int) {
	t.Helper()
	if got != want || code != wantCode {
		t.Errorf("%s of %s, %d = %d, %d; want %d, %d", what, briefProgram(p), k, got, code, want, wantCode)
	}
}

func wantTargets(t *testing.T, p impl.Program, k int, want []int, wantCode int) {
	t.Helper()
	if got, code := impl.TargetsOf(p, k); !slices.Equal(got, want) || code != wantCode {
		t.Errorf("TargetsOf of %s, %d = %v, %d; want %v, %d", briefProgram(p), k, got, code, want, wantCode)
	}
}

func wantLines(t *testing.T, p impl.Program, want []string, wantCode int) {
	t.Helper()
	if got, code := impl.ProgramText(p); !slices.Equal(got, want) || code != wantCode {
		t.Errorf("ProgramText of %s = %.200q, %d; want %.200q, %d", briefProgram(p), got, code, want, wantCode)
	}
}

// wantProgramAnswers holds all calls of a program, right or not, against what is reckoned here.
func wantProgramAnswers(t *testing.T, p impl.Program) {
	t.Helper()
	given := cloneProgram(p)
	if !rightProgram(p) {
		wantBadProgram(t, p)
	} else if !impl.ProgramOK(p) {
		t.Errorf("ProgramOK of %s = false", briefProgram(p))
	} else {
		wantRightProgram(t, p)
	}
	if !sameProgram(p, given) {
		t.Errorf("a call changed its program: %s, was %s", briefProgram(p), briefProgram(given))
	}
}

func wantRightProgram(t *testing.T, p impl.Program) {
	t.Helper()
	size := 0
	for k, f := range p.Funcs {
		points, _ := pointsWanted(f.Code)
		need := 0
		for _, at := range points {
			need = max(need, at.high)
		}
		size += len(f.Code)
		got, code := impl.StackNeed(p, k)
		wantOfFunction(t, "StackNeed", p, k, got, code, need, impl.OK)
		got, code = impl.Reached(p, k)
		wantOfFunction(t, "Reached", p, k, got, code, len(points), impl.OK)
		wantTargets(t, p, k, targetsWanted(f.Code), impl.OK)
	}
	got, code := impl.CodeSize(p)
	wantOfFunction(t, "CodeSize", p, 0, got, code, size, impl.OK)
	if lines, told := linesWanted(p); told {
		wantLines(t, p, lines, impl.OK)
	} else {
		wantLines(t, p, nil, impl.ErrBad)
	}
	wantNoFunctions(t, p, impl.ErrPlace, -1, len(p.Funcs))
}

// wantNoFunctions: such a k is answered with that code, and nothing else.
func wantNoFunctions(t *testing.T, p impl.Program, wantCode int, list ...int) {
	t.Helper()
	for _, k := range list {
		got, code := impl.StackNeed(p, k)
		wantOfFunction(t, "StackNeed", p, k, got, code, 0, wantCode)
		got, code = impl.Reached(p, k)
		wantOfFunction(t, "Reached", p, k, got, code, 0, wantCode)
		wantTargets(t, p, k, nil, wantCode)
	}
}

func wantBadProgram(t *testing.T, p impl.Program) {
	t.Helper()
	if impl.ProgramOK(p) {
		t.Errorf("ProgramOK of %s = true", briefProgram(p))
	}
	wantNoFunctions(t, p, impl.ErrBad, -1, 0, len(p.Funcs))
	got, code := impl.CodeSize(p)
	wantOfFunction(t, "CodeSize", p, 0, got, code, 0, impl.ErrBad)
	wantLines(t, p, nil, impl.ErrBad)
}

// wantCompiled holds the code of a right tree against what is reckoned here, and goes some ways through it; a tree that no source has may have code that is not right by itself.
func wantCompiled(t *testing.T, tree impl.Tree) {
	t.Helper()
	p, code := impl.CompileTree(tree)
	if fault := faultWanted(tree); fault.Code != impl.OK {
		wantProgram(t, "CompileTree of "+sourceOf(tree), p, code, impl.Program{}, fault.Code)
		return
	}
	want := programWanted(tree)
	wantProgram(t, "CompileTree of "+sourceOf(tree), p, code, want, impl.OK)
	if code == impl.OK && !t.Failed() {
		wantProgramAnswers(t, p)
		if rightProgram(p) {
			wantStacks(t, p)
		}
	}
}

// wantStacks goes ways by chance through each function.
func wantStacks(t *testing.T, p impl.Program) {
	t.Helper()
	for k, f := range p.Funcs {
		points, _ := pointsWanted(f.Code)
		for seed := range int64(3) {
			if fault := wander(rand.New(rand.NewSource(seed)), f.Code, points); fault != "" {
				t.Errorf("function %d of %s: %s", k, briefProgram(p), fault)
			}
		}
	}
}

// wander goes one way through the code with a stack and tries of its own, as chapter 7 tells of a machine: conditions turn out either way, and each operation and call may throw. It tells where the stack, or the tries, are not as they are to be.
func wander(chance *rand.Rand, code []impl.Ins, points map[int]point) string {
	type try struct{ at, high int }
	var tries []try
	high := 0
	for pc, steps := 0, 0; steps < 300; steps++ {
		if want, found := points[pc]; !found || want != (point{pc, high, len(tries)}) {
			return fmt.Sprintf("at %d the stack has %d, %d tries are open; want %v", pc, high, len(tries), want)
		}
		i := code[pc]
		throws := i.Op == impl.CoThrow || slices.Contains([]int{impl.CoUnary, impl.CoBinary, impl.CoCall, impl.CoBuiltin}, i.Op) && chance.Intn(4) == 0
		switch {
		case i.Op == impl.CoReturn, throws && len(tries) == 0:
			return ""
		case throws:
			newest := tries[len(tries)-1]
			tries = tries[:len(tries)-1]
			if high < newest.high {
				return fmt.Sprintf("at %d the stack has %d, which is below the %d of the newest try", pc, high, newest.high)
			}
			pc, high = newest.at, newest.high+1
			continue
		case i.Op == impl.CoTry:
			tries = append(tries, try{i.N, high})
		case i.Op == impl.CoDone:
			tries = tries[:len(tries)-1]
		case i.Op == impl.CoJump:
			pc = i.N
			continue
		case (i.Op == impl.CoAnd || i.Op == impl.CoOr) && chance.Intn(2) == 0:
			pc = i.N
			continue
		case i.Op == impl.CoFalse && chance.Intn(2) == 0:
			pc, high = i.N, high-1
			continue
		}
		pc, high = pc+1, high-valuesTaken(i)+len(opUses[i.Op].makes)
	}
	return ""
}
