package tests

import (
	"fmt"
	"math"
	"math/rand"
	"slices"
	"strconv"
	"strings"
	"testing"

	"loop.example/g00370/impl"
)

// ins reads an instruction as InsText writes it.
func ins(text string) impl.Ins {
	words := strings.SplitN(text, " ", 2)
	for op, uses := range opUses {
		if uses.word != words[0] {
			continue
		}
		i := impl.Ins{Op: op}
		if uses.parts == "V" {
			i.V, _ = impl.ReadValue(words[1])
			return i
		}
		for k, part := range uses.parts {
			told := strings.Fields(words[1])[k]
			n, _ := strconv.Atoi(told)
			switch part {
			case 'N':
				i.N = n
			case 'M':
				i.M = n
			case 'T':
				i.T = told
			}
		}
		return i
	}
	panic("no such word: " + text)
}

// written is code as it is told, with commas between; `12*` ahead of an instruction has it so many times.
func written(text string) []impl.Ins {
	var code []impl.Ins
	for _, part := range strings.Split(text, ", ") {
		count := 1
		if times, one, found := strings.Cut(part, "*"); found && times != "" {
			if n, err := strconv.Atoi(times); err == nil {
				count, part = n, one
			}
		}
		code = append(code, slices.Repeat([]impl.Ins{ins(part)}, count)...)
	}
	return code
}

// alone is a program of one function; it has three slots.
func alone(code []impl.Ins) impl.Program {
	return impl.Program{Funcs: []impl.Func{{Params: 1, Slots: 3, Code: code}}}
}

func wantRight(t *testing.T, p impl.Program) {
	t.Helper()
	if !impl.ProgramOK(p) {
		t.Errorf("ProgramOK of %s = false", briefProgram(p))
	}
	wantProgramAnswers(t, p)
}

func wantWrong(t *testing.T, p impl.Program) {
	t.Helper()
	wantBadProgram(t, p)
	wantProgramAnswers(t, p)
}

func TestProgramsThatAreRight(t *testing.T) {
	for text, want := range map[string][2]int{ // how high the stack is, and how many instructions are reached
		"push null, return": {1, 2}, "push 1, throw": {1, 2}, "load 2, return": {1, 2}, "push 1, store 2, load 1, return": {1, 4},
		"push 1, unary -, unary !, return": {1, 4}, "push 1, push 2, binary +, return": {2, 4}, "push 1, push 2, push 3, pop, pop, return": {3, 6}, "push 1, push 2, return": {2, 3},
		// What no way comes to may stand anyhow, if it is an instruction.
		"push 1, return, pop": {1, 2}, "push 1, return, done, binary +, return": {1, 2}, "push 1, throw, jump 0": {1, 2}, "jump 2, pop, push 1, return": {1, 3}, "jump 3, return, pop, push 1, jump 1": {1, 4}, "push 1, return, jump 2": {1, 2},
		// Rings.
		"jump 0": {0, 1}, "jump 1, jump 0": {0, 2}, "push 1, pop, jump 0": {1, 3}, "push 1, jump 1": {1, 2}, "push 1, false 0, jump 0": {1, 3}, "push 1, false 0, push 2, return": {1, 4}, "push 1, unary -, jump 1": {1, 3},
		// Ways that meet.
		"push 1, false 4, push 2, jump 5, push 3, return": {1, 6}, "push 1, false 2, push 2, return": {1, 4}, "push 1, and 3, push 2, return": {1, 4}, "push 1, or 3, push 2, return": {1, 4}, "push 7, push 1, and 4, push 2, binary -, return": {2, 6}, "push 1, or 4, push 2, return, throw": {1, 5},
		// Tries.
		"try 3, done, push 1, return": {1, 4}, "try 4, push 1, done, return, throw": {1, 5}, "try 3, push 1, return, store 1, push 2, return": {1, 6}, "try 3, push 1, throw, return": {1, 4}, "push 5, try 4, done, return, binary +, return": {2, 6}, "try 7, try 5, done, done, jump 8, pop, jump 3, pop, push 1, return": {1, 10}, "try 3, jump 1, return, return": {1, 3}, "try 3, push 1, return, pop, jump 0": {1, 5},
		// Functions and builtins.
		"push 1, call 0 1, return": {1, 3}, "push 'a', builtin len 1, return": {1, 3}, "push 'a', push 1, push 2, builtin cut 3, return": {3, 5}, "push 1, push 2, builtin max 2, builtin str 1, return": {2, 5},
	} {
		p := alone(written(text))
		wantRight(t, p)
		need, code := impl.StackNeed(p, 0)
		wantOfFunction(t, "StackNeed of "+text, p, 0, need, code, want[0], impl.OK)
		reached, code := impl.Reached(p, 0)
		wantOfFunction(t, "Reached of "+text, p, 0, reached, code, want[1], impl.OK)
	}
}

func TestProgramsWhoseWaysAreWrong(t *testing.T) {
	for why, list := range map[string][]string{
		"leaves": {"push 1", "push 1, pop", "jump 1, push 1", "jump 2, done, push 1", "push 1, false 0", "push 1, false 2, push 1", "push 1, false 4, push 1, return, push 1", "push 1, and 3, push 2, pop", "push 1, or 3, push 2, unary -", "push 1, store 0", "push 1, call 0 1", "push 'a', builtin len 1", "try 3, push 1, return, pop", "try 2, jump 1, pop", "try 4, done, push 1, return, unary -", "try 3, push 1, throw, store 1"},
		"takes": {
			"return", "throw", "pop, push 1, return", "store 0, push 1, return", "unary -, return", "binary +, return", "push 1, binary +, return", "false 1, push 1, return", "and 1, return", "or 1, return", "call 0 1, return", "builtin len 1, return", "push 1, builtin max 2, return", "push 1, push 2, builtin cut 3, return", "push 1, pop, return", "push 1, store 1, throw", "push 1, false 2, return", "push 1, and 2, return", "push 1, or 3, pop, return", "jump 2, push 1, return", "try 1, return", "try 3, return, return, return",
			"done, push 1, return", "try 4, done, done, push 1, return", "push 1, false 3, done, push 1, return", "try 4, done, push 1, return, done, return",
		},
		"stack": {"push 1, push 2, jump 1", "push 1, jump 0", "push 1, pop, push 1, push 2, jump 1", "push 1, false 3, push 2, push 3, return", "push 1, false 5, push 1, push 2, jump 1, push 1, return", "push 1, push 2, false 4, pop, return", "push 1, and 2, jump 3, push 2, return", "push 1, and 4, push 2, push 3, return", "push 1, or 0, push 2, return", "push 1, and 0, push 1, return", "try 2, done, push 1, return", "try 0, done, push 1, return", "try 3, done, jump 4, push 2, push 1, return"},
		"tries": {"try 4, push 1, jump 4, return, return", "push 1, false 3, try 5, push 1, return, pop, jump 3", "try 4, jump 0, push 1, return, return", "try 5, push 1, false 0, push 1, return, return", "push 1, false 4, try 6, jump 4, push 1, return, return", "try 3, done, jump 0, pop, try 6, jump 0, return", "try 4, try 4, push 1, return, return"},
	} {
		for _, text := range list {
			wantWrong(t, alone(written(text)))
			if _, got := pointsWanted(written(text)); got != why {
				t.Errorf("%s: it is %q, not %q", text, got, why)
			}
		}
	}
}

func TestHowHighTheStackMayBe(t *testing.T) {
	for n := range 205 {
		for form, high := range map[string]int{
			fmt.Sprintf("%d*push 1, %d*pop, push 1, return", n+1, n+1): n + 1, fmt.Sprintf("%d*push 1, load 0, return", n+1): n + 2, fmt.Sprintf("%d*push 1, try %d, done, return, return", n+1, n+4): n + 2, fmt.Sprintf("%d*push 1, return", n+1): n + 1, fmt.Sprintf("%d*push 1, jump %d, return", n+1, n+2): n + 1, fmt.Sprintf("%d*push 1, call 0 1, builtin len 1, unary -, return", n+1): n + 1, fmt.Sprintf("%d*push 1, and %d, push 2, return", n+1, n+3): n + 1,
		} {
			p := alone(written(form))
			if len(p.Funcs[0].Code) > 400 {
				continue
			}
			if high > 200 {
				wantWrong(t, p)
				continue
			}
			wantRight(t, p)
			got, code := impl.StackNeed(p, 0)
			wantOfFunction(t, "StackNeed", p, 0, got, code, high, impl.OK)
		}
	}
}

func TestHowManyTriesMayBeOpen(t *testing.T) {
	for n := range 41 {
		// All of them are caught at the end of their own, where the others are still open; some are closed, some not.
		code := []impl.Ins{}
		for range n {
			code = append(code, impl.Ins{Op: impl.CoTry})
		}
		code = append(code, slices.Repeat([]impl.Ins{{Op: impl.CoDone}}, n/2)...)
		code = append(code, written("push 1, return")...)
		for i := range n {
			code[i].N = len(code)
			code = append(code, impl.Ins{Op: impl.CoThrow})
		}
		if p := alone(code); n > 20 {
			wantWrong(t, p)
		} else {
			wantRight(t, p)
		}
	}
	wantWrong(t, alone(written("try 2, jump 0, return")))
	// So many of them one behind the other are not open at once.
	var code []impl.Ins
	for k := range 79 {
		code = append(code, impl.Ins{Op: impl.CoTry, N: 5*k + 3}, impl.Ins{Op: impl.CoDone}, impl.Ins{Op: impl.CoJump, N: 5*k + 5}, impl.Ins{Op: impl.CoPop}, impl.Ins{Op: impl.CoJump, N: 5*k + 5})
	}
	wantRight(t, alone(append(code, written("push 1, return")...)))
}

func TestHowManyInstructionsThereMayBe(t *testing.T) {
	for _, n := range []int{0, 1, 2, 3, 4, 398, 399, 400, 401, 402, 4096, 4097, 100000} {
		whole := append(slices.Repeat(written("push 1, pop"), 60000), written("push 1, return")...)
		code := whole[len(whole)-n:]
		if n == 1 {
			code = written("jump 0")
		} else if n%2 == 1 {
			code = append(written("jump 1"), whole[len(whole)-n+1:]...)
		}
		p := alone(code)
		if n == 0 || n > 400 {
			wantWrong(t, p)
			continue
		}
		wantRight(t, p)
		got, codeOf := impl.Reached(p, 0)
		wantOfFunction(t, "Reached", p, 0, got, codeOf, n, impl.OK)
		// The same, with functions ahead of it or behind it.
		other := impl.Func{Name: "f", Code: written("push 1, return")}
		wantRight(t, impl.Program{Funcs: []impl.Func{p.Funcs[0], other, other}})
		wantRight(t, impl.Program{Funcs: []impl.Func{alone(other.Code).Funcs[0], {Name: "g", Code: code}}})
	}
	end := written("push 1, return")
	wantWrong(t, impl.Program{Funcs: []impl.Func{alone(end).Funcs[0], {Name: "g"}}})
	wantWrong(t, impl.Program{Funcs: []impl.Func{alone(end).Funcs[0], {Name: "g", Code: slices.Repeat(end, 201)}}})
}

func TestHowManyFunctionsThereMayBe(t *testing.T) {
	end := written("push 1, return")
	for _, n := range []int{0, 1, 2, 3, 8, 9, 10, 11, 4096, 4097, 100000} {
		p := impl.Program{Funcs: make([]impl.Func, n)}
		for k := range p.Funcs {
			p.Funcs[k] = impl.Func{Name: "f" + strconv.Itoa(k), Code: end}
			if k == 0 {
				p.Funcs[0] = alone(end).Funcs[0]
			}
		}
		if n < 1 || n > 9 {
			wantWrong(t, p)
			continue
		}
		wantRight(t, p)
		size, code := impl.CodeSize(p)
		wantOfFunction(t, "CodeSize", p, 0, size, code, 2*n, impl.OK)
		wantNoFunctions(t, p, impl.ErrPlace, -1, n, n+1, 9, 10, -9, 1<<32, 1<<32+1, math.MinInt, math.MaxInt)
	}
	// Names as chapter 4's; nothing says that no two are alike, or that none is a builtin's.
	for _, name := range []string{"f", "_", "len", "path", "Let", strings.Repeat("n", 20), "a9_Z"} {
		p := alone(end)
		p.Funcs = append(p.Funcs, impl.Func{Name: name, Code: end}, impl.Func{Name: "f", Params: 2, Slots: 2, Code: end})
		wantRight(t, p)
		p.Funcs[0].Name = name
		wantWrong(t, p)
	}
	for _, name := range append(append(sourceWords(), sourceSigns()...), "", " ", "1", "1a", "a b", "a-b", "\xff", "a\x00", "'a'", strings.Repeat("n", 21), strings.Repeat("n", 40), strings.Repeat("n", impl.MaxText+1)) {
		p := alone(end)
		p.Funcs = append(p.Funcs, impl.Func{Name: "f", Code: end}, impl.Func{Name: name, Code: end})
		wantWrong(t, p)
	}
}

func TestParamsAndSlots(t *testing.T) {
	end := written("push 1, return")
	numbers := []int{math.MinInt, -1 << 32, -20, -1, 0, 1, 2, 3, 4, 5, 19, 20, 21, 1 << 32, 1<<32 + 1, math.MaxInt}
	for _, params := range numbers {
		for _, slots := range numbers {
			f := impl.Func{Params: params, Slots: slots, Code: end}
			right := params >= 0 && params <= 4 && slots >= params && slots <= 20
			p := impl.Program{Funcs: []impl.Func{f}}
			if right && params == 1 {
				wantRight(t, p)
			} else {
				wantWrong(t, p)
			}
			f.Name = "f"
			p = alone(end)
			p.Funcs = append(p.Funcs, f)
			// A call has as many arguments as the function has parameters, and the slots are its own.
			p.Funcs[0].Code = append(slices.Repeat(written("push 1"), min(max(params, 0), 30)), impl.Ins{Op: impl.CoCall, N: 1, M: params}, impl.Ins{Op: impl.CoReturn})
			if right {
				wantRight(t, p)
			} else {
				wantWrong(t, p)
			}
			for n := -1; n <= 21; n++ {
				p.Funcs[1].Code = []impl.Ins{{Op: impl.CoLoad, N: n}, {Op: impl.CoReturn}}
				if want := right && n >= 0 && n < slots; impl.ProgramOK(p) != want {
					t.Errorf("load %d of %d slots: ProgramOK is %v", n, slots, !want)
				}
				p.Funcs[1].Code = []impl.Ins{{Op: impl.CoPush}, {Op: impl.CoStore, N: n}, {Op: impl.CoPush}, {Op: impl.CoReturn}}
				if want := right && n >= 0 && n < slots; impl.ProgramOK(p) != want {
					t.Errorf("store %d of %d slots: ProgramOK is %v", n, slots, !want)
				}
			}
		}
	}
}

// instructionsOf has an instruction of each Op with each of some numbers, texts and values, most of them wrong.
func instructionsOf() []impl.Ins {
	numbers := []int{math.MinInt, -1 << 32, -10000, -1, 0, 1, 2, 3, 4, 5, 9, 10, 400, 10000, 10001, 1 << 32, math.MaxInt}
	texts := append(append(sourceSigns(), sourceWords()...), "", " ", "!-", "+ ", "<=", "len", "str", "abs", "at", "max", "min", "cut", "Len", "f", strings.Repeat("t", 20), strings.Repeat("t", 21), "\xff", strings.Repeat("t", impl.MaxText+1))
	values := append(wrongValues(), null, yes, no, num(1), num(-5), word(""), word("a'b\\"), word("\n"), word("\xff"), word(strings.Repeat("v", 60)))
	var list []impl.Ins
	for op := -1; op <= 18; op++ {
		for _, n := range numbers {
			list = append(list, impl.Ins{Op: op, N: n}, impl.Ins{Op: op, M: n}, impl.Ins{Op: op, N: 1, M: n}, impl.Ins{Op: op, N: n, M: 1}, impl.Ins{Op: op, N: 2, M: n})
			for _, s := range []string{"+", "-", "len", "max", "cut"} {
				list = append(list, impl.Ins{Op: op, N: n, T: s}, impl.Ins{Op: op, N: n, M: 1, T: s}, impl.Ins{Op: op, M: n, T: s})
			}
		}
		for _, s := range texts {
			list = append(list, impl.Ins{Op: op, T: s}, impl.Ins{Op: op, N: 1, T: s}, impl.Ins{Op: op, N: 2, T: s}, impl.Ins{Op: op, N: 3, T: s}, impl.Ins{Op: op, T: s, V: yes})
		}
		for _, v := range values {
			list = append(list, impl.Ins{Op: op, V: v}, impl.Ins{Op: op, N: 1, V: v}, impl.Ins{Op: op, M: 1, V: v}, impl.Ins{Op: op, T: "-", V: v})
		}
	}
	for _, op := range []int{17, 100, -16, 1 << 32, 1<<32 + 1, math.MinInt, math.MaxInt} {
		list = append(list, impl.Ins{Op: op})
	}
	return list
}

// Each instruction stands where ways come to it, and where none does: there it is to be an instruction, too.
func TestEachInstruction(t *testing.T) {
	t.Parallel()
	right := map[string]map[int]int{}
	for _, head := range []string{"push 1, push 2, push 3, try 8", "push 1, return"} {
		right[head] = map[int]int{}
		for _, i := range instructionsOf() {
			p := alone(slices.Concat(written(head), []impl.Ins{i}, written("push 1, return, push 1, return")))
			p.Funcs = append(p.Funcs, impl.Func{Name: "f", Params: 2, Slots: 2, Code: written("push 1, return")})
			wantProgramAnswers(t, p)
			if rightProgram(p) {
				right[head][i.Op]++
			}
			if t.Failed() {
				return
			}
		}
	}
	reached, behind := right["push 1, push 2, push 3, try 8"], right["push 1, return"]
	if len(reached) != 15 || len(behind) != 16 { // the place of a try agrees with no other way there
		t.Errorf("Ops of right instructions: %v, %v", reached, behind)
	}
}

// forEachCode makes all code of that size, of instructions that are told and of those with the Ops that lead to each place; may says what may stand where.
func forEachCode(size int, told string, ops []int, may func(at int, i impl.Ins) bool, do func(code []impl.Ins)) {
	list := written(told)
	for n := range size {
		for _, op := range ops {
			list = append(list, impl.Ins{Op: op, N: n})
		}
	}
	code := make([]impl.Ins, size)
	var fill func(at int)
	fill = func(at int) {
		if at == size {
			do(code)
			return
		}
		for _, i := range list {
			if may(at, i) {
				code[at] = i
				fill(at + 1)
			}
		}
	}
	fill(0)
}

func TestAllShortPrograms(t *testing.T) {
	t.Parallel()
	count := 0
	anywhere := func(int, impl.Ins) bool { return true }
	for size := 1; size <= 4; size++ {
		forEachCode(size, "push 1, pop, return, throw, done, binary +, unary -", []int{impl.CoJump, impl.CoFalse, impl.CoAnd, impl.CoTry}, anywhere, func(code []impl.Ins) {
			p := alone(code)
			right := rightProgram(p)
			if impl.ProgramOK(p) != right {
				t.Errorf("ProgramOK of %s = %v", briefProgram(p), !right)
			} else if right {
				count++
				wantRightProgram(t, p)
			}
		})
	}
	if count < 4000 {
		t.Errorf("only %d of the programs were right", count)
	}
}

func (g *gardener) program() impl.Program {
	for {
		tree := g.tended(3+g.Intn(40), g.Intn(6)).parsed()
		if p, code := impl.CompileTree(tree); code == impl.OK {
			return p
		}
	}
}

// spoiltProgram changes one thing of a program.
func (g *gardener) spoiltProgram(p impl.Program) impl.Program {
	p = cloneProgram(p)
	f := &p.Funcs[g.Intn(len(p.Funcs))]
	if len(f.Code) == 0 {
		return p
	}
	at := g.Intn(len(f.Code))
	i := &f.Code[at]
	number := append(otherPlaces(len(f.Code)), 0, 1, 2, g.Intn(len(f.Code)), at+1)[g.Intn(15)]
	switch g.Intn(12) {
	case 0:
		i.Op = g.Intn(18)
	case 1:
		i.M = number
	case 2:
		i.T = g.word("+ - ! len max x")
	case 3:
		i.V = append(wrongValues(), yes, num(7), word("a"), word("\n"))[g.Intn(len(wrongValues())+4)]
	case 4:
		f.Code = slices.Delete(f.Code, at, at+1)
	case 5:
		f.Code = slices.Insert(f.Code, at, instructionsOf()[g.Intn(200)])
	case 6:
		f.Slots = number
	case 7:
		f.Params = number
	case 8:
		f.Name = g.word("f let x1 1x")
	case 9:
		p.Funcs = append(p.Funcs, p.Funcs[g.Intn(len(p.Funcs))])
	default: // where jumps lead
		for range 20 {
			if i = &f.Code[g.Intn(len(f.Code))]; opLeads(i.Op) {
				break
			}
		}
		i.N = g.Intn(len(f.Code))
	}
	return p
}

func TestSpoiltProgramsByChance(t *testing.T) {
	t.Parallel()
	g := &gardener{Rand: rand.New(rand.NewSource(14))}
	right, wrong := 0, 0
	for range 6000 {
		p := g.program()
		for range 1 + g.Intn(2) {
			p = g.spoiltProgram(p)
		}
		if rightProgram(p) {
			right++
		} else {
			wrong++
		}
		wantProgramAnswers(t, p)
		if t.Failed() {
			return
		}
	}
	if right < 500 || wrong < 3000 {
		t.Errorf("%d programs were right, %d wrong", right, wrong)
	}
}

func TestTargetsOf(t *testing.T) {
	for text, want := range map[string][]int{
		"push 1, return": nil, "jump 0": {0}, "push 1, false 2, push 1, return": {2}, "push 1, and 3, push 2, or 5, push 3, return": {3, 5}, "try 5, done, push 1, false 6, jump 6, pop, push 1, return": {5, 6},
		// Each once, rising; also those of instructions that no way comes to.
		"jump 5, jump 0, jump 5, jump 3, jump 0, push 1, return": {0, 3, 5}, "push 1, return, jump 2, try 1, and 0": {0, 1, 2}, "push 1, false 3, jump 3, push 1, false 0, jump 0": {0, 3},
		// The N of others are no places.
		"push 1, store 2, load 1, builtin len 1, call 0 1, return": nil,
	} {
		p := alone(written(text))
		wantRight(t, p)
		wantTargets(t, p, 0, want, impl.OK)
	}
}

func TestCodeSizeAndReachedOfSources(t *testing.T) {
	for s, want := range map[string][]int{ // of all functions together, then of each one what is reached
		"": {2, 2}, "return 1;": {4, 2}, "throw 1; path;": {6, 2}, "if (path) { return 1; } else { return 2; }": {9, 6}, "while (true) { }": {5, 5}, "try { return 1; } catch (e) { }": {8, 6}, "try { throw 1; } catch (e) { return e; }": {10, 6}, "try { 1; } catch (e) { return e; }": {10, 10}, "while (path) { return 1; }": {7, 6}, "return 1 && 2;": {6, 4},
		"function f() { } function g(a) { return a; } return f();": {10, 2, 2, 2}, "function f(a) { if (a) { throw 1; } return 2; 3; } f(1);": {15, 5, 6},
	} {
		p, _ := impl.CompileSource(s)
		got, code := impl.CodeSize(p)
		wantOfFunction(t, "CodeSize of "+s, p, 0, got, code, want[0], impl.OK)
		for k, reached := range want[1:] {
			got, code := impl.Reached(p, k)
			wantOfFunction(t, "Reached of "+s, p, k, got, code, reached, impl.OK)
		}
	}
}

func TestStackNeedOfSources(t *testing.T) {
	for s, want := range map[string][]int{
		"": {1}, "path;": {1}, "1 + 2;": {2}, "1 + 2 + 3;": {2}, "1 + (2 + 3);": {3}, "1 + (path && 2 + 3);": {3}, "cut(path, 1, 2 + 3);": {4}, "cut(path + 'a', 1, 2);": {3}, "max(len(path), len(path));": {2}, "-(1 + (2 + (3 + 4)));": {4}, "try { } catch (e) { }": {1}, "try { 1 + 2; } catch (e) { 1 + (2 + e); }": {3}, "if (1 < 2) { 1; } else { 1 + (2 + 3); }": {3}, "return 1; 1 + 2;": {1},
		"function f(a, b, c, d) { return a; } function g() { f(1, 2, 3, f(1, 2, 3, 4)); } f(1, 2, g(), 3);": {4, 1, 7},
	} {
		p, _ := impl.CompileSource(s)
		for k, need := range want {
			got, code := impl.StackNeed(p, k)
			wantOfFunction(t, "StackNeed of "+s, p, k, got, code, need, impl.OK)
		}
	}
}

func wantInsText(t *testing.T, i impl.Ins, want string, wantCode int) {
	t.Helper()
	if got, code := impl.InsText(i); got != want || code != wantCode {
		t.Errorf("InsText of {%d %d %d %.25q %s} = %.80q, %d; want %q, %d", i.Op, i.N, i.M, i.T, brieflyTold(i.V), got, code, want, wantCode)
	}
}

func TestInsText(t *testing.T) {
	for want, i := range map[string]impl.Ins{
		"push null": {Op: 1}, "push 0": {Op: 1, V: num(0)}, "push -2147483648": {Op: 1, V: num(impl.MinInt)}, "push 2147483647": {Op: 1, V: num(impl.MaxInt)}, "push true": {Op: 1, V: yes}, "push false": {Op: 1, V: no}, "push ''": {Op: 1, V: word("")}, "push 'null'": {Op: 1, V: word("null")}, `push 'a\'b\\ '`: {Op: 1, V: word(`a'b\ `)},
		"load 0": {Op: 2}, "load 19": {Op: 2, N: 19}, "store 10000": {Op: 3, N: 10000}, "unary !": {Op: 4, T: "!"}, "binary ==": {Op: 5, T: "=="}, "jump 0": {Op: 6}, "false 399": {Op: 7, N: 399}, "and 1": {Op: 8, N: 1}, "or 2": {Op: 9, N: 2}, "call 3 4": {Op: 10, N: 3, M: 4}, "call 0 0": {Op: 10}, "call 10000 10000": {Op: 10, N: 10000, M: 10000}, "builtin cut 3": {Op: 11, N: 3, T: "cut"}, "return": {Op: 12}, "throw": {Op: 13}, "try 9": {Op: 14, N: 9}, "done": {Op: 15}, "pop": {Op: 16},
		// There need not be such a sign, or such a builtin.
		"unary ": {Op: 4}, "unary len": {Op: 4, T: "len"}, "binary ttttttttttttttttttt\x00": {Op: 5, T: "ttttttttttttttttttt\x00"}, "builtin  10000": {Op: 11, N: 10000}, "builtin \xff 0": {Op: 11, T: "\xff"},
	} {
		wantInsText(t, i, want, impl.OK)
	}
	long := word(strings.Repeat("'", 60))
	wantInsText(t, impl.Ins{Op: impl.CoPush, V: long}, "push "+quoted(long.T), impl.OK)
	// What an instruction has no use for is not told.
	for want, op := range map[string]int{"push null": impl.CoPush, "return": impl.CoReturn, "done": impl.CoDone, "pop": impl.CoPop, "throw": impl.CoThrow} {
		wantInsText(t, impl.Ins{Op: op, N: 10000, M: 10000, T: strings.Repeat("t", 20)}, want, impl.OK)
	}
	wantInsText(t, impl.Ins{Op: impl.CoLoad, N: 2, V: word("\n")}, "load 2", impl.OK)
}

// toldWanted: the bounds hold for each part, has the Op a use for it or not.
func toldWanted(i impl.Ins) bool {
	_, found := opUses[i.Op]
	return found && impl.ValueOK(i.V) && len(i.T) <= 20 && i.N >= 0 && i.N <= 10000 && i.M >= 0 && i.M <= 10000 && (i.Op != impl.CoPush || plainBytes(i.V.T))
}

func TestInsTextOfEachInstruction(t *testing.T) {
	told := map[int]int{}
	for _, i := range instructionsOf() {
		if toldWanted(i) {
			wantInsText(t, i, insTextWanted(i), impl.OK)
			told[i.Op]++
		} else {
			wantInsText(t, i, "", impl.ErrBad)
		}
	}
	if len(told) != 16 {
		t.Errorf("Ops that were told: %v", told)
	}
	for op := range opUses {
		for _, i := range []impl.Ins{{Op: op, N: -1}, {Op: op, N: 10001}, {Op: op, M: -1}, {Op: op, M: 10001}, {Op: op, T: strings.Repeat("t", 21)}, {Op: op, V: impl.Value{N: 1}}, {Op: op, V: word(strings.Repeat("v", 61))}, {Op: op + 16}, {Op: op - 16}, {Op: -op}} {
			wantInsText(t, i, "", impl.ErrBad)
		}
	}
	for c := range 256 {
		i := impl.Ins{Op: impl.CoPush, V: word("a" + string([]byte{byte(c)}))}
		if c >= 32 && c <= 126 {
			wantInsText(t, i, "push "+quoted(i.V.T), impl.OK)
		} else {
			wantInsText(t, i, "", impl.ErrBad)
		}
	}
}

func TestProgramText(t *testing.T) {
	p := impl.Program{Funcs: []impl.Func{{Params: 1, Slots: 2, Code: written("push -5, store 1, jump 4, pop, load 1, call 1 1, return")}, {Name: "f", Params: 1, Slots: 20, Code: written("load 0, builtin len 1, throw")}, {Name: "g", Code: written("jump 0")}}}
	wantLines(t, p, []string{"function 0 1 2", "0 push -5", "1 store 1", "2 jump 4", "3 pop", "4 load 1", "5 call 1 1", "6 return", "function 1 1 20", "0 load 0", "1 builtin len 1", "2 throw", "function 2 0 0", "0 jump 0"}, impl.OK)
	wantRight(t, p)
	// A text that can't be quoted is a value, but can't be told; neither can what stands ahead of it.
	for _, s := range []string{"\n", "a\x7f", "\xff", "\x00"} {
		p := alone([]impl.Ins{{Op: impl.CoPush, V: word(s)}, {Op: impl.CoReturn}})
		wantRight(t, p)
		wantLines(t, p, nil, impl.ErrBad)
		size, code := impl.CodeSize(p)
		wantOfFunction(t, "CodeSize", p, 0, size, code, 2, impl.OK)
	}
	// The most lines that there may be.
	full := impl.Func{Name: "f", Params: 4, Slots: 20, Code: append(slices.Repeat(written("push 1, pop"), 199), written("push 1, return")...)}
	p = alone(full.Code)
	for range 8 {
		p.Funcs = append(p.Funcs, full)
	}
	lines, code := impl.ProgramText(p)
	if len(lines) != 9*401 || code != impl.OK {
		t.Errorf("ProgramText of all that there may be has %d lines, %d", len(lines), code)
	}
	wantRight(t, p)
}

// An empty list and nil are alike.
func TestProgramsOfEmptyLists(t *testing.T) {
	for _, p := range []impl.Program{{}, {Funcs: []impl.Func{}}, alone(nil), alone([]impl.Ins{}), {Funcs: []impl.Func{{}}}, {Funcs: make([]impl.Func, 9)}} {
		wantWrong(t, p)
	}
}

func TestProgramListsShareNothing(t *testing.T) {
	p, _ := impl.CompileSource("function f(a) { while (a) { a = a - 1; } return a; } f(1) && f(2);")
	given := cloneProgram(p)
	for k := range p.Funcs {
		first, _ := impl.TargetsOf(p, k)
		want := slices.Clone(first)
		second, _ := impl.TargetsOf(p, k)
		clear(first[:cap(first)])
		if third, _ := impl.TargetsOf(p, k); !slices.Equal(second, want) || !slices.Equal(third, want) || len(want) == 0 {
			t.Errorf("TargetsOf %v was written over: %v, then %v", want, second, third)
		}
	}
	first, _ := impl.ProgramText(p)
	want := slices.Clone(first)
	second, _ := impl.ProgramText(p)
	clear(first[:cap(first)])
	if third, _ := impl.ProgramText(p); !slices.Equal(second, want) || !slices.Equal(third, want) {
		t.Errorf("ProgramText %q was written over: %q, then %q", want, second, third)
	}
	if !sameProgram(p, given) {
		t.Errorf("what was written into an answer is to be seen in the program: %s", briefProgram(p))
	}
}

// Neither the functions and their code, nor what stands behind the end of each list is written into.
func TestProgramCallsLeaveTheirProgram(t *testing.T) {
	whole := func(p impl.Program) string {
		told := fmt.Sprint(p.Funcs[:cap(p.Funcs)])
		for _, f := range p.Funcs {
			told += fmt.Sprint(f.Code[:cap(f.Code)])
		}
		return told
	}
	g := &gardener{Rand: rand.New(rand.NewSource(15))}
	for i := range 300 {
		p := cloneProgram(g.program())
		if i%2 == 0 {
			p = cloneProgram(g.spoiltProgram(p))
		}
		p.Funcs[:cap(p.Funcs)][len(p.Funcs)] = impl.Func{Name: "behind", Params: -1}
		for _, f := range p.Funcs {
			f.Code[:cap(f.Code)][len(f.Code)] = impl.Ins{Op: 99, T: "behind"}
		}
		before := whole(p)
		impl.ProgramOK(p)
		impl.CodeSize(p)
		impl.ProgramText(p)
		for k := -1; k <= len(p.Funcs); k++ {
			impl.StackNeed(p, k)
			impl.Reached(p, k)
			impl.TargetsOf(p, k)
		}
		if whole(p) != before {
			t.Errorf("a call wrote into %s", briefProgram(p))
		}
	}
}

func FuzzCode(f *testing.F) {
	f.Add("let x = path; while (x < 3 && !x) { x = x + 1; } return x;", int64(1))
	f.Add("function f(a,b){if(a){return b;}else{f(b,a);}}try{f(1,len(path));}catch(e){throw e||1;}", int64(2))
	f.Add("{ let a = 1; { let a = a; } } let b = max(1, path) == 2;", int64(3))
	f.Fuzz(func(t *testing.T, s string, seed int64) {
		tree, _, code := impl.ParseSource(s)
		p, compileCode := impl.CompileSource(s)
		if code != impl.OK {
			wantProgram(t, "CompileSource", p, compileCode, impl.Program{}, code)
			return
		}
		again, againCode := impl.CompileTree(tree)
		wantProgram(t, "CompileTree", again, againCode, p, compileCode)
		wantCompiled(t, tree)
		if compileCode == impl.OK {
			g := &gardener{Rand: rand.New(rand.NewSource(seed))}
			wantProgramAnswers(t, g.spoiltProgram(p))
		}
	})
}
