package tests

import (
	"fmt"
	"math"
	"slices"
	"strconv"
	"strings"
	"testing"

	"loop.example/g00370/impl"
)

// This is chapter 7 reckoned once more. No list is written into here: each instruction makes the machine behind it anew, of lists that are made anew.

func unaryWanted(op string, v impl.Value) (impl.Value, int) {
	if op == "!" {
		return truthValue(slices.Contains([]impl.Value{null, num(0), no, word("")}, v)), impl.OK
	}
	if v.Kind != impl.VaInt {
		return null, impl.ErrType
	}
	return intsWanted("-", 0, v.N)
}

func trueWanted(v impl.Value) bool {
	not, _ := unaryWanted("!", v)
	return not == no
}

func textWanted(v impl.Value) string {
	if v.Kind == impl.VaText {
		return v.T
	}
	return valueWritten(v)
}

// builtinWanted is asked with as many arguments as the builtin takes.
func builtinWanted(name string, args []impl.Value) (impl.Value, int) {
	kinds := map[string][]int{"len": {impl.VaText}, "str": {args[0].Kind}, "abs": {impl.VaInt}, "at": {impl.VaText, impl.VaInt}, "max": {impl.VaInt, impl.VaInt}, "min": {impl.VaInt, impl.VaInt}, "cut": {impl.VaText, impl.VaInt, impl.VaInt}}[name]
	for i, kind := range kinds {
		if args[i].Kind != kind {
			return null, impl.ErrType
		}
	}
	within := func(n, most int) bool { return n >= 0 && n <= most }
	switch t := args[0].T; {
	case name == "len":
		return num(len(t)), impl.OK
	case name == "str":
		return word(textWanted(args[0])), impl.OK
	case name == "abs" && args[0].N < 0:
		return intsWanted("*", args[0].N, -1)
	case name == "abs":
		return args[0], impl.OK
	case name == "at" && within(args[1].N, len(t)-1):
		return num(int(t[args[1].N])), impl.OK
	case name == "max":
		return slices.MaxFunc(args, orderWanted), impl.OK
	case name == "min":
		return slices.MinFunc(args, orderWanted), impl.OK
	case name == "cut" && within(args[1].N, len(t)) && within(args[2].N, len(t)) && args[1].N <= args[2].N:
		return word(t[args[1].N:args[2].N]), impl.OK
	}
	return null, impl.ErrRange
}

// joined is a new list, so that neither of the two can be written over.
func joined[E any](list []E, more ...E) []E { return slices.Concat(list, more) }

// throwWanted: a stack that is lower than the try's height has null where nothing is any more.
func throwWanted(frames []impl.CallFrame, used int, v impl.Value) impl.Machine {
	if len(frames) == 0 {
		return impl.Machine{State: impl.MaThrew, Value: v, Used: used}
	}
	below, f := frames[:len(frames)-1], frames[len(frames)-1]
	if len(f.Tries) == 0 {
		return throwWanted(below, used, v)
	}
	newest := f.Tries[len(f.Tries)-1]
	stack := make([]impl.Value, newest.High, newest.High+1)
	copy(stack, f.Stack)
	f.Pc, f.Stack, f.Tries = newest.At, append(stack, v), f.Tries[:len(f.Tries)-1]
	return impl.Machine{State: impl.MaRun, Frames: joined(below, f), Used: used}
}

func frameWanted(p impl.Program, k int, args []impl.Value) impl.CallFrame {
	return impl.CallFrame{Func: k, Slots: joined(args, slices.Repeat([]impl.Value{null}, p.Funcs[k].Slots-len(args))...)}
}

// stepWanted is one instruction of a machine that runs.
func stepWanted(p impl.Program, m impl.Machine) impl.Machine {
	used := min(m.Used+1, 1000000)
	below, f := m.Frames[:len(m.Frames)-1], m.Frames[len(m.Frames)-1]
	i := p.Funcs[f.Func].Code[f.Pc]
	f.Pc++
	whole, high := f.Stack, len(f.Stack)-valuesTaken(i)
	taken := whole[high:]
	f.Stack = whole[:high]
	runs := func(values ...impl.Value) impl.Machine {
		f.Stack = joined(f.Stack, values...)
		return impl.Machine{State: impl.MaRun, Frames: joined(below, f), Used: used}
	}
	made := func(v impl.Value, code int) impl.Machine {
		if code != impl.OK {
			return throwWanted(joined(below, f), used, word(impl.CodeWord(code)))
		}
		return runs(v)
	}
	switch i.Op {
	case impl.CoPush:
		return runs(i.V)
	case impl.CoLoad:
		return runs(f.Slots[i.N])
	case impl.CoStore:
		f.Slots = slices.Concat(f.Slots[:i.N], taken, f.Slots[i.N+1:])
		return runs()
	case impl.CoUnary:
		return made(unaryWanted(i.T, taken[0]))
	case impl.CoBinary:
		return made(binaryWanted(i.T, taken[0], taken[1]))
	case impl.CoBuiltin:
		return made(builtinWanted(i.T, taken))
	case impl.CoJump:
		f.Pc = i.N
	case impl.CoFalse:
		if !trueWanted(taken[0]) {
			f.Pc = i.N
		}
	case impl.CoAnd, impl.CoOr:
		if trueWanted(taken[0]) == (i.Op == impl.CoOr) {
			f.Pc, f.Stack = i.N, whole
		}
	case impl.CoCall:
		if len(m.Frames) == 6 {
			return made(null, impl.ErrDeep)
		}
		return impl.Machine{State: impl.MaRun, Frames: joined(below, f, frameWanted(p, i.N, taken)), Used: used}
	case impl.CoReturn:
		if len(below) == 0 {
			return impl.Machine{State: impl.MaDone, Value: taken[0], Used: used}
		}
		below, f = below[:len(below)-1], below[len(below)-1]
		return runs(taken[0])
	case impl.CoThrow:
		return throwWanted(joined(below, f), used, taken[0])
	case impl.CoTry:
		f.Tries = joined(f.Tries, impl.Try{At: i.N, High: len(f.Stack)})
	case impl.CoDone:
		f.Tries = f.Tries[:len(f.Tries)-1]
	}
	return runs()
}

func runWanted(p impl.Program, m impl.Machine, fuel int) impl.Machine {
	for ; fuel > 0 && m.State == impl.MaRun; fuel-- {
		m = stepWanted(p, m)
	}
	return m
}

// rightMachine is MachineOK of the tests' own.
func rightMachine(p impl.Program, m impl.Machine) bool {
	if !rightProgram(p) || m.Used < 0 || m.Used > 1000000 {
		return false
	}
	if m.State == impl.MaDone || m.State == impl.MaThrew {
		return len(m.Frames) == 0 && impl.ValueOK(m.Value)
	}
	if m.State != impl.MaRun || m.Value != null || len(m.Frames) < 1 || len(m.Frames) > 6 || m.Frames[0].Func != 0 {
		return false
	}
	for k, f := range m.Frames {
		if f.Func < 0 || f.Func >= len(p.Funcs) || f.Pc < 0 || f.Pc >= len(p.Funcs[f.Func].Code) {
			return false
		}
		missing := 0
		if k < len(m.Frames)-1 {
			missing = 1
			if ahead := slices.Concat([]impl.Ins{{}}, p.Funcs[f.Func].Code)[f.Pc]; ahead.Op != impl.CoCall || ahead.N != m.Frames[k+1].Func {
				return false
			}
		}
		if !rightFrame(p.Funcs[f.Func], f, missing) {
			return false
		}
	}
	return true
}

func rightFrame(f impl.Func, c impl.CallFrame, missing int) bool {
	points, _ := pointsWanted(f.Code)
	at, reached := points[c.Pc]
	if !reached || len(c.Slots) != f.Slots || len(c.Stack) != at.high-missing || len(c.Tries) != at.tries {
		return false
	}
	for k, t := range c.Tries {
		caught, reached := points[t.At]
		if !reached || t.High < 0 || t.High > len(c.Stack) || caught.high != t.High+1 || caught.tries != k {
			return false
		}
	}
	return !slices.ContainsFunc(slices.Concat(c.Slots, c.Stack), func(v impl.Value) bool { return !impl.ValueOK(v) })
}

func outcomeWanted(m impl.Machine) (string, int) {
	words := map[int]string{impl.MaRun: "runs", impl.MaDone: "done " + textWanted(m.Value), impl.MaThrew: "threw " + textWanted(m.Value)}
	if text, found := words[m.State]; found && impl.ValueOK(m.Value) {
		return text, impl.OK
	}
	return "", impl.ErrBad
}

func sameMachine(a, b impl.Machine) bool {
	return a.State == b.State && a.Value == b.Value && a.Used == b.Used && slices.EqualFunc(a.Frames, b.Frames, func(f, g impl.CallFrame) bool {
		return f.Func == g.Func && f.Pc == g.Pc && slices.Equal(f.Slots, g.Slots) && slices.Equal(f.Stack, g.Stack) && slices.Equal(f.Tries, g.Tries)
	})
}

// cloneMachine leaves room behind each list, so that what is written there can be seen.
func cloneMachine(m impl.Machine) impl.Machine {
	m.Frames = append(make([]impl.CallFrame, 0, len(m.Frames)+2), m.Frames...)
	for k := range m.Frames {
		f := &m.Frames[k]
		f.Slots = append(make([]impl.Value, 0, len(f.Slots)+3), f.Slots...)
		f.Stack = append(make([]impl.Value, 0, len(f.Stack)+3), f.Stack...)
		f.Tries = append(make([]impl.Try, 0, len(f.Tries)+3), f.Tries...)
	}
	return m
}

// toldMachine has of each frame function@place, its slots, its stack, and its tries as At:High; a machine that does not run has its value alone.
func toldMachine(m impl.Machine) string {
	state, found := map[int]string{impl.MaRun: "run", impl.MaDone: "done", impl.MaThrew: "threw"}[m.State]
	if !found {
		state = "state " + strconv.Itoa(m.State)
	}
	told := state + " " + strconv.Itoa(m.Used)
	if m.State != impl.MaRun || m.Value != null {
		told += " " + valueTold(m.Value)
	}
	for _, f := range m.Frames[:min(len(m.Frames), 8)] {
		told += fmt.Sprintf(" | %d@%d %s/ %s/", f.Func, f.Pc, valuesTold(f.Slots), valuesTold(f.Stack))
		for _, t := range f.Tries[:min(len(f.Tries), 30)] {
			told += fmt.Sprintf(" %d:%d", t.At, t.High)
		}
	}
	return told
}

func valueTold(v impl.Value) string {
	if !impl.ValueOK(v) {
		return brieflyTold(v)
	}
	return valueWritten(v)
}

func valuesTold(list []impl.Value) string {
	var told strings.Builder
	for _, v := range list[:min(len(list), 30)] {
		told.WriteString(valueTold(v) + " ")
	}
	return told.String()
}

// wantBehind is wantMachine of what a call makes of a machine.
func wantBehind(t *testing.T, call string, m, got impl.Machine, code int, want impl.Machine, wantCode int) {
	t.Helper()
	if !sameMachine(got, want) || code != wantCode {
		t.Errorf("%s of %s = %s, %d; want %s, %d", call, toldMachine(m), toldMachine(got), code, toldMachine(want), wantCode)
	}
}

func wantMachine(t *testing.T, what string, got impl.Machine, code int, want impl.Machine, wantCode int) {
	t.Helper()
	if !sameMachine(got, want) || code != wantCode {
		t.Errorf("%.300s = %s, %d; want %s, %d", what, toldMachine(got), code, toldMachine(want), wantCode)
	}
}

func wantSlot(t *testing.T, p impl.Program, m impl.Machine, frame, slot int, want impl.Value, wantCode int) {
	t.Helper()
	if got, code := impl.SlotAt(p, m, frame, slot); got != want || code != wantCode {
		t.Errorf("SlotAt(%s, %d, %d) = %s, %d; want %s, %d", toldMachine(m), frame, slot, valueTold(got), code, valueTold(want), wantCode)
	}
}

func wantNext(t *testing.T, p impl.Program, m impl.Machine, want impl.Ins, wantCode int) {
	t.Helper()
	if got, code := impl.NextIns(p, m); got != want || code != wantCode {
		t.Errorf("NextIns of %s = %+v, %d; want %+v, %d", toldMachine(m), got, code, want, wantCode)
	}
}

func wantSpare(t *testing.T, p impl.Program, m impl.Machine, want, wantCode int) {
	t.Helper()
	if got, code := impl.SpareOf(p, m); got != want || code != wantCode {
		t.Errorf("SpareOf of %s = %d, %d; want %d, %d", toldMachine(m), got, code, want, wantCode)
	}
}

func wantOutcome(t *testing.T, m impl.Machine, want string, wantCode int) {
	t.Helper()
	if got, code := impl.OutcomeText(m); got != want || code != wantCode {
		t.Errorf("OutcomeText of %s = %q, %d; want %q, %d", toldMachine(m), got, code, want, wantCode)
	}
}

// wantMachineAnswers holds all calls of a machine, right or not, against what is reckoned here.
func wantMachineAnswers(t *testing.T, p impl.Program, m impl.Machine) {
	t.Helper()
	given, givenProgram := cloneMachine(m), cloneProgram(p)
	right := rightMachine(p, m)
	if impl.MachineOK(p, m) != right {
		t.Errorf("MachineOK of %s = %v; program %s", toldMachine(m), !right, briefProgram(p))
	} else if right {
		wantRightMachine(t, p, m)
	} else {
		wantBadMachine(t, p, m)
	}
	text, code := outcomeWanted(m)
	wantOutcome(t, m, text, code)
	if !sameMachine(m, given) || !sameProgram(p, givenProgram) {
		t.Errorf("a call changed its machine: %s, was %s", toldMachine(m), toldMachine(given))
	}
}

func wantRightMachine(t *testing.T, p impl.Program, m impl.Machine) {
	t.Helper()
	for _, fuel := range []int{0, 1, 2, 5, 30} {
		got, code := impl.RunMachine(p, m, fuel)
		wantBehind(t, "RunMachine by "+strconv.Itoa(fuel), m, got, code, runWanted(p, m, fuel), impl.OK)
	}
	for _, fuel := range []int{-1, 20001, math.MinInt, math.MaxInt} {
		got, code := impl.RunMachine(p, m, fuel)
		wantMachine(t, "RunMachine with wrong fuel", got, code, impl.Machine{}, impl.ErrRange)
	}
	wantSpare(t, p, m, 6-len(m.Frames), impl.OK)
	got, code := impl.StepMachine(p, m)
	if m.State == impl.MaRun {
		last := m.Frames[len(m.Frames)-1]
		wantBehind(t, "StepMachine", m, got, code, stepWanted(p, m), impl.OK)
		wantNext(t, p, m, p.Funcs[last.Func].Code[last.Pc], impl.OK)
	} else {
		wantBehind(t, "StepMachine", m, got, code, m, impl.ErrNone)
		wantNext(t, p, m, impl.Ins{}, impl.ErrNone)
	}
	for frame, f := range m.Frames {
		for slot, v := range f.Slots {
			wantSlot(t, p, m, frame, slot, v, impl.OK)
		}
		wantSlot(t, p, m, frame, -1, null, impl.ErrPlace)
		wantSlot(t, p, m, frame, len(f.Slots), null, impl.ErrPlace)
	}
	wantSlot(t, p, m, -1, 0, null, impl.ErrPlace)
	wantSlot(t, p, m, len(m.Frames), 0, null, impl.ErrPlace)
}

func wantBadMachine(t *testing.T, p impl.Program, m impl.Machine) {
	t.Helper()
	for _, fuel := range []int{0, 1, 20000, -1, 20001, math.MinInt, math.MaxInt} {
		got, code := impl.RunMachine(p, m, fuel)
		wantBehind(t, "RunMachine", m, got, code, impl.Machine{}, impl.ErrBad)
	}
	got, code := impl.StepMachine(p, m)
	wantBehind(t, "StepMachine", m, got, code, impl.Machine{}, impl.ErrBad)
	wantNext(t, p, m, impl.Ins{}, impl.ErrBad)
	wantSpare(t, p, m, 0, impl.ErrBad)
	for _, place := range [][2]int{{0, 0}, {-1, 0}, {0, -1}, {6, 20}, {math.MinInt, math.MaxInt}} {
		wantSlot(t, p, m, place[0], place[1], null, impl.ErrBad)
	}
}

// wantTrace runs a machine instruction by instruction, with all its calls held against what is reckoned here, and answers the machines from the first to the last one, at most so many behind the first.
func wantTrace(t *testing.T, p impl.Program, path string, most int) []impl.Machine {
	t.Helper()
	m, code := impl.StartMachine(p, path)
	wantMachine(t, "StartMachine", m, code, impl.Machine{State: impl.MaRun, Frames: []impl.CallFrame{frameWanted(p, 0, []impl.Value{word(path)})}}, impl.OK)
	trace := []impl.Machine{m}
	for len(trace) <= most && m.State == impl.MaRun && !t.Failed() {
		wantMachineAnswers(t, p, m)
		if !impl.MachineOK(p, m) {
			t.Errorf("behind %d instructions the machine is not right: %s; program %s", m.Used, toldMachine(m), briefProgram(p))
		}
		m, _ = impl.StepMachine(p, m)
		trace = append(trace, m)
	}
	wantMachineAnswers(t, p, m)
	return trace
}
