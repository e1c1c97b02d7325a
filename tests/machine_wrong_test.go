package tests

import (
	"fmt"
	"math"
	"math/rand"
	"slices"
	"sync"
	"testing"

	"loop.example/g00370/impl"
)

// threeFrames is a machine of three frames, each with slots, values on its stack and a try that is open.
func threeFrames(t *testing.T) (impl.Program, impl.Machine) {
	t.Helper()
	p := program("push 1, try 5, push 2, call 1 0, return, return", "0 2: push 3, try 6, push 4, push 5, call 2 2, return, return", "2 3: load 0, try 7, push 7, push 8, push 9, return, return, return")
	m := ran(t, p, start(t, p), 13)
	if want := "run 13 | 0@4 'a' null null / 1 2 / 5:1 | 1@5 null null / 3 / 6:1 | 2@4 4 5 null / 4 7 8 / 7:1"; toldMachine(m) != want {
		t.Fatalf("the machine is %s", toldMachine(m))
	}
	return p, m
}

func oddNumbers() []int {
	return []int{math.MinInt, -1 << 32, -20, -2, -1, 0, 1, 2, 3, 4, 5, 6, 7, 8, 9, 20, 400, 1 << 32, 1<<32 + 1, 1<<32 + 4, math.MaxInt - 1, math.MaxInt}
}

// Each number of a machine is put to each of some others: it is right with hardly any but its own.
func TestMachinesWithOtherNumbers(t *testing.T) {
	p, right := threeFrames(t)
	for what, place := range map[string]struct {
		number func(m *impl.Machine) *int
		also   []int
	}{
		"state":    {func(m *impl.Machine) *int { return &m.State }, nil},
		"used":     {func(m *impl.Machine) *int { return &m.Used }, []int{0, 1, 2, 3, 4, 5, 6, 7, 8, 9, 20, 400}},
		"func 0":   {func(m *impl.Machine) *int { return &m.Frames[0].Func }, nil},
		"func 1":   {func(m *impl.Machine) *int { return &m.Frames[1].Func }, nil},
		"func 2":   {func(m *impl.Machine) *int { return &m.Frames[2].Func }, nil},
		"pc 0":     {func(m *impl.Machine) *int { return &m.Frames[0].Pc }, nil},
		"pc 1":     {func(m *impl.Machine) *int { return &m.Frames[1].Pc }, nil},
		"pc 2":     {func(m *impl.Machine) *int { return &m.Frames[2].Pc }, nil},
		"at 0":     {func(m *impl.Machine) *int { return &m.Frames[0].Tries[0].At }, nil},
		"at 1":     {func(m *impl.Machine) *int { return &m.Frames[1].Tries[0].At }, nil},
		"at 2":     {func(m *impl.Machine) *int { return &m.Frames[2].Tries[0].At }, nil},
		"high 0":   {func(m *impl.Machine) *int { return &m.Frames[0].Tries[0].High }, nil},
		"high 1":   {func(m *impl.Machine) *int { return &m.Frames[1].Tries[0].High }, nil},
		"high 2":   {func(m *impl.Machine) *int { return &m.Frames[2].Tries[0].High }, nil},
		"value":    {func(m *impl.Machine) *int { return &m.Value.N }, []int{0}},
		"kind":     {func(m *impl.Machine) *int { return &m.Value.Kind }, []int{0}},
		"a slot":   {func(m *impl.Machine) *int { return &m.Frames[2].Slots[1].N }, []int{-20, -2, -1, 0, 1, 2, 3, 4, 5, 6, 7, 8, 9, 20, 400}},
		"a kind":   {func(m *impl.Machine) *int { return &m.Frames[2].Slots[1].Kind }, nil},
		"on stack": {func(m *impl.Machine) *int { return &m.Frames[1].Stack[0].N }, []int{-20, -2, -1, 0, 1, 2, 3, 4, 5, 6, 7, 8, 9, 20, 400}},
	} {
		m := cloneMachine(right)
		number := place.number(&m)
		own := *number
		for _, n := range append(oddNumbers(), own) {
			*number = n
			if got, want := impl.MachineOK(p, m), n == own || slices.Contains(place.also, n); what != "a kind" && got != want {
				t.Errorf("MachineOK with %s %d = %v", what, n, got)
			}
			wantMachineAnswers(t, p, m)
		}
	}
}

func TestMachinesThatAreWrong(t *testing.T) {
	p, right := threeFrames(t)
	wantMachineAnswers(t, p, right)
	for what, spoil := range map[string]func(m *impl.Machine){
		"no frames":                  func(m *impl.Machine) { m.Frames = nil },
		"the first frame gone":       func(m *impl.Machine) { m.Frames = m.Frames[1:] },
		"the last frame gone":        func(m *impl.Machine) { m.Frames = m.Frames[:2] },
		"a frame gone":               func(m *impl.Machine) { m.Frames = slices.Delete(m.Frames, 1, 2) },
		"a frame twice":              func(m *impl.Machine) { m.Frames = append(m.Frames, m.Frames[2]) },
		"frames in another order":    func(m *impl.Machine) { slices.Reverse(m.Frames) },
		"a frame of zeros":           func(m *impl.Machine) { m.Frames[2] = impl.CallFrame{} },
		"done with frames":           func(m *impl.Machine) { m.State = impl.MaDone },
		"threw with frames":          func(m *impl.Machine) { m.State = impl.MaThrew },
		"a value while it runs":      func(m *impl.Machine) { m.Value = num(0) },
		"a text while it runs":       func(m *impl.Machine) { m.Value = word("") },
		"done with a wrong value":    func(m *impl.Machine) { *m = impl.Machine{State: impl.MaDone, Value: impl.Value{N: 1}} },
		"threw with a wrong value":   func(m *impl.Machine) { *m = impl.Machine{State: impl.MaThrew, Value: impl.Value{Kind: 4}} },
		"nothing at all":             func(m *impl.Machine) { *m = impl.Machine{} },
		"a slot less":                func(m *impl.Machine) { m.Frames[1].Slots = m.Frames[1].Slots[:1] },
		"no slots":                   func(m *impl.Machine) { m.Frames[2].Slots = nil },
		"a slot more":                func(m *impl.Machine) { m.Frames[0].Slots = append(m.Frames[0].Slots, null) },
		"a value less":               func(m *impl.Machine) { m.Frames[2].Stack = m.Frames[2].Stack[1:] },
		"a value more":               func(m *impl.Machine) { m.Frames[2].Stack = append(m.Frames[2].Stack, null) },
		"no values":                  func(m *impl.Machine) { m.Frames[2].Stack = nil },
		"a value less below":         func(m *impl.Machine) { m.Frames[0].Stack = m.Frames[0].Stack[:1] },
		"the call's value is there":  func(m *impl.Machine) { m.Frames[1].Stack = append(m.Frames[1].Stack, num(1)) },
		"a try less":                 func(m *impl.Machine) { m.Frames[2].Tries = nil },
		"a try less below":           func(m *impl.Machine) { m.Frames[0].Tries = nil },
		"a try more":                 func(m *impl.Machine) { m.Frames[2].Tries = append(m.Frames[2].Tries, m.Frames[2].Tries[0]) },
		"a try of another frame":     func(m *impl.Machine) { m.Frames[2].Tries[0] = m.Frames[1].Tries[0] },
		"a try's place of no values": func(m *impl.Machine) { m.Frames[2].Tries[0] = impl.Try{At: 0, High: -1} },
		"a try's place on the way":   func(m *impl.Machine) { m.Frames[2].Tries[0] = impl.Try{At: 3, High: 1} },
	} {
		m := cloneMachine(right)
		spoil(&m)
		if impl.MachineOK(p, m) {
			t.Errorf("MachineOK with %s: %s", what, toldMachine(m))
		}
		wantMachineAnswers(t, p, m)
	}
	for _, v := range wrongValues() {
		for k := range right.Frames {
			m := cloneMachine(right)
			m.Frames[k].Slots[1] = v
			wantBadMachine(t, p, m)
			m = cloneMachine(right)
			m.Frames[k].Stack[0] = v
			wantBadMachine(t, p, m)
		}
		wantMachineAnswers(t, p, impl.Machine{State: impl.MaDone, Value: v})
		wantMachineAnswers(t, p, impl.Machine{State: impl.MaThrew, Value: v})
		m := cloneMachine(right)
		m.Value = v
		wantMachineAnswers(t, p, m)
	}
	// Other values are as good.
	for _, v := range rightValues() {
		m := cloneMachine(right)
		m.Frames[0].Slots[0], m.Frames[1].Stack[0], m.Frames[2].Slots[2] = v, v, v
		wantRightMachine(t, p, m)
		wantMachineAnswers(t, p, impl.Machine{State: impl.MaDone, Value: v})
		wantMachineAnswers(t, p, impl.Machine{State: impl.MaThrew, Value: v, Used: 1000000})
	}
}

// A machine that is right for one program is not for each other one; for a program that is not right none is.
func TestMachinesOfOtherPrograms(t *testing.T) {
	p, right := threeFrames(t)
	for _, q := range []impl.Program{{}, {Funcs: []impl.Func{}}, alone(nil), alone(written("push 1")), {Funcs: make([]impl.Func, 10)}, program("push 1, return"), compiled(t, "return 1;"), {Funcs: p.Funcs[:2]}, {Funcs: p.Funcs[1:]}} {
		for _, m := range []impl.Machine{right, start(t, p), {State: impl.MaDone}, {State: impl.MaThrew, Value: num(1)}, {}} {
			wantMachineAnswers(t, q, m)
		}
	}
	// What is not right in a function that no frame is of counts, too.
	q := cloneProgram(p)
	q.Funcs = append(q.Funcs, impl.Func{Name: "g", Code: written("return")})
	wantBadMachine(t, q, right)
	wantBadMachine(t, q, impl.Machine{State: impl.MaDone})
	// A call of another function ahead of the same place.
	q = cloneProgram(p)
	q.Funcs[0].Code[3].N, q.Funcs[0].Code[3].M = 1, 0
	wantRightMachine(t, q, right)
	q.Funcs[0].Code[3] = ins("call 0 1")
	wantMachineAnswers(t, q, right)
	q.Funcs[0].Code[3] = ins("push 5")
	if !impl.ProgramOK(q) {
		t.Error("the program with a push in place of the call is not right")
	}
	wantBadMachine(t, q, right)
}

func TestHowManyFramesARightMachineHas(t *testing.T) {
	p := program("push 1, call 0 1, return")
	m := start(t, p)
	for frames := 1; frames <= 9; frames++ {
		wantMachineAnswers(t, p, m)
		if impl.MachineOK(p, m) != (frames <= 6) {
			t.Errorf("MachineOK of %d frames", frames)
		}
		last := &m.Frames[len(m.Frames)-1]
		last.Pc = 2
		m.Frames = append(m.Frames, frameWanted(p, 0, []impl.Value{num(1)}))
	}
	for _, count := range []int{4096, 4097, 100000} {
		wantBadMachine(t, p, impl.Machine{State: impl.MaRun, Frames: make([]impl.CallFrame, count)})
	}
	// Lists of any length are looked at, but none is gone through that is too long.
	for _, count := range []int{201, 4097, 3000000} {
		for _, f := range []impl.CallFrame{{Slots: make([]impl.Value, count)}, {Slots: make([]impl.Value, 3), Stack: make([]impl.Value, count)}, {Slots: make([]impl.Value, 3), Tries: make([]impl.Try, count)}} {
			wantBadMachine(t, p, impl.Machine{State: impl.MaRun, Frames: []impl.CallFrame{f}})
		}
	}
}

// The highest stack, the most tries and the most slots that there may be.
func TestMachinesAtTheBounds(t *testing.T) {
	code := slices.Repeat(written("push 1"), 199)
	for k := range 20 {
		code = append(code, impl.Ins{Op: impl.CoTry, N: 239 - k})
	}
	code = append(code, slices.Repeat(written("throw"), 21)...)
	code[219] = ins("jump 219")
	p := impl.Program{Funcs: []impl.Func{{Params: 1, Slots: 20, Code: code}}}
	wantRight(t, p)
	m := ran(t, p, start(t, p), 250)
	if f := m.Frames[0]; len(f.Slots) != 20 || len(f.Stack) != 199 || len(f.Tries) != 20 || f.Tries[19] != (impl.Try{At: 220, High: 199}) {
		t.Errorf("the machine is %s", toldMachine(m))
	}
	wantMachineAnswers(t, p, m)
	// Each try throws on to the one ahead of it.
	code[219] = ins("throw")
	wantRunsAsReckoned(t, p, 260)
	m = ran(t, p, start(t, p), 220)
	if f := m.Frames[0]; len(f.Stack) != 200 || len(f.Tries) != 19 || f.Pc != 220 {
		t.Errorf("behind a throw the machine is %s", toldMachine(m))
	}
	wantOutcome(t, ran(t, p, start(t, p), 250), "threw 1", impl.OK)
}

// All machines of one frame with small numbers, of a program with a place that no way comes to.
func TestAllSmallMachines(t *testing.T) {
	t.Parallel()
	p := program("push 1, try 7, push 2, try 6, done, jump 9, throw, return, pop, return")
	wantRight(t, p)
	count := 0
	var tries [][]impl.Try
	for at := -1; at <= 10; at++ {
		for high := -1; high <= 3; high++ {
			tries = append(tries, []impl.Try{{At: at, High: high}})
			for other := 5; other <= 8; other++ {
				for below := 0; below <= 2; below++ {
					tries = append(tries, []impl.Try{{At: other, High: below}, {At: at, High: high}})
				}
			}
		}
	}
	for pc := -1; pc <= 10; pc++ {
		for high := range 4 {
			for _, list := range append(tries, nil) {
				m := impl.Machine{State: impl.MaRun, Frames: []impl.CallFrame{{Pc: pc, Slots: make([]impl.Value, 3), Stack: make([]impl.Value, high), Tries: list}}}
				right := rightMachine(p, m)
				if impl.MachineOK(p, m) != right {
					t.Errorf("MachineOK of %s = %v", toldMachine(m), !right)
				}
				if right {
					count++
					wantMachineAnswers(t, p, m)
				}
			}
		}
	}
	// Of a try no more is asked than that its place fits, be it one that the code opens a try with or not: 7 and 1 fit ahead of all others, five places behind one.
	if count != 3+5*2+5 {
		t.Errorf("%d machines were right", count)
	}
}

// A frame waits behind a call that no way comes to: what it takes is told by its place alone.
func TestFramesBehindCallsThatAreNotReached(t *testing.T) {
	p := program("push 1, jump 3, call 1 0, return", "0 0: push 7, return")
	wantRight(t, p)
	for high := range 3 {
		m := impl.Machine{State: impl.MaRun, Frames: []impl.CallFrame{{Pc: 3, Slots: make([]impl.Value, 3), Stack: make([]impl.Value, high)}, {Func: 1}}}
		wantMachineAnswers(t, p, m)
		if impl.MachineOK(p, m) != (high == 0) {
			t.Errorf("MachineOK of %s", toldMachine(m))
		}
		if high == 0 {
			wantOutcome(t, ran(t, p, m, 10), "done 7", impl.OK)
		}
	}
	p = program("jump 2, call 1 0, push 1, return", "0 0: push 7, return")
	for high := range 2 {
		wantMachineAnswers(t, p, impl.Machine{State: impl.MaRun, Frames: []impl.CallFrame{{Pc: 2, Slots: make([]impl.Value, 3), Stack: make([]impl.Value, high)}, {Func: 1}}})
	}
	// The last frame may stand anywhere that a way comes to, but nowhere else.
	for pc := range 4 {
		wantMachineAnswers(t, p, impl.Machine{State: impl.MaRun, Frames: []impl.CallFrame{{Pc: pc, Slots: make([]impl.Value, 3), Stack: make([]impl.Value, pc/3)}}})
	}
}

func TestPlacesOfSlots(t *testing.T) {
	p, m := threeFrames(t)
	for frame, slots := range [][]impl.Value{{word("a"), null, null}, {null, null}, {num(4), num(5), null}} {
		for slot, v := range slots {
			wantSlot(t, p, m, frame, slot, v, impl.OK)
		}
		for _, slot := range []int{-1, len(slots), 20, 1 << 32, math.MinInt, math.MaxInt} {
			wantSlot(t, p, m, frame, slot, null, impl.ErrPlace)
		}
	}
	for _, frame := range []int{-1, 3, 6, 1 << 32, math.MinInt, math.MaxInt} {
		for _, slot := range []int{0, 1, -1, math.MaxInt} {
			wantSlot(t, p, m, frame, slot, null, impl.ErrPlace)
		}
	}
	for _, state := range []int{impl.MaDone, impl.MaThrew} {
		wantSlot(t, p, impl.Machine{State: state, Value: num(1)}, 0, 0, null, impl.ErrPlace)
	}
}

// Machines that do not run are answered as they were.
func TestMachinesThatDoNotRun(t *testing.T) {
	p := compiled(t, "return 1;")
	for _, state := range []int{impl.MaDone, impl.MaThrew} {
		for _, v := range rightValues() {
			m := impl.Machine{State: state, Value: v, Used: 77, Frames: []impl.CallFrame{}}
			for _, fuel := range []int{0, 1, 20000} {
				got, code := impl.RunMachine(p, m, fuel)
				wantMachine(t, "RunMachine", got, code, m, impl.OK)
			}
			got, code := impl.StepMachine(p, m)
			wantMachine(t, "StepMachine", got, code, m, impl.ErrNone)
			wantNext(t, p, m, impl.Ins{}, impl.ErrNone)
			wantSpare(t, p, m, 6, impl.OK)
		}
	}
}

func TestNextIns(t *testing.T) {
	p := compiled(t, "function f(a) { throw a; } try { f(1); } catch (e) { }")
	m := start(t, p)
	for _, text := range []string{"try 6", "push 1", "call 1 1", "load 0", "throw", "store 1", "push null", "return"} {
		wantNext(t, p, m, ins(text), impl.OK)
		m = ran(t, p, m, 1)
	}
	wantNext(t, p, m, impl.Ins{}, impl.ErrNone)
}

// machine is one on its way.
func (g *gardener) machine() (impl.Program, impl.Machine) {
	for {
		p := g.program()
		if g.Intn(4) == 0 {
			p = compiledOnes()[g.Intn(len(compiledOnes()))]
		}
		m, code := impl.StartMachine(p, "/p")
		if code != impl.OK {
			continue
		}
		m, _ = impl.RunMachine(p, m, g.Intn(40))
		if m.State == impl.MaRun || g.Intn(5) == 0 {
			return p, m
		}
	}
}

var compiledOnes = sync.OnceValue(func() []impl.Program {
	var list []impl.Program
	for _, c := range outcomes() {
		p, _ := impl.CompileSource(c.source)
		list = append(list, p)
	}
	return list
})

// spoiltMachine changes one thing of a machine.
func (g *gardener) spoiltMachine(p impl.Program, m impl.Machine) impl.Machine {
	m = cloneMachine(m)
	number := append(oddNumbers(), g.Intn(30))[g.Intn(len(oddNumbers())+1)]
	value := append(wrongValues(), rightValues()...)[g.Intn(len(wrongValues())+len(rightValues()))]
	if len(m.Frames) == 0 || g.Intn(8) == 0 {
		switch g.Intn(4) {
		case 0:
			m.State = number
		case 1:
			m.Value = value
		case 2:
			m.Used = number
		case 3:
			m.Frames = append(m.Frames, impl.CallFrame{})
		}
		return m
	}
	f := &m.Frames[g.Intn(len(m.Frames))]
	switch g.Intn(12) {
	case 0:
		f.Func = g.Intn(len(p.Funcs) + 1)
	case 1:
		f.Pc = number
	case 2:
		f.Pc += g.Intn(3) - 1
	case 3:
		f.Slots = append(f.Slots, value)
	case 4:
		f.Stack = append(f.Stack, value)
	case 5:
		f.Stack = f.Stack[min(1, len(f.Stack)):]
	case 6:
		f.Tries = append(f.Tries, impl.Try{At: g.Intn(20), High: g.Intn(3)})
	case 7:
		f.Tries = f.Tries[min(1, len(f.Tries)):]
	case 8:
		m.Frames = append(m.Frames, *f)
	case 9:
		m.Frames = m.Frames[:len(m.Frames)-1]
	case 10:
		if len(f.Tries) > 0 {
			f.Tries[g.Intn(len(f.Tries))] = impl.Try{At: number, High: g.Intn(3)}
		}
	default:
		if list := [][]impl.Value{f.Slots, f.Stack}[g.Intn(2)]; len(list) > 0 {
			list[g.Intn(len(list))] = value
		}
	}
	return m
}

func TestSpoiltMachinesByChance(t *testing.T) {
	t.Parallel()
	g := &gardener{Rand: rand.New(rand.NewSource(24))}
	right, wrong := 0, 0
	for range 6000 {
		p, m := g.machine()
		for range 1 + g.Intn(2) {
			m = g.spoiltMachine(p, m)
		}
		if rightMachine(p, m) {
			right++
		} else {
			wrong++
		}
		wantMachineAnswers(t, p, m)
		if t.Failed() {
			return
		}
	}
	if right < 500 || wrong < 3000 {
		t.Errorf("%d machines were right, %d wrong", right, wrong)
	}
}

// wholeMachine tells all lists with what stands behind their ends.
func wholeMachine(m impl.Machine) string {
	told := fmt.Sprint(m.State, m.Value, m.Used, m.Frames[:cap(m.Frames)])
	for _, f := range m.Frames {
		told += fmt.Sprint(f.Slots[:cap(f.Slots)], f.Stack[:cap(f.Stack)], f.Tries[:cap(f.Tries)])
	}
	return told
}

// withBehind has something behind the end of each list.
func withBehind(m impl.Machine) impl.Machine {
	m = cloneMachine(m)
	m.Frames[:cap(m.Frames)][len(m.Frames)] = impl.CallFrame{Func: -7, Pc: -7}
	for _, f := range m.Frames {
		for i := len(f.Slots); i < cap(f.Slots); i++ {
			f.Slots[:cap(f.Slots)][i] = word("behind")
		}
		for i := len(f.Stack); i < cap(f.Stack); i++ {
			f.Stack[:cap(f.Stack)][i] = word("behind")
		}
		for i := len(f.Tries); i < cap(f.Tries); i++ {
			f.Tries[:cap(f.Tries)][i] = impl.Try{At: -7, High: -7}
		}
	}
	return m
}

// Neither the lists of a machine, nor what stands behind their ends is written into, or read.
func TestMachineCallsLeaveTheirMachine(t *testing.T) {
	t.Parallel()
	g := &gardener{Rand: rand.New(rand.NewSource(25))}
	for i := range 1200 {
		p, m := g.machine()
		if i%4 == 0 {
			m = g.spoiltMachine(p, m)
		}
		if i%10 == 1 {
			p = program("push 4, push 'x', try 5, unary -, return, pop, return")
			m = ran(t, p, start(t, p), 3)
		}
		m = withBehind(m)
		p = cloneProgram(p)
		before, program := wholeMachine(m), fmt.Sprint(p)
		wantMachineAnswers(t, p, m)
		impl.RunMachine(p, m, 500)
		if wholeMachine(m) != before || fmt.Sprint(p) != program {
			t.Errorf("a call wrote into %s", toldMachine(m))
		}
	}
}

// listsOf has each list of a machine as a function that writes over it, up to the end of its memory.
func listsOf(m impl.Machine) []func() {
	var list []func()
	for _, f := range m.Frames {
		list = append(list,
			func() { clear(f.Slots[:cap(f.Slots)]) },
			func() { clear(f.Stack[:cap(f.Stack)]) },
			func() { clear(f.Tries[:cap(f.Tries)]) })
	}
	return append(list, func() { clear(m.Frames[:cap(m.Frames)]) })
}

// What is answered is its caller's own: no two lists of it share anything, nor with what was handed in.
func TestMachinesShareNothing(t *testing.T) {
	t.Parallel()
	g := &gardener{Rand: rand.New(rand.NewSource(26))}
	for range 500 {
		p, m := g.machine()
		for _, answer := range []func(m impl.Machine) impl.Machine{
			func(m impl.Machine) impl.Machine { got, _ := impl.RunMachine(p, m, 0); return got },
			func(m impl.Machine) impl.Machine { got, _ := impl.StepMachine(p, m); return got },
			func(m impl.Machine) impl.Machine { got, _ := impl.RunMachine(p, m, 7); return got },
			func(m impl.Machine) impl.Machine { got, _ := impl.StartMachine(p, "a"); return got },
		} {
			given := cloneMachine(m)
			got := answer(given)
			want := cloneMachine(got)
			for k := range listsOf(got) {
				one := answer(given)
				listsOf(one)[k]()
				wantOtherLists(t, one, want, k)
				wantMachine(t, "the argument", given, impl.OK, m, impl.OK)
				wantMachine(t, "the first answer", got, impl.OK, want, impl.OK)
			}
			for _, overwrite := range listsOf(given) {
				overwrite()
			}
			wantMachine(t, "the answer, behind changes of the argument", got, impl.OK, want, impl.OK)
		}
		if t.Failed() {
			return
		}
	}
}

// wantOtherLists: but the list k, which was written over, all are as they were.
func wantOtherLists(t *testing.T, got, want impl.Machine, k int) {
	t.Helper()
	if k == 3*len(want.Frames) {
		return
	}
	for i, f := range got.Frames {
		w := want.Frames[i]
		if k != 3*i && !slices.Equal(f.Slots, w.Slots) || k != 3*i+1 && !slices.Equal(f.Stack, w.Stack) || k != 3*i+2 && !slices.Equal(f.Tries, w.Tries) {
			t.Errorf("list %d shares with one of frame %d: %s, was %s", k, i, toldMachine(got), toldMachine(want))
		}
	}
}

// An empty list and nil are alike.
func TestMachinesOfEmptyLists(t *testing.T) {
	p := compiled(t, "function f() { try { return 1; } catch (e) { } } return f();")
	for fuel := range 8 {
		m := ran(t, p, start(t, p), fuel)
		full, bare := cloneMachine(m), cloneMachine(m)
		for k := range bare.Frames {
			f := &bare.Frames[k]
			if len(f.Slots) == 0 {
				f.Slots = nil
			}
			if len(f.Stack) == 0 {
				f.Stack = nil
			}
			if len(f.Tries) == 0 {
				f.Tries = nil
			}
		}
		if len(bare.Frames) == 0 {
			bare.Frames = nil
		}
		wantMachineAnswers(t, p, full)
		wantMachineAnswers(t, p, bare)
	}
}

func FuzzMachine(f *testing.F) {
	f.Add("let x = 0; while (x < 3) { x = x + 1; } return x;", "/a", 20, int64(1))
	f.Add("function f(a){try{return f(a+1);}catch(e){throw e+str(a);}}try{1+f(1);}catch(e){return e;}", "", 60, int64(2))
	f.Add("try { return 1 + (2 && len(path)) / 0; } catch (e) { throw e; }", "x", 9, int64(3))
	f.Fuzz(func(t *testing.T, s, path string, fuel int, seed int64) {
		whole, code := impl.RunSource(s, path, fuel)
		p, compileCode := impl.CompileSource(s)
		switch {
		case len(s) > impl.MaxText || len(path) > impl.MaxText:
			wantMachine(t, "RunSource", whole, code, impl.Machine{}, impl.ErrLong)
			return
		case len(path) > 60 || fuel < 0 || fuel > 20000:
			wantMachine(t, "RunSource", whole, code, impl.Machine{}, impl.ErrRange)
			return
		case compileCode != impl.OK:
			wantMachine(t, "RunSource", whole, code, impl.Machine{}, compileCode)
			return
		}
		g := &gardener{Rand: rand.New(rand.NewSource(seed))}
		first, _ := impl.StartMachine(p, path)
		wantMachine(t, "RunSource", whole, code, runWanted(p, first, fuel), impl.OK)
		wantAlike(t, p, first, whole, g.parts(fuel)...)
		wantTrace(t, p, path, min(fuel, 50))
		wantMachineAnswers(t, p, g.spoiltMachine(p, whole))
		if q := g.spoiltProgram(p); rightProgram(q) {
			wantRunsAsReckoned(t, q, 30)
		}
	})
}
