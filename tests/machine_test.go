package tests

import (
	"fmt"
	"math"
	"strings"
	"testing"

	"loop.example/g00370/impl"
)

func TestMachineConstantsAreTheDocuments(t *testing.T) {
	if impl.MaRun != 1 || impl.MaDone != 2 || impl.MaThrew != 3 || impl.MaxFrames != 6 || impl.MaxFuel != 20000 {
		t.Errorf("they are %d %d %d %d %d", impl.MaRun, impl.MaDone, impl.MaThrew, impl.MaxFrames, impl.MaxFuel)
	}
}

func compiled(t *testing.T, s string) impl.Program {
	t.Helper()
	p, code := impl.CompileSource(s)
	if code != impl.OK {
		t.Fatalf("CompileSource(%q): %d", s, code)
	}
	return p
}

// program is one of hand-written code: function 0 has the slots 0 to 2, the others are called f, with as many parameters and slots as stand ahead of their code.
func program(outmost string, others ...string) impl.Program {
	p := alone(written(outmost))
	for _, text := range others {
		f := impl.Func{Name: "f"}
		head, code, _ := strings.Cut(text, ": ")
		fmt.Sscan(head, &f.Params, &f.Slots)
		f.Code = written(code)
		p.Funcs = append(p.Funcs, f)
	}
	return p
}

// wantSteps holds the machine behind each instruction, from the first one on, against a text.
func wantSteps(t *testing.T, what string, p impl.Program, lines ...string) {
	t.Helper()
	m, code := impl.StartMachine(p, "a")
	if code != impl.OK || !impl.MachineOK(p, m) {
		t.Errorf("%s: StartMachine = %s, %d", what, toldMachine(m), code)
	}
	for k, line := range lines {
		wantMachineAnswers(t, p, m)
		m, code = impl.StepMachine(p, m)
		if got := toldMachine(m); got != line || code != impl.OK {
			t.Errorf("%s, behind instruction %d:\n%s, %d; want\n%s", what, k+1, got, code, line)
		}
	}
}

func TestStartMachine(t *testing.T) {
	p := compiled(t, "let x = 1; { let y = 2; } function f(a, b) { }")
	for _, path := range []string{"", "/", "/a", "null", "\x00\xff\n'", strings.Repeat("p", 60)} {
		m, code := impl.StartMachine(p, path)
		want := impl.Machine{State: impl.MaRun, Frames: []impl.CallFrame{{Slots: []impl.Value{word(path), null, null}}}}
		wantMachine(t, "StartMachine", m, code, want, impl.OK)
		wantMachineAnswers(t, p, m)
	}
	wrong := []impl.Program{{}, alone(nil), alone(written("push 1")), alone(written("return")), {Funcs: make([]impl.Func, 10)}}
	for n, want := range map[int]int{60: impl.OK, 61: impl.ErrRange, 65536: impl.ErrRange, 65537: impl.ErrLong, 200000: impl.ErrLong} {
		path := strings.Repeat("p", n)
		m, code := impl.StartMachine(p, path)
		if code != want || (m.State == impl.MaRun) != (want == impl.OK) {
			t.Errorf("StartMachine of %d bytes = %.200s, %d; want %d", n, toldMachine(m), code, want)
		}
		for _, bad := range wrong {
			m, code := impl.StartMachine(bad, path)
			if want == impl.ErrLong {
				wantMachine(t, "StartMachine of a wrong program", m, code, impl.Machine{}, impl.ErrLong)
			} else {
				wantMachine(t, "StartMachine of a wrong program", m, code, impl.Machine{}, impl.ErrBad)
			}
		}
	}
}

func TestWhatEachInstructionDoes(t *testing.T) {
	null3 := "'a' null null / "
	for what, lines := range map[string][]string{
		"push 7, return":                                    {"run 1 | 0@1 " + null3 + "7 /", "done 2 7"},
		"push 'x', push true, return":                       {"run 1 | 0@1 " + null3 + "'x' /", "run 2 | 0@2 " + null3 + "'x' true /", "done 3 true"},
		"load 0, store 2, load 1, return":                   {"run 1 | 0@1 " + null3 + "'a' /", "run 2 | 0@2 'a' null 'a' / /", "run 3 | 0@3 'a' null 'a' / null /", "done 4 null"},
		"push 5, store 0, load 0, return":                   {"run 1 | 0@1 " + null3 + "5 /", "run 2 | 0@2 5 null null / /", "run 3 | 0@3 5 null null / 5 /", "done 4 5"},
		"push 5, unary -, unary !, return":                  {"run 1 | 0@1 " + null3 + "5 /", "run 2 | 0@2 " + null3 + "-5 /", "run 3 | 0@3 " + null3 + "false /", "done 4 false"},
		"push 1, push 7, push 2, binary -, return":          {"run 1 | 0@1 " + null3 + "1 /", "run 2 | 0@2 " + null3 + "1 7 /", "run 3 | 0@3 " + null3 + "1 7 2 /", "run 4 | 0@4 " + null3 + "1 5 /", "done 5 5"},
		"push 'b', load 0, binary +, return":                {"run 1 | 0@1 " + null3 + "'b' /", "run 2 | 0@2 " + null3 + "'b' 'a' /", "run 3 | 0@3 " + null3 + "'ba' /", "done 4 'ba'"},
		"jump 2, throw, push 1, return":                     {"run 1 | 0@2 " + null3 + "/", "run 2 | 0@3 " + null3 + "1 /", "done 3 1"},
		"push 1, false 0, push 2, return":                   {"run 1 | 0@1 " + null3 + "1 /", "run 2 | 0@2 " + null3 + "/", "run 3 | 0@3 " + null3 + "2 /", "done 4 2"},
		"push '', false 4, push 2, return, jump 2":          {"run 1 | 0@1 " + null3 + "'' /", "run 2 | 0@4 " + null3 + "/", "run 3 | 0@2 " + null3 + "/", "run 4 | 0@3 " + null3 + "2 /"},
		"push 0, and 4, push 2, return, throw":              {"run 1 | 0@1 " + null3 + "0 /", "run 2 | 0@4 " + null3 + "0 /", "threw 3 0"},
		"push 3, and 4, push 2, return, throw":              {"run 1 | 0@1 " + null3 + "3 /", "run 2 | 0@2 " + null3 + "/", "run 3 | 0@3 " + null3 + "2 /", "done 4 2"},
		"push 0, or 4, push 2, return, throw":               {"run 1 | 0@1 " + null3 + "0 /", "run 2 | 0@2 " + null3 + "/", "run 3 | 0@3 " + null3 + "2 /", "done 4 2"},
		"push 3, or 4, push 2, return, throw":               {"run 1 | 0@1 " + null3 + "3 /", "run 2 | 0@4 " + null3 + "3 /", "threw 3 3"},
		"push 'abc', push 1, builtin at 2, return":          {"run 1 | 0@1 " + null3 + "'abc' /", "run 2 | 0@2 " + null3 + "'abc' 1 /", "run 3 | 0@3 " + null3 + "98 /", "done 4 98"},
		"push 1, push 2, pop, return":                       {"run 1 | 0@1 " + null3 + "1 /", "run 2 | 0@2 " + null3 + "1 2 /", "run 3 | 0@3 " + null3 + "1 /", "done 4 1"},
		"push 1, throw":                                     {"run 1 | 0@1 " + null3 + "1 /", "threw 2 1"},
		"push 9, try 4, done, return, return":               {"run 1 | 0@1 " + null3 + "9 /", "run 2 | 0@2 " + null3 + "9 / 4:1", "run 3 | 0@3 " + null3 + "9 /", "done 4 9"},
		"try 6, try 5, push 1, return, pop, return, return": {"run 1 | 0@1 " + null3 + "/ 6:0", "run 2 | 0@2 " + null3 + "/ 6:0 5:0", "run 3 | 0@3 " + null3 + "1 / 6:0 5:0", "done 4 1"},
	} {
		wantSteps(t, what, program(what), lines...)
	}
}

func TestWhatACallDoes(t *testing.T) {
	// Arguments in the first slots, the last one being on top; null in the others.
	wantSteps(t, "call", program("push 9, push 1, push 2, call 1 2, binary +, return", "2 4: load 1, store 3, load 0, return"),
		"run 1 | 0@1 'a' null null / 9 /", "run 2 | 0@2 'a' null null / 9 1 /", "run 3 | 0@3 'a' null null / 9 1 2 /",
		"run 4 | 0@4 'a' null null / 9 / | 1@0 1 2 null null / /",
		"run 5 | 0@4 'a' null null / 9 / | 1@1 1 2 null null / 2 /", "run 6 | 0@4 'a' null null / 9 / | 1@2 1 2 null 2 / /", "run 7 | 0@4 'a' null null / 9 / | 1@3 1 2 null 2 / 1 /",
		"run 8 | 0@4 'a' null null / 9 1 /", "run 9 | 0@5 'a' null null / 10 /", "done 10 10")
	// Without parameters, and without slots; a return leaves what else is on the stack, and tries that are open.
	wantSteps(t, "call 1 0", program("call 1 0, return", "0 0: push 1, try 4, push 3, return, return"),
		"run 1 | 0@1 'a' null null / / | 1@0 / /", "run 2 | 0@1 'a' null null / / | 1@1 / 1 /", "run 3 | 0@1 'a' null null / / | 1@2 / 1 / 4:1", "run 4 | 0@1 'a' null null / / | 1@3 / 1 3 / 4:1", "run 5 | 0@1 'a' null null / 3 /", "done 6 3")
	// As many slots as parameters; a function that calls another one.
	wantSteps(t, "call within a call", program("push 1, call 2 1, return", "1 1: load 0, unary -, return", "1 1: load 0, call 1 1, store 0, load 0, return"),
		"run 1 | 0@1 'a' null null / 1 /", "run 2 | 0@2 'a' null null / / | 2@0 1 / /", "run 3 | 0@2 'a' null null / / | 2@1 1 / 1 /", "run 4 | 0@2 'a' null null / / | 2@2 1 / / | 1@0 1 / /", "run 5 | 0@2 'a' null null / / | 2@2 1 / / | 1@1 1 / 1 /", "run 6 | 0@2 'a' null null / / | 2@2 1 / / | 1@2 1 / -1 /", "run 7 | 0@2 'a' null null / / | 2@2 1 / -1 /", "run 8 | 0@2 'a' null null / / | 2@3 -1 / /", "run 9 | 0@2 'a' null null / / | 2@4 -1 / -1 /", "run 10 | 0@2 'a' null null / -1 /", "done 11 -1")
	// Function 0, which no source calls: the path is its parameter.
	wantSteps(t, "call 0 1", program("load 0, call 0 1, return"),
		"run 1 | 0@1 'a' null null / 'a' /", "run 2 | 0@2 'a' null null / / | 0@0 'a' null null / /", "run 3 | 0@2 'a' null null / / | 0@1 'a' null null / 'a' /", "run 4 | 0@2 'a' null null / / | 0@2 'a' null null / / | 0@0 'a' null null / /")
}

func TestWhatAThrowLeaves(t *testing.T) {
	// Values of what was half done go, those below the try stay.
	wantSteps(t, "throw in the last frame", program("push 8, try 7, push 1, push 2, push 3, throw, return, binary ==, return"),
		"run 1 | 0@1 'a' null null / 8 /", "run 2 | 0@2 'a' null null / 8 / 7:1", "run 3 | 0@3 'a' null null / 8 1 / 7:1", "run 4 | 0@4 'a' null null / 8 1 2 / 7:1", "run 5 | 0@5 'a' null null / 8 1 2 3 / 7:1",
		"run 6 | 0@7 'a' null null / 8 3 /", "run 7 | 0@8 'a' null null / false /", "done 8 false")
	// The newest try, then the one ahead of it.
	wantSteps(t, "throw once more", program("try 7, push 5, try 6, push 6, push 7, throw, throw, return"),
		"run 1 | 0@1 'a' null null / / 7:0", "run 2 | 0@2 'a' null null / 5 / 7:0", "run 3 | 0@3 'a' null null / 5 / 7:0 6:1", "run 4 | 0@4 'a' null null / 5 6 / 7:0 6:1", "run 5 | 0@5 'a' null null / 5 6 7 / 7:0 6:1",
		"run 6 | 0@6 'a' null null / 5 7 / 7:0", "run 7 | 0@7 'a' null null / 7 /", "done 8 7")
	// A try that is closed takes nothing.
	wantSteps(t, "throw behind a try", program("try 4, done, push 5, throw, return"),
		"run 1 | 0@1 'a' null null / / 4:0", "run 2 | 0@2 'a' null null / /", "run 3 | 0@3 'a' null null / 5 /", "threw 4 5")
	// Through frames without a try: the stack of the frame below is cut, too.
	wantSteps(t, "throw in a call", program("push 8, try 6, push 1, push 2, call 1 1, return, return", "1 1: push 3, load 0, call 2 1, return", "1 1: push 4, load 0, throw"),
		"run 1 | 0@1 'a' null null / 8 /", "run 2 | 0@2 'a' null null / 8 / 6:1", "run 3 | 0@3 'a' null null / 8 1 / 6:1", "run 4 | 0@4 'a' null null / 8 1 2 / 6:1",
		"run 5 | 0@5 'a' null null / 8 1 / 6:1 | 1@0 2 / /", "run 6 | 0@5 'a' null null / 8 1 / 6:1 | 1@1 2 / 3 /", "run 7 | 0@5 'a' null null / 8 1 / 6:1 | 1@2 2 / 3 2 /", "run 8 | 0@5 'a' null null / 8 1 / 6:1 | 1@3 2 / 3 / | 2@0 2 / /", "run 9 | 0@5 'a' null null / 8 1 / 6:1 | 1@3 2 / 3 / | 2@1 2 / 4 /", "run 10 | 0@5 'a' null null / 8 1 / 6:1 | 1@3 2 / 3 / | 2@2 2 / 4 2 /",
		"run 11 | 0@6 'a' null null / 8 2 /", "done 12 2")
	// A try of a frame in the middle; the one below keeps its own.
	wantSteps(t, "throw to the middle", program("try 4, push 1, call 1 0, return, return", "0 1: push 6, try 4, call 2 0, return, store 0, return", "0 0: try 3, done, push 7, throw"),
		"run 1 | 0@1 'a' null null / / 4:0", "run 2 | 0@2 'a' null null / 1 / 4:0", "run 3 | 0@3 'a' null null / 1 / 4:0 | 1@0 null / /", "run 4 | 0@3 'a' null null / 1 / 4:0 | 1@1 null / 6 /", "run 5 | 0@3 'a' null null / 1 / 4:0 | 1@2 null / 6 / 4:1", "run 6 | 0@3 'a' null null / 1 / 4:0 | 1@3 null / 6 / 4:1 | 2@0 / /", "run 7 | 0@3 'a' null null / 1 / 4:0 | 1@3 null / 6 / 4:1 | 2@1 / / 3:0", "run 8 | 0@3 'a' null null / 1 / 4:0 | 1@3 null / 6 / 4:1 | 2@2 / /", "run 9 | 0@3 'a' null null / 1 / 4:0 | 1@3 null / 6 / 4:1 | 2@3 / 7 /",
		"run 10 | 0@3 'a' null null / 1 / 4:0 | 1@4 null / 6 7 /", "run 11 | 0@3 'a' null null / 1 / 4:0 | 1@5 7 / 6 /", "run 12 | 0@3 'a' null null / 1 6 / 4:0", "done 13 6")
}

// Operations, builtins and calls throw the word of their code; what they took is gone, be it caught or not.
func TestCodesAreThrownAsWords(t *testing.T) {
	for text, lines := range map[string][2]string{
		"push 1, try 9, push 'x', unary -":                                        {"run 4 | 0@9 'a' null null / 1 'type' /", "type"},
		"push 1, try 9, push 2, load 0, binary -":                                 {"run 5 | 0@9 'a' null null / 1 'type' /", "type"},
		"push 1, try 9, push 2, push 0, binary /":                                 {"run 5 | 0@9 'a' null null / 1 'range' /", "range"},
		"push 1, try 9, push -2147483648, unary -":                                {"run 4 | 0@9 'a' null null / 1 'range' /", "range"},
		"push 1, try 9, push 7, push 2147483647, binary +":                        {"run 5 | 0@9 'a' null null / 1 'range' /", "range"},
		"push 1, try 9, load 0, push '" + strings.Repeat("x", 60) + "', binary +": {"run 5 | 0@9 'a' null null / 1 'size' /", "size"},
		"push 1, try 9, push 5, builtin len 1":                                    {"run 4 | 0@9 'a' null null / 1 'type' /", "type"},
		"push 1, try 9, load 0, push 1, builtin at 2":                             {"run 5 | 0@9 'a' null null / 1 'range' /", "range"},
		"push 1, try 9, push -2147483648, builtin abs 1":                          {"run 4 | 0@9 'a' null null / 1 'range' /", "range"},
		"push 1, try 9, load 0, push 1, push 0, builtin cut 3":                    {"run 6 | 0@9 'a' null null / 1 'range' /", "range"},
	} {
		size := len(written(text))
		caught := program(fmt.Sprintf("%s, jump %d, %d*return", text, size+1, 9-size-1) + ", return")
		if got, _ := impl.RunMachine(caught, start(t, caught), size); toldMachine(got) != lines[0] {
			t.Errorf("%s: %s; want %s", text, toldMachine(got), lines[0])
		}
		wantTrace(t, caught, "a", 20)
		free := program(strings.Replace(text, "try 9", "push 1", 1) + ", return")
		got, code := impl.RunMachine(free, start(t, free), 20)
		wantMachine(t, text, got, code, impl.Machine{State: impl.MaThrew, Value: word(lines[1]), Used: size}, impl.OK)
		wantTrace(t, free, "a", 20)
	}
}

func start(t *testing.T, p impl.Program) impl.Machine {
	t.Helper()
	m, code := impl.StartMachine(p, "a")
	if code != impl.OK {
		t.Fatalf("StartMachine of %s: %d", briefProgram(p), code)
	}
	return m
}

// Six functions are open at most, the outmost block being one; a seventh is thrown at where it would be called.
func TestHowManyFramesThereMayBe(t *testing.T) {
	for depth, want := range map[int]string{0: "done 0", 1: "done 1", 4: "done 4", 5: "threw deep", 6: "threw deep", 50: "threw deep"} {
		s := fmt.Sprintf("function f(n) { if (n < 1) { return 0; } return 1 + f(n - 1); } return f(%d);", depth)
		m, code := impl.RunSource(s, "", 2000)
		wantOutcome(t, m, want, impl.OK)
		if code != impl.OK {
			t.Errorf("RunSource: %d", code)
		}
		most := 0
		p := compiled(t, s)
		for _, m := range wantTrace(t, p, "", 2000) {
			most = max(most, len(m.Frames))
			wantSpare(t, p, m, 6-len(m.Frames), impl.OK)
		}
		if most != min(depth+2, 6) {
			t.Errorf("calls %d deep had %d frames", depth, most)
		}
	}
	// The call that throws may be caught in the sixth frame, in one below, or nowhere; what is called then is another matter.
	for s, want := range map[string]string{
		"function f(n) { try { return f(n + 1); } catch (e) { return e + str(n); } } return f(1);":                                  "done deep5",
		"function f(n) { if (n == 3) { try { return f(n + 1); } catch (e) { return e + str(n); } } return f(n + 1); } return f(1);": "done deep3",
		"function f(n) { return f(n + 1); } try { return f(1); } catch (e) { return e; }":                                           "done deep",
		"function f(n) { try { return f(n + 1); } catch (e) { return g(n); } } function g(n) { return n; } return f(1);":            "done 4",
		"function f(n) { let r = 0; try { r = f(n + 1); } catch (e) { r = n * 10; } return r + n; } return f(1);":                   "done 65",
		"function f() { return g(); } function g() { return f(); } return f();":                                                     "threw deep",
		"function f(n) { if (n == 0) { return 'x'; } return f(n - 1); } return f(4) + f(4) + f(4);":                                 "done xxx",
		"function f(a, b, c, d) { return f(d, c, b, a); } return 1 + f(1, 2, 3, 4);":                                                "threw deep",
	} {
		wantTrace(t, compiled(t, s), "", 3000)
		m, _ := impl.RunSource(s, "", 3000)
		wantOutcome(t, m, want, impl.OK)
	}
	// Arguments of a call that throws are taken off the stack.
	p := program("push 9, push 1, call 1 1, return", "1 1: push 8, try 5, load 0, call 1 1, return, return")
	below := "0@3 'a' null null / 9 /" + strings.Repeat(" | 1@4 1 / 8 / 5:1", 4)
	trace := wantTrace(t, p, "a", 50)
	for used, want := range map[int]string{22: "run 22 | " + below + " | 1@3 1 / 8 1 / 5:1", 23: "run 23 | " + below + " | 1@5 1 / 8 'deep' /", 24: "run 24 | " + strings.TrimSuffix(below, "8 / 5:1") + "8 'deep' / 5:1", 29: "done 29 'deep'"} {
		if got := toldMachine(trace[used]); got != want {
			t.Errorf("%s; want %s", got, want)
		}
	}
}

func TestOutcomesOfSources(t *testing.T) {
	for _, c := range outcomes() {
		m, code := impl.RunSource(c.source, "/p", 5000)
		wantOutcome(t, m, c.want, impl.OK)
		if code != impl.OK || len(m.Frames) != 0 {
			t.Errorf("RunSource of %q = %s, %d", c.source, toldMachine(m), code)
		}
		trace := wantTrace(t, compiled(t, c.source), "/p", 5000)
		if last := trace[len(trace)-1]; !sameMachine(last, m) || last.Used != len(trace)-1 {
			t.Errorf("%q comes to %s at once, to %s step by step", c.source, toldMachine(m), toldMachine(last))
		}
		if t.Failed() {
			return
		}
	}
}

func TestHowMuchSourcesUse(t *testing.T) {
	for s, want := range map[string]int{
		"": 2, "1;": 4, "return 1;": 2, "throw 1;": 2, "return 1 + 2;": 4, "return 1 / 0;": 3, "if (true) { }": 4, "if (false) { 1; }": 4, "if (true) { 1; } else { 2; }": 7, "if (false) { 1; } else { 2; }": 6, "while (false) { }": 4, "let x = 2; while (x) { x = x - 1; }": 2 + 2*7 + 2 + 2, "try { } catch (e) { }": 5, "try { throw 1; } catch (e) { }": 6, "return 0 && 1;": 3, "return 1 && 0;": 4, "return 1 || 0;": 3, "return 0 || 0;": 4, "function f() { } f();": 6, "function f(a) { return a; } return f(f(1));": 8,
	} {
		m, code := impl.RunSource(s, "", 100)
		if m.Used != want || code != impl.OK || m.State == impl.MaRun {
			t.Errorf("RunSource of %q = %s, %d; want %d", s, toldMachine(m), code, want)
		}
		// One less is not enough, and what is there then runs.
		m, code = impl.RunSource(s, "", want-1)
		if m.Used != want-1 || code != impl.OK || m.State != impl.MaRun {
			t.Errorf("RunSource of %q with %d = %s, %d", s, want-1, toldMachine(m), code)
		}
		m, code = impl.RunSource(s, "", want)
		if m.Used != want || code != impl.OK || m.State == impl.MaRun {
			t.Errorf("RunSource of %q with %d = %s, %d", s, want, toldMachine(m), code)
		}
	}
}

// Used is told up to 1000000; the machine goes on all the same, with the fuel that it is given.
func TestHowMuchIsUsedAtMost(t *testing.T) {
	p := compiled(t, "let x = 0; while (x < 50) { x = x + 1; } return x;")
	for _, used := range []int{0, 1, 999900, 999998, 999999, 1000000} {
		m := start(t, p)
		m.Used = used
		wantMachineAnswers(t, p, m)
		for fuel := range 30 {
			got, code := impl.RunMachine(p, m, fuel)
			wantMachine(t, "RunMachine", got, code, runWanted(p, m, fuel), impl.OK)
			if got.Used != min(used+fuel, 1000000) {
				t.Errorf("behind %d by %d it has used %d", used, fuel, got.Used)
			}
		}
		end, _ := impl.RunMachine(p, m, 20000)
		wantOutcome(t, end, "done 50", impl.OK)
		wantMachineAnswers(t, p, end)
	}
	for _, used := range []int{-1, 1000001, 1 << 32, -1 << 32, math.MinInt, math.MaxInt} {
		m := start(t, p)
		m.Used = used
		wantMachineAnswers(t, p, m)
		wantMachineAnswers(t, p, impl.Machine{State: impl.MaDone, Used: used})
		wantMachineAnswers(t, p, impl.Machine{State: impl.MaThrew, Used: used})
	}
}

func TestHowMuchFuelThereMayBe(t *testing.T) {
	p := compiled(t, "while (true) { }")
	m := start(t, p)
	for _, fuel := range []int{0, 1, 2, 100, 19999, 20000} {
		got, code := impl.RunMachine(p, m, fuel)
		wantMachine(t, "RunMachine", got, code, runWanted(p, m, fuel), impl.OK)
		fromSource, code := impl.RunSource("while (true) { }", "a", fuel)
		wantMachine(t, "RunSource", fromSource, code, got, impl.OK)
		if got.Used != fuel || got.State != impl.MaRun {
			t.Errorf("with %d: %s", fuel, toldMachine(got))
		}
	}
	for _, fuel := range []int{-1, 20001, -20000, 1 << 32, -1 << 32, 1<<32 + 5, math.MinInt, math.MaxInt} {
		for _, m := range []impl.Machine{m, {State: impl.MaDone, Value: num(1)}, {State: impl.MaThrew}} {
			got, code := impl.RunMachine(p, m, fuel)
			wantMachine(t, "RunMachine", got, code, impl.Machine{}, impl.ErrRange)
		}
		got, code := impl.RunMachine(p, impl.Machine{}, fuel)
		wantMachine(t, "RunMachine of none", got, code, impl.Machine{}, impl.ErrBad)
		got, code = impl.RunSource("1;", "", fuel)
		wantMachine(t, "RunSource", got, code, impl.Machine{}, impl.ErrRange)
	}
}

func TestRunSourceCodes(t *testing.T) {
	path, fuel := strings.Repeat("p", 60), 20000
	for _, c := range []struct {
		source, path string
		fuel, code   int
	}{
		{"", path, fuel, 0}, {"", "", 0, 0}, {"return path;", "\x00\xff", 1, 0},
		{"", path + "p", fuel, impl.ErrRange}, {"", "", fuel + 1, impl.ErrRange}, {"", "", -1, impl.ErrRange}, {"", strings.Repeat("p", 65536), fuel, impl.ErrRange},
		// Wrong fuel, or a wrong path, is told ahead of a wrong source.
		{"x", path + "p", 1, impl.ErrRange}, {"x;", "", -1, impl.ErrRange}, {strings.Repeat(" ", 601), "", fuel + 1, impl.ErrRange}, {strings.Repeat(" ", 65536), path + "p", 0, impl.ErrRange}, {"let = 1;", "", math.MinInt, impl.ErrRange},
		// What is too long ahead of all.
		{"", strings.Repeat("p", 65537), fuel, impl.ErrLong}, {strings.Repeat(" ", 65537), "", fuel, impl.ErrLong}, {strings.Repeat(" ", 65537), path + "p", -1, impl.ErrLong}, {"x", strings.Repeat("p", 65537), -1, impl.ErrLong}, {strings.Repeat(" ", 65537), strings.Repeat("p", 65537), 1, impl.ErrLong},
		// CompileSource's.
		{strings.Repeat(" ", 601), path, fuel, impl.ErrSize}, {strings.Repeat(" ", 65536), path, 0, impl.ErrSize}, {"x", path, fuel, impl.ErrForm}, {"#", "", 0, impl.ErrForm}, {strings.Repeat(";", 301), "", 5, impl.ErrMany}, {strings.Repeat("(", 30), "", 5, impl.ErrDeep}, {"x;", "", fuel, impl.ErrName}, {"len();", "", fuel, impl.ErrCount}, {"let path = 1;", "", fuel, impl.ErrTwice}, {numbered(0, 20, "let v#=1;"), "", fuel, impl.ErrFull}, {numbered(0, 9, "function f#(){}"), "", fuel, impl.ErrMany},
	} {
		m, code := impl.RunSource(c.source, c.path, c.fuel)
		want := impl.Machine{}
		if c.code == impl.OK {
			p := compiled(t, c.source)
			want = runWanted(p, impl.Machine{State: impl.MaRun, Frames: []impl.CallFrame{frameWanted(p, 0, []impl.Value{word(c.path)})}}, c.fuel)
		}
		wantMachine(t, fmt.Sprintf("RunSource of %.40q, %.40q, %d", c.source, c.path, c.fuel), m, code, want, c.code)
	}
}

func TestOutcomeText(t *testing.T) {
	for _, v := range rightValues() {
		wantOutcome(t, impl.Machine{State: impl.MaRun, Value: v}, "runs", impl.OK)
		wantOutcome(t, impl.Machine{State: impl.MaDone, Value: v}, "done "+textWanted(v), impl.OK)
		wantOutcome(t, impl.Machine{State: impl.MaThrew, Value: v}, "threw "+textWanted(v), impl.OK)
	}
	wantOutcome(t, impl.Machine{State: impl.MaDone}, "done null", impl.OK)
	wantOutcome(t, impl.Machine{State: impl.MaDone, Value: word("")}, "done ", impl.OK)
	wantOutcome(t, impl.Machine{State: impl.MaThrew, Value: word("it's\n")}, "threw it's\n", impl.OK)
	// The rest of the machine may be anything.
	wantOutcome(t, impl.Machine{State: impl.MaRun, Used: -1, Frames: make([]impl.CallFrame, 9)}, "runs", impl.OK)
	wantOutcome(t, impl.Machine{State: impl.MaDone, Used: math.MaxInt, Frames: make([]impl.CallFrame, 1)}, "done null", impl.OK)
	for _, v := range append(wrongValues(), rightValues()...) {
		for _, state := range []int{0, 4, -1, 5, 1<<32 + 1, math.MinInt, math.MaxInt} {
			wantOutcome(t, impl.Machine{State: state, Value: v}, "", impl.ErrBad)
		}
	}
	for _, v := range wrongValues() {
		for _, state := range []int{impl.MaRun, impl.MaDone, impl.MaThrew} {
			wantOutcome(t, impl.Machine{State: state, Value: v}, "", impl.ErrBad)
		}
	}
}
