package tests

import (
	"math/rand"
	"strings"
	"testing"

	"loop.example/g00370/impl"
)

// ran is RunMachine of what is right; it takes no more than it is given, and all of it while it runs.
func ran(t *testing.T, p impl.Program, m impl.Machine, fuel int) impl.Machine {
	t.Helper()
	got, code := impl.RunMachine(p, m, fuel)
	if code != impl.OK {
		t.Fatalf("RunMachine of %s by %d: %d; program %s", toldMachine(m), fuel, code, briefProgram(p))
	}
	took := got.Used - m.Used
	if took < 0 || took > fuel || got.State == impl.MaRun && took != fuel && got.Used < 1000000 {
		t.Errorf("RunMachine of %s took %d of %d: %s", toldMachine(m), took, fuel, toldMachine(got))
	}
	return got
}

// wantAlike: in parts a machine comes to what it comes to at once.
func wantAlike(t *testing.T, p impl.Program, m, whole impl.Machine, parts ...int) {
	t.Helper()
	for _, fuel := range parts {
		m = ran(t, p, m, fuel)
	}
	if !sameMachine(m, whole) {
		t.Errorf("in parts of %v: %s; at once: %s; program %s", parts, toldMachine(m), toldMachine(whole), briefProgram(p))
	}
}

func TestFuelSplitInTwo(t *testing.T) {
	t.Parallel()
	for _, c := range outcomes() {
		p := compiled(t, c.source)
		first, _ := impl.StartMachine(p, "/p")
		end := ran(t, p, first, 5000)
		for _, fuel := range []int{end.Used / 2, end.Used - 1, end.Used, end.Used + 3} {
			whole := ran(t, p, first, fuel)
			fromSource, code := impl.RunSource(c.source, "/p", fuel)
			wantMachine(t, "RunSource", fromSource, code, whole, impl.OK)
			for part := 0; part <= fuel; part++ {
				wantAlike(t, p, first, whole, part, fuel-part)
			}
		}
		if t.Failed() {
			return
		}
	}
}

func TestFuelSplitInAllWays(t *testing.T) {
	t.Parallel()
	for _, s := range []string{"", "return 1 / 0;", "try { throw 1; } catch (e) { return e; }", "try { 1 + (2 + f(3)); } catch (e) { } function f(a) { throw a; }", "function f(a) { return a && g(); } function g() { } return f(1) || 2;"} {
		p := compiled(t, s)
		first, _ := impl.StartMachine(p, "")
		size := min(ran(t, p, first, 100).Used, 12)
		// Of each bit that is set a part ends behind that instruction.
		for bits := range 1 << (size + 1) {
			var parts []int
			last := 0
			for at := range size + 1 {
				if bits>>at&1 == 1 {
					parts = append(parts, at-last)
					last = at
				}
			}
			wantAlike(t, p, first, ran(t, p, first, size+1), append(parts, size+1-last)...)
		}
		if t.Failed() {
			return
		}
	}
}

func TestFuelSplitInThree(t *testing.T) {
	t.Parallel()
	for _, s := range []string{"let n = 0; while (n < 3) { n = n + 1; try { f(n); } catch (e) { n = e; } } return n; function f(a) { throw a + 1; }", "function f(n) { try { return 1 + f(n + 1); } catch (e) { throw e + str(n); } } return f(1);"} {
		p := compiled(t, s)
		first, _ := impl.StartMachine(p, "")
		whole := ran(t, p, first, 70)
		for a := 0; a <= 70; a++ {
			one := ran(t, p, first, a)
			for b := 0; a+b <= 70; b++ {
				wantAlike(t, p, one, whole, b, 70-a-b)
			}
		}
	}
}

// What is left over is not lost: a machine that does not end goes on from where it was, as often as it is given fuel.
func TestMachinesThatDoNotEnd(t *testing.T) {
	for _, s := range []string{"while (true) { }", "let x = 0; while (true) { x = (x + 1) % 100; }", "while (1) { try { f(1 + (2 + (3 + 4))); } catch (e) { path = e; } } function f(a) { throw a; }", "while (1) { try { f(); } catch (e) { path = e; } } function f() { 1 + (2 + f()); }"} {
		p := compiled(t, s)
		first, _ := impl.StartMachine(p, "")
		m := first
		for _, fuel := range []int{20000, 0, 1, 7, 992, 19000, 20000} {
			m = ran(t, p, m, fuel)
			if m.State != impl.MaRun || !impl.MachineOK(p, m) || len(m.Frames[0].Stack) > 10 || len(m.Frames[0].Tries) > 1 {
				t.Fatalf("%q comes to %s", s, toldMachine(m))
			}
		}
		wantMachine(t, s, m, impl.OK, runWanted(p, first, 60000), impl.OK)
	}
}

// parts makes parts that come to that much fuel in all.
func (g *gardener) parts(fuel int) []int {
	var list []int
	for fuel > 0 {
		part := g.Intn(min(fuel, 1+g.Intn(20)) + 1)
		list = append(list, part)
		fuel -= part
	}
	return list
}

// Programs of sources: the machine is right behind each instruction.
func TestMachinesOfSourcesByChance(t *testing.T) {
	t.Parallel()
	g := &gardener{Rand: rand.New(rand.NewSource(21))}
	ends := map[string]int{}
	for i := range 1500 {
		s := g.rootWritten(g.tended(3+i%40, i%4))
		p, code := impl.CompileSource(s)
		if code != impl.OK {
			continue
		}
		path := g.word("/ /a 0 abcdefgh")
		trace := wantTrace(t, p, path, 60)
		first, whole := trace[0], trace[len(trace)-1]
		fuel := len(trace) - 1
		fromSource, code := impl.RunSource(s, path, fuel)
		wantMachine(t, "RunSource of "+s, fromSource, code, whole, impl.OK)
		for range 5 {
			wantAlike(t, p, first, whole, g.parts(fuel)...)
		}
		text, _ := impl.OutcomeText(whole)
		ends[strings.Join(strings.Fields(text)[:1], "")]++
		if t.Failed() {
			return
		}
	}
	for _, word := range []string{"runs", "done", "threw"} {
		if ends[word] < 50 {
			t.Errorf("only %d of the sources came to %s: %v", ends[word], word, ends)
		}
	}
}

// typed is a source that rarely has a wrong kind of value, so that more of it is run.
func (g *gardener) typed(depth int) string {
	number := func() string { return g.number(depth) }
	switch g.Intn(9) {
	case 0:
		return "x = " + number() + ";"
	case 1:
		return "if (" + number() + " < " + number() + ") { " + g.typedBlock(depth) + " } else { " + g.typedBlock(depth) + " }"
	case 2:
		return "let n = 0; while (n < " + g.word("1 2 3") + ") { n = n + 1; " + g.typedBlock(depth) + " }"
	case 3, 4:
		return "try { " + g.typedBlock(depth) + " } catch (e) { y = y + 1; " + g.typedBlock(depth) + " }"
	case 5:
		return "throw " + number() + ";"
	case 6:
		return "return " + number() + ";"
	}
	return "y = " + number() + ";"
}

func (g *gardener) typedBlock(depth int) string {
	if depth == 0 {
		return ""
	}
	var list []string
	for range 1 + g.Intn(2) {
		list = append(list, "{ "+g.typed(depth-1)+" }")
	}
	return strings.Join(list, " ")
}

func (g *gardener) number(depth int) string {
	if depth == 0 {
		return g.word("x y 1 2 3 7")
	}
	below := func() string { return g.number(depth - 1) }
	switch g.Intn(9) {
	case 0:
		return "f(" + below() + ")"
	case 1:
		return "g(" + below() + ", " + below() + ")"
	case 2:
		return "max(" + below() + ", " + below() + ")"
	case 3:
		return "(" + below() + g.word(" && || ") + below() + ")"
	case 4, 5:
		return "(" + below() + g.word(" + - * % / ") + below() + ")"
	}
	return below()
}

// Sources with many calls, loops and tries within each other.
func TestMachinesOfTypedSourcesByChance(t *testing.T) {
	t.Parallel()
	g := &gardener{Rand: rand.New(rand.NewSource(22))}
	most, throws, count := 0, 0, 0
	for range 3000 {
		s := "let x=1;let y=2;" + g.typed(2) + g.typed(1) + "return x+y;function f(x){let y=3;" + g.typed(1) + "return x+1;}function g(x,y){try{" + g.typed(0) + "}catch(e){return f(e);}return f(x)*y;}"
		p, code := impl.CompileSource(s)
		if code != impl.OK {
			continue
		}
		count++
		first, _ := impl.StartMachine(p, "")
		m := first
		for m.State == impl.MaRun && m.Used < 200 {
			next, code := impl.StepMachine(p, m)
			wantBehind(t, "StepMachine", m, next, code, stepWanted(p, m), impl.OK)
			if !impl.MachineOK(p, next) {
				t.Fatalf("%q comes to %s", s, toldMachine(next))
			}
			if i, _ := impl.NextIns(p, m); i.Op != impl.CoDone && next.State == impl.MaRun && triesIn(next) < triesIn(m) {
				throws++
			}
			most = max(most, len(next.Frames))
			m = next
		}
		for range 3 {
			wantAlike(t, p, first, m, g.parts(m.Used)...)
		}
		if t.Failed() {
			return
		}
	}
	if count < 500 || most != 6 || throws < 300 {
		t.Errorf("%d sources, %d frames at most, %d tries that took something or were left", count, most, throws)
	}
}

func triesIn(m impl.Machine) int {
	count := 0
	for _, f := range m.Frames {
		count += len(f.Tries)
	}
	return count
}

// wantRunsAsReckoned is for programs of any kind: as long as a machine is right it goes on as it does at once.
func wantRunsAsReckoned(t *testing.T, p impl.Program, most int) (right bool) {
	t.Helper()
	first, code := impl.StartMachine(p, "a")
	if code != impl.OK {
		t.Fatalf("StartMachine of %s: %d", briefProgram(p), code)
	}
	right = true
	want := first
	for fuel := range most {
		whole := ran(t, p, first, fuel)
		if !sameMachine(whole, want) {
			t.Errorf("with %d: %s; want %s; program %s", fuel, toldMachine(whole), toldMachine(want), briefProgram(p))
		}
		ok := rightMachine(p, want)
		if impl.MachineOK(p, whole) != ok {
			t.Errorf("MachineOK of %s = %v; program %s", toldMachine(whole), !ok, briefProgram(p))
		}
		if ok {
			wantAlike(t, p, whole, ran(t, p, first, most), most-fuel)
		}
		right = right && ok
		if want.State != impl.MaRun || t.Failed() {
			break
		}
		want = stepWanted(p, want)
	}
	return right
}

func TestMachinesOfAllShortPrograms(t *testing.T) {
	t.Parallel()
	count, right := 0, 0
	for size := 1; size <= 5; size++ {
		may := func(at int, i impl.Ins) bool {
			begins, ends := i.Op == impl.CoTry || i.Op == impl.CoPush, i.Op == impl.CoReturn || i.Op == impl.CoThrow
			return !t.Failed() && (size < 5 || (at > 0 || begins) && (at < 4 || ends))
		}
		forEachCode(size, "push 1, pop, return, throw, done, binary +, unary -, call 0 1", []int{impl.CoJump, impl.CoFalse, impl.CoOr, impl.CoTry}, may, func(code []impl.Ins) {
			if p := alone(code); impl.ProgramOK(p) {
				count++
				if wantRunsAsReckoned(t, p, 12) {
					right++
				}
			}
		})
	}
	if count < 10000 || right < count*9/10 {
		t.Errorf("%d programs, of which %d were right all the way", count, right)
	}
}

// wantAtOnce holds what comes of a machine at once, with each fuel from 0 on, against a text; a machine is right but where its text ends with a question mark.
func wantAtOnce(t *testing.T, p impl.Program, lines ...string) {
	t.Helper()
	for fuel, line := range lines {
		want, wrong := strings.CutSuffix(line, "?")
		got := ran(t, p, start(t, p), fuel)
		if toldMachine(got) != want {
			t.Errorf("with %d: %s; want %s", fuel, toldMachine(got), want)
		}
		if impl.MachineOK(p, got) == wrong {
			t.Errorf("MachineOK of %s = %v", toldMachine(got), wrong)
		}
		wantMachineAnswers(t, p, got)
	}
}

// Code that no source has may take, while a try is open, what stood below it. What is thrown then finds null there.
func TestThrowsWithLessOnTheStack(t *testing.T) {
	p := program("push 5, try 3, throw, return")
	wantSteps(t, "the value itself", p, "run 1 | 0@1 'a' null null / 5 /", "run 2 | 0@2 'a' null null / 5 / 3:1", "run 3 | 0@3 'a' null null / null 5 /", "done 4 5")
	p = program("push 4, push 'x', try 5, unary -, return, pop, return")
	wantSteps(t, "what an operation took", p, "run 1 | 0@1 'a' null null / 4 /", "run 2 | 0@2 'a' null null / 4 'x' /", "run 3 | 0@3 'a' null null / 4 'x' / 5:2", "run 4 | 0@5 'a' null null / 4 null 'type' /", "run 5 | 0@6 'a' null null / 4 null /", "done 6 null")
	p = program("push 4, push 5, try 4, binary +, return")
	wantWrong(t, p) // the stack at 4 would be of two heights
	// Ahead of the throw the stack is lower than the try has it: at once it goes on, but a machine that stops there is not right.
	p = program("push 4, push 5, try 7, pop, pop, push 6, throw, pop, return")
	wantAtOnce(t, p,
		"run 0 | 0@0 'a' null null / /", "run 1 | 0@1 'a' null null / 4 /", "run 2 | 0@2 'a' null null / 4 5 /", "run 3 | 0@3 'a' null null / 4 5 / 7:2",
		"run 4 | 0@4 'a' null null / 4 / 7:2?", "run 5 | 0@5 'a' null null / / 7:2?", "run 6 | 0@6 'a' null null / 6 / 7:2?",
		"run 7 | 0@7 'a' null null / null null 6 /", "run 8 | 0@8 'a' null null / null null /", "done 9 null")
	// The same without a throw.
	p = program("push 4, try 6, pop, done, push 6, return, return")
	wantOutcome(t, ran(t, p, start(t, p), 100), "done 6", impl.OK)
	wantRunsAsReckoned(t, p, 20)
	// In a frame below: the arguments of the call were taken from below the try.
	p = program("push 4, try 4, call 1 1, return, return", "1 1: load 0, throw")
	wantAtOnce(t, p,
		"run 0 | 0@0 'a' null null / /", "run 1 | 0@1 'a' null null / 4 /", "run 2 | 0@2 'a' null null / 4 / 4:1",
		"run 3 | 0@3 'a' null null / / 4:1 | 1@0 4 / /?", "run 4 | 0@3 'a' null null / / 4:1 | 1@1 4 / 4 /?",
		"run 5 | 0@4 'a' null null / null 4 /", "done 6 4")
	// The deepest call throws ahead of that.
	p = program("push 4, try 4, call 0 1, return, return")
	got := ran(t, p, start(t, p), 18)
	if want := "run 18" + strings.Repeat(" | 0@3 4 null null / / 4:1", 5) + " | 0@4 4 null null / null 'deep' /"; strings.Replace(toldMachine(got), "'a'", "4", 1) != want {
		t.Errorf("%s; want %s", toldMachine(got), want)
	}
	wantRunsAsReckoned(t, p, 30)
}

func TestMachinesOfSpoiltProgramsByChance(t *testing.T) {
	t.Parallel()
	g := &gardener{Rand: rand.New(rand.NewSource(23))}
	count, right := 0, 0
	for range 6000 {
		p := g.program()
		for range 1 + g.Intn(3) {
			p = g.spoiltProgram(p)
		}
		if !rightProgram(p) {
			m, code := impl.StartMachine(p, "")
			wantMachine(t, "StartMachine of "+briefProgram(p), m, code, impl.Machine{}, impl.ErrBad)
			wantMachineAnswers(t, p, impl.Machine{State: impl.MaDone})
			continue
		}
		count++
		if wantRunsAsReckoned(t, p, 40) {
			right++
		}
		if t.Failed() {
			return
		}
	}
	if count < 500 || right < 400 {
		t.Errorf("%d programs were run, %d of them right all the way", count, right)
	}
}
