package tests

import (
	"fmt"
	"math/rand"
	"slices"
	"strings"
	"sync"
	"testing"

	"loop.example/g00370/impl"
)

// valueCalls are calls of chapters 1 and 2, ordinary and wrong ones; each tells its whole answer.
func valueCalls() []func() string {
	var calls []func() string
	texts := append(someTexts(), "ok", "shut", "x y", "==", "<", "+", "-", "*", "/", "%", "!", "len", "str", "abs", "at", "max", "min", "cut", "'it\\'s'", "'a\\'", "-0", "12", "99999999999", strings.Repeat("z", impl.MaxText+1))
	values := append(rightValues(), wrongValues()...)
	for _, s := range texts {
		calls = append(calls,
			func() string { return fmt.Sprint(impl.NameOK(s), impl.CodeOf(s)) },
			func() string { return fmt.Sprint(impl.ReadValue(s)) },
			func() string { return fmt.Sprint(impl.BuiltinCount(s)) })
	}
	for _, n := range append(someNumbers(), 8, 9, 10, 11, 13, 14, 15, 16, 17, 18, 19, 20) {
		calls = append(calls, func() string { return impl.CodeWord(n) })
	}
	for i, v := range values {
		w, u := values[(i*7+3)%len(values)], values[(i*11+5)%len(values)]
		calls = append(calls,
			func() string { return fmt.Sprint(impl.ValueOK(v)) },
			func() string { return fmt.Sprint(impl.Truth(v)) },
			func() string { return fmt.Sprint(impl.ValueText(v)) },
			func() string { return fmt.Sprint(impl.KindWord(v)) },
			func() string { return fmt.Sprint(impl.OrderValues(v, w)) })
		for _, s := range texts {
			calls = append(calls,
				func() string { return fmt.Sprint(impl.Unary(s, v)) },
				func() string { return fmt.Sprint(impl.Binary(s, v, w)) },
				func() string { return fmt.Sprint(impl.Builtin(s, []impl.Value{v, w, u}[:1+i%3])) })
		}
	}
	return calls
}

// tokenCalls are calls of chapter 3, ordinary and wrong ones.
func tokenCalls() []func() string {
	var calls []func() string
	tokens := append(rightTokens(), wrongTokens()...)
	for _, s := range append(append(plainTexts(), otherTexts()...), "let x = 'it\\'s';", "a #", "'a\\'", "12 01", "===", strings.Repeat(";", 300), strings.Repeat(";", 301), strings.Repeat(" ", 601), strings.Repeat("z", impl.MaxText+1)) {
		calls = append(calls,
			func() string { return fmt.Sprint(impl.LexSource(s)) },
			func() string { return fmt.Sprint(impl.WordOK(s)) },
			func() string { return fmt.Sprint(impl.QuoteText(s)) })
	}
	for i, x := range tokens {
		list := tokens[max(0, i-3) : i+1]
		calls = append(calls,
			func() string { return fmt.Sprint(impl.TokenText(x)) },
			func() string { return fmt.Sprint(impl.JoinTokens(list)) },
			func() string { return fmt.Sprint(impl.JoinTokens(slices.Repeat(list, i))) })
	}
	return calls
}

// treeCalls are calls of chapter 4, ordinary and wrong ones.
func treeCalls() []func() string {
	var calls []func() string
	trees := wrongTrees()
	for _, p := range rightPlants() {
		trees = append(trees, p.parsed())
	}
	for _, s := range []string{"", "let a = 1 + b; a;", "function f(a, b) { return a; } try { x; } catch (e) { f(1, e); }", "return 1", "}", "a #", strings.Repeat("(", 25), strings.Repeat("1+1;", 67), strings.Repeat(" ", 601), strings.Repeat("z", impl.MaxText+1)} {
		tree, _, _ := impl.ParseSource(s)
		trees = append(trees, tree)
		calls = append(calls, func() string { return fmt.Sprint(impl.ParseSource(s)) })
	}
	for i, tree := range trees {
		calls = append(calls,
			func() string { return fmt.Sprint(impl.TreeOK(tree)) },
			func() string { return fmt.Sprint(impl.TreeText(tree)) },
			func() string { return fmt.Sprint(impl.TreeDepth(tree)) })
		for _, k := range []int{-1, 0, 1, i, len(tree.Nodes) - 1, len(tree.Nodes)} {
			calls = append(calls,
				func() string { return fmt.Sprint(impl.CountKind(tree, k)) },
				func() string { return fmt.Sprint(impl.ParentOf(tree, k)) },
				func() string { return fmt.Sprint(impl.SizeOf(tree, k)) },
				func() string { return fmt.Sprint(impl.PathTo(tree, k)) })
		}
	}
	return calls
}

// nameCalls are calls of chapter 5, ordinary and wrong ones.
func nameCalls() []func() string {
	var calls []func() string
	trees := wrongTrees()
	for _, p := range rightPlants() {
		trees = append(trees, p.parsed())
	}
	for _, s := range []string{"", "let x = path; { let x = x; } try { f(x); } catch (e) { e = 1; } function f(a) { return g(f(a)); } function g(a) { return len(a); }", "let x = x;", "function f(a, a) { }", "len();", numbered(0, 20, "let v#=1;"), numbered(0, 9, "function f#(){}")} {
		tree, _, _ := impl.ParseSource(s)
		trees = append(trees, tree)
	}
	for i, tree := range trees {
		calls = append(calls,
			func() string { return fmt.Sprint(impl.CheckNames(tree)) },
			func() string { return fmt.Sprint(impl.FuncsOf(tree)) })
		for _, k := range []int{-1, 0, 1, i, tree.Root, len(tree.Nodes) - 2, len(tree.Nodes)} {
			calls = append(calls,
				func() string { return fmt.Sprint(impl.SlotsOf(tree, k)) },
				func() string { return fmt.Sprint(impl.ScopeAt(tree, k)) },
				func() string { return fmt.Sprint(impl.CallsOf(tree, k)) })
		}
		for _, name := range []string{"f", "g", "path", "x", "e", "", "\xff", strings.Repeat("z", impl.MaxText+1)} {
			calls = append(calls,
				func() string { return fmt.Sprint(impl.UsesOf(tree, name)) },
				func() string { return fmt.Sprint(impl.Comes(tree, "f", name)) },
				func() string { return fmt.Sprint(impl.Comes(tree, name, "f")) })
		}
	}
	return calls
}

// codeCalls are calls of chapter 6, ordinary and wrong ones.
func codeCalls() []func() string {
	var calls []func() string
	for _, tree := range wrongTrees() {
		calls = append(calls, func() string { return fmt.Sprint(impl.CompileTree(tree)) })
	}
	programs := []impl.Program{{}, alone(nil), alone(written("push 1")), alone(written("push 1, push 2, jump 1")), alone(written("try 3, done, push 1, return")), {Funcs: make([]impl.Func, 10)}}
	for _, s := range []string{"", "let x = path; { let x = x && 1; } try { f(x); } catch (e) { e = 1; } function f(a) { while (a) { a = a - 1; } return f(len(a)); }", "x;", "len();", "return", numbered(0, 20, "let v#=1;"), strings.Repeat(" ", 601), strings.Repeat("z", impl.MaxText+1)} {
		tree, _, _ := impl.ParseSource(s)
		p, _ := impl.CompileSource(s)
		programs = append(programs, p)
		calls = append(calls,
			func() string { return fmt.Sprint(impl.CompileSource(s)) },
			func() string { return fmt.Sprint(impl.CompileTree(tree)) })
	}
	for _, p := range programs {
		calls = append(calls,
			func() string { return fmt.Sprint(impl.ProgramOK(p)) },
			func() string { return fmt.Sprint(impl.CodeSize(p)) },
			func() string { return fmt.Sprint(impl.ProgramText(p)) })
		for _, k := range []int{-1, 0, 1, len(p.Funcs)} {
			calls = append(calls,
				func() string { return fmt.Sprint(impl.StackNeed(p, k)) },
				func() string { return fmt.Sprint(impl.TargetsOf(p, k)) },
				func() string { return fmt.Sprint(impl.Reached(p, k)) })
		}
	}
	for _, i := range instructionsOf()[:400] {
		calls = append(calls, func() string { return fmt.Sprint(impl.InsText(i)) })
	}
	return calls
}

// machineCalls are calls of chapter 7, ordinary and wrong ones.
func machineCalls() []func() string {
	var calls []func() string
	machines := []impl.Machine{{}, {State: impl.MaDone, Value: num(1)}, {State: impl.MaThrew, Value: word("x"), Used: 5}, {State: impl.MaRun}, {State: impl.MaDone, Value: impl.Value{Kind: 9}}, {State: impl.MaRun, Frames: make([]impl.CallFrame, 7)}}
	for _, s := range []string{"", "return path + 1;", "let x = 0; while (true) { try { f(x, 1); } catch (e) { x = e; } } function f(a, b) { throw g(a) + b; } function g(a) { return a && g(0) || a; }", "function f(a) { return f(a); } try { 1 + f(2); } catch (e) { throw e; }", "x;", "return", strings.Repeat(" ", 601), strings.Repeat("z", impl.MaxText+1)} {
		for _, path := range []string{"", "/a", strings.Repeat("p", 61), strings.Repeat("p", impl.MaxText+1)} {
			for _, fuel := range []int{-1, 0, 30, 20000, 20001} {
				calls = append(calls, func() string { return fmt.Sprint(impl.RunSource(s, path, fuel)) })
			}
		}
		p, _ := impl.CompileSource(s)
		for _, path := range []string{"", "/a", strings.Repeat("p", 61), strings.Repeat("p", impl.MaxText+1)} {
			calls = append(calls, func() string { return fmt.Sprint(impl.StartMachine(p, path)) })
		}
		first, _ := impl.StartMachine(p, "/")
		later, _ := impl.RunMachine(p, first, 25)
		for _, m := range append(machines, first, later) {
			calls = append(calls,
				func() string { return fmt.Sprint(impl.MachineOK(p, m)) },
				func() string { return fmt.Sprint(impl.StepMachine(p, m)) },
				func() string { return fmt.Sprint(impl.NextIns(p, m)) },
				func() string { return fmt.Sprint(impl.SpareOf(p, m)) },
				func() string { return fmt.Sprint(impl.SlotAt(p, m, 0, 0)) },
				func() string { return fmt.Sprint(impl.SlotAt(p, m, 1, -1)) },
				func() string { return fmt.Sprint(impl.OutcomeText(m)) })
			for _, fuel := range []int{-1, 0, 1, 50, 20001} {
				calls = append(calls, func() string { return fmt.Sprint(impl.RunMachine(p, m, fuel)) })
			}
		}
	}
	return calls
}

// evalCalls are calls of chapter 8, ordinary and wrong ones.
func evalCalls() []func() string {
	var calls []func() string
	trees := wrongTrees()
	for _, s := range []string{"", "return path + 1;", "let x = 0; while (true) { try { f(x, 1); } catch (e) { x = e; } } function f(a, b) { throw g(a) + b; } function g(a) { return a && g(0) || a; }", "function f(a) { return f(a); } try { 1 + f(2); } catch (e) { throw e; }", "x;", "return", strings.Repeat(" ", 601), strings.Repeat("z", impl.MaxText+1)} {
		tree, _, _ := impl.ParseSource(s)
		trees = append(trees, tree)
		for _, path := range []string{"", "/a", strings.Repeat("p", 61), strings.Repeat("p", impl.MaxText+1)} {
			calls = append(calls, func() string { return fmt.Sprint(impl.EvalSource(s, path)) })
		}
	}
	for _, tree := range trees {
		for _, path := range []string{"", "/a", strings.Repeat("p", 61), strings.Repeat("p", impl.MaxText+1)} {
			for _, steps := range []int{-1, 0, 10, 3000, 3001} {
				calls = append(calls, func() string { return fmt.Sprint(impl.EvalTree(tree, path, steps)) })
			}
		}
	}
	for _, v := range append(rightValues(), wrongValues()...) {
		for state := -1; state <= 4; state++ {
			calls = append(calls, func() string {
				return fmt.Sprint(impl.SameOutcome(impl.Outcome{State: state, Value: v}, impl.Machine{State: state, Value: v}))
			})
		}
	}
	return calls
}

// wireCalls are calls of chapter 9, ordinary and wrong ones.
func wireCalls() []func() string {
	var calls []func() string
	long := strings.Repeat("z", impl.MaxText+1)
	texts := slices.Concat(requestsToCut(), wrongHeads(), endless(), []string{"", long, withLines("connection: close") + long[:9999]})
	for _, s := range texts {
		calls = append(calls, func() string { return fmt.Sprint(impl.ReadRequest(s)) })
		for _, name := range []string{"host", "CONNECTION", "x", "", "\xff", long} {
			calls = append(calls, func() string { return fmt.Sprint(impl.HeaderOf(s, name)) })
		}
	}
	for _, s := range slices.Concat(somePaths(), noPaths(), texts) {
		calls = append(calls,
			func() string { return fmt.Sprint(impl.SplitPath(s)) },
			func() string { return fmt.Sprint(impl.RequestText(impl.Request{Path: s})) },
			func() string { return fmt.Sprint(impl.RequestText(impl.Request{Path: s, Close: true})) })
		for _, status := range []int{200, 404, 504, 0, -1} {
			calls = append(calls, func() string { return fmt.Sprint(impl.ReplyText(status, s, len(s)%2 == 0)) })
		}
	}
	for _, status := range append(oddNumbers(), 200, 400, 404, 431, 500, 501, 503, 504) {
		calls = append(calls, func() string { return impl.StatusWord(status) })
	}
	return calls
}

// tenantCalls are calls of chapter 10, of tenants that are right and of some that are not.
func tenantCalls() []func() string {
	var calls []func() string
	sources := []string{"", "#", endsSource, throwsSoon, spinsSource, mixedSource, strings.Repeat(" ", 601)}
	for k, source := range sources {
		x, _ := impl.MakeTenant("one", source)
		if x.State == impl.TeReady {
			x.Queue = jobsOf("/a", "/t", "/s", "/r")[:k%5]
		}
		begun, _, _ := impl.TenantRun(x, 9)
		wrong := x
		wrong.Fuel = -1
		calls = append(calls, func() string { return fmt.Sprint(impl.MakeTenant("one", source)) }, func() string { return fmt.Sprint(impl.MakeTenant("o ne", source)) })
		for _, x := range []impl.Tenant{x, begun, wrong} {
			calls = append(calls, func() string { return fmt.Sprint(impl.TenantOK(x)) }, func() string { return fmt.Sprint(impl.QueuePaths(x)) })
			for _, n := range []int{-1, 0, 1, 2, 4, 5, 30, 32, 1000, 1001} {
				calls = append(calls,
					func() string { return fmt.Sprint(impl.TenantAdmit(x, impl.Job{Id: n}, n)) },
					func() string { return fmt.Sprint(impl.TenantRun(x, n)) },
					func() string { return fmt.Sprint(impl.TenantExpire(x, 40, n)) },
					func() string { return fmt.Sprint(impl.TenantDrop(x, n)) })
			}
		}
	}
	for _, v := range append(rightValues(), wrongValues()...) {
		for state := range 5 {
			calls = append(calls, func() string {
				return fmt.Sprint(impl.JobReply(impl.Job{Machine: impl.Machine{State: state, Value: v}}))
			})
		}
	}
	return calls
}

// connCalls are calls of chapter 11, of connections that are right and of some that are not.
func connCalls() []func() string {
	calls := []func() string{func() string { return fmt.Sprint(impl.OpenConn()) }}
	texts := []string{"", "x", "\x00\xff", shortRequest, lastRequest + "x", strings.Repeat("x", 300), strings.Repeat("x", 301), strings.Repeat("x", 400), strings.Repeat("x", impl.MaxText+1)}
	for _, c := range connsToLookAt() {
		calls = append(calls,
			func() string { return fmt.Sprint(impl.ConnOK(c)) },
			func() string { return fmt.Sprint(impl.ConnNext(c)) },
			func() string { return fmt.Sprint(impl.ConnFlush(c)) },
			func() string { return fmt.Sprint(impl.WaitingOf(c)) },
			func() string { return fmt.Sprint(impl.RoomOf(c)) })
		for _, s := range texts {
			calls = append(calls, func() string { return fmt.Sprint(impl.ConnTake(c, s)) })
			for _, seq := range []int{-1, 0, 3, 5, 19, 20, 100000} {
				calls = append(calls, func() string { return fmt.Sprint(impl.ConnReady(c, seq, s)) })
			}
		}
	}
	return calls
}

// hostCalls are calls of chapter 12, of hosts that are right and of some that are not.
func hostCalls() []func() string {
	var calls []func() string
	names, sources := []string{"one", "two", "bad", "three"}, []string{quickSource, mixedSource, wrongSource, spinsSource}
	for _, c := range []impl.Config{{}, {Room: 2, Quantum: 9, Wait: 4}, {Room: 4, Quantum: 1000, Wait: 1000}, {Room: 5, Quantum: 1, Wait: 1}} {
		calls = append(calls, func() string { return fmt.Sprint(impl.ConfigOK(c)) })
		for count := range 5 {
			calls = append(calls, func() string { return fmt.Sprint(impl.NewHost(c, names[:count], sources[:count])) }, func() string { return fmt.Sprint(impl.NewHost(c, names[:count], sources[:2])) })
		}
	}
	texts := []string{"", "x", requestsOf("/one/a", "/none", "/two/s", "/bad", "/three", "/one/b"), requestOf("/one/z", true) + "x", "junk\r\n\r\n", longText[:401], longText}
	first, _ := impl.NewHost(impl.Config{Room: 2, Quantum: 9, Wait: 4}, names, sources)
	opened, _ := impl.HostOpen(first, 1)
	busy, _, _ := impl.HostBytes(opened, 1, texts[2])
	later, _, _ := impl.HostTick(busy)
	wrong := later
	wrong.Ids = 0
	for _, h := range []impl.Host{{}, first, opened, busy, later, wrong} {
		calls = append(calls,
			func() string { return fmt.Sprint(impl.HostOK(h)) },
			func() string { return fmt.Sprint(impl.HostTick(h)) },
			func() string { return fmt.Sprint(impl.TurnOf(h)) })
		for k := -1; k < 5; k++ {
			calls = append(calls,
				func() string { return fmt.Sprint(impl.HostOpen(h, k)) },
				func() string { return fmt.Sprint(impl.HostClose(h, k)) },
				func() string { return fmt.Sprint(impl.ConnWord(h, k)) })
			for _, s := range texts {
				calls = append(calls, func() string { return fmt.Sprint(impl.HostBytes(h, k, s)) })
			}
		}
		for _, name := range append(names, "none", "", longText) {
			calls = append(calls, func() string { return fmt.Sprint(impl.TenantAt(h, name)) })
		}
	}
	return calls
}

func allCalls() []func() string {
	return slices.Concat(valueCalls(), tokenCalls(), treeCalls(), nameCalls(), codeCalls(), machineCalls(), evalCalls(), wireCalls(), tenantCalls(), connCalls(), hostCalls(), oracleCalls(), scriptCalls(), auditCalls())
}

func answersOf(calls []func() string) []string {
	answers := make([]string, len(calls))
	for i, call := range calls {
		answers[i] = call()
	}
	return answers
}

func TestAlikeArgumentsHaveAlikeAnswers(t *testing.T) {
	calls := allCalls()
	first := answersOf(calls)
	order := rand.New(rand.NewSource(1)).Perm(len(calls))
	for _, k := range order {
		if got := calls[k](); got != first[k] {
			t.Fatalf("call %d: %.80s behind other calls, %.80s ahead of them", k, got, first[k])
		}
	}
	slices.Reverse(calls)
	again := answersOf(calls)
	slices.Reverse(again)
	if !slices.Equal(first, again) {
		t.Error("the answers hang on what was called ahead")
	}
}

func TestCallsBesideEachOtherAnswerAlike(t *testing.T) {
	first := answersOf(allCalls())
	var group sync.WaitGroup
	answers := make([][]string, 4)
	for i := range answers {
		group.Go(func() { answers[i] = answersOf(allCalls()) })
	}
	group.Wait()
	for _, a := range answers {
		if !slices.Equal(first, a) {
			t.Error("the answers hang on calls beside them")
		}
	}
}

func TestBuiltinLeavesItsArguments(t *testing.T) {
	for name, count := range builtinCounts() {
		for _, v := range append(rightValues(), wrongValues()...) {
			for _, n := range []int{0, 1, count, 4} {
				room := []impl.Value{v, num(1), num(2), word("d"), word("behind"), num(99)}
				before := slices.Clone(room)
				impl.Builtin(name, room[:n])
				if !slices.Equal(room, before) {
					t.Errorf("%s of %d arguments wrote into them: %+v, was %+v", name, n, room, before)
				}
			}
		}
	}
}

// What was answered stays as it is, whatever becomes of the list that was handed in.
func TestAnswersOutliveTheirArguments(t *testing.T) {
	args := []impl.Value{word("abcd"), num(1), num(3)}
	got, code := impl.Builtin("cut", args)
	clear(args)
	wantValue(t, "cut", got, code, word("bc"), impl.OK)
}

func TestJoinTokensLeavesItsList(t *testing.T) {
	for _, x := range append(rightTokens(), wrongTokens()...) {
		for n := range 4 {
			room := []impl.Token{tok(impl.ToText, 7, "it's"), x, tok(impl.ToName, -1, "a"), tok(impl.ToSign, 3, "behind"), tok(impl.ToInt, 9, "1")}
			before := slices.Clone(room)
			impl.JoinTokens(room[:n])
			if !slices.Equal(room, before) {
				t.Errorf("JoinTokens of %d tokens wrote into them: %s, was %s", n, brief(room), brief(before))
			}
		}
	}
}

// A list that was answered is its caller's own: what is written into it, or behind its end, is not to be seen in another answer.
func TestLexedListsShareNothing(t *testing.T) {
	const source = "let x = 'it\\'s' == y;"
	first, _, _ := impl.LexSource(source)
	want := slices.Clone(first)
	second, _, _ := impl.LexSource(source)
	clear(first[:cap(first)])
	if !slices.Equal(second, want) {
		t.Errorf("the second list is %s, want %s", brief(second), brief(want))
	}
	wantLex(t, source, want, 0, impl.OK)
}

// Neither the nodes, their kids and names, nor what stands behind the end of each list is written into.
func TestTreeCallsLeaveTheirTree(t *testing.T) {
	room := func(tree impl.Tree) impl.Tree {
		tree = cloneTree(tree)
		behind := tree.Nodes[:cap(tree.Nodes)]
		for i := len(tree.Nodes); i < len(behind); i++ {
			behind[i] = impl.Node{Kind: impl.NoBlock, Text: "behind", Names: []string{"behind"}, Kids: []int{7}}
		}
		for _, n := range tree.Nodes {
			names, kids := n.Names[:cap(n.Names)], n.Kids[:cap(n.Kids)]
			for i := len(n.Names); i < len(names); i++ {
				names[i] = "behind"
			}
			for i := len(n.Kids); i < len(kids); i++ {
				kids[i] = -7
			}
		}
		return tree
	}
	whole := func(tree impl.Tree) string {
		var told strings.Builder
		fmt.Fprint(&told, tree.Root, tree.Nodes[:cap(tree.Nodes)])
		for _, n := range tree.Nodes {
			fmt.Fprint(&told, n.Names[:cap(n.Names)], n.Kids[:cap(n.Kids)])
		}
		return told.String()
	}
	trees := wrongTrees()
	for _, p := range rightPlants() {
		trees = append(trees, p.parsed())
	}
	named, _, _ := impl.ParseSource("function f(a, b) { let c = g(f(b, a)); try { c; } catch (e) { e = c; } } function g(a) { } let x = f(g(1), path);")
	trees = append(trees, named)
	for _, tree := range trees {
		tree = room(tree)
		before := whole(tree)
		impl.TreeOK(tree)
		impl.TreeText(tree)
		impl.TreeDepth(tree)
		for k := -1; k <= min(len(tree.Nodes), 21); k++ {
			impl.CountKind(tree, k)
			impl.ParentOf(tree, k)
			impl.SizeOf(tree, k)
			impl.PathTo(tree, k)
			impl.SlotsOf(tree, k)
			impl.ScopeAt(tree, k)
			impl.CallsOf(tree, k)
		}
		impl.CheckNames(tree)
		impl.FuncsOf(tree)
		impl.UsesOf(tree, "a")
		impl.Comes(tree, "f", "f")
		impl.CompileTree(tree)
		impl.EvalTree(tree, "/a", 3000)
		impl.EvalTree(tree, "/a", 7)
		if whole(tree) != before {
			t.Errorf("a call wrote into %s", briefTree(tree))
		}
	}
}

func TestPathsShareNothing(t *testing.T) {
	tree, _, _ := impl.ParseSource("let a = 1 + b; a;")
	first, _ := impl.PathTo(tree, 0)
	second, _ := impl.PathTo(tree, 0)
	clear(first[:cap(first)])
	if third, _ := impl.PathTo(tree, 0); !slices.Equal(second, third) || !slices.Equal(second, []int{6, 3, 2, 0}) {
		t.Errorf("PathTo = %v, then %v", second, third)
	}
}

func FuzzValues(f *testing.F) {
	f.Add("+", 1, 2, "", 3, 0, "x")
	f.Add("'a\\'b'", 3, 0, "a", 3, 0, "b")
	f.Add("-2147483648", 1, impl.MinInt, "", 1, -1, "")
	f.Fuzz(func(t *testing.T, s string, k1, n1 int, t1 string, k2, n2 int, t2 string) {
		a, b := impl.Value{Kind: k1, N: n1, T: t1}, impl.Value{Kind: k2, N: n2, T: t2}
		v, code := impl.Binary(s, a, b)
		checkAnswer(t, v, code)
		v, code = impl.Unary(s, a)
		checkAnswer(t, v, code)
		v, code = impl.Builtin(s, []impl.Value{a, b})
		checkAnswer(t, v, code)
		v, code = impl.ReadValue(s)
		checkAnswer(t, v, code)
		if text, _ := impl.ValueText(v); code == impl.OK && v.Kind != impl.VaText && text != s || code == impl.OK && v.Kind == impl.VaText && quoted(text) != s {
			t.Errorf("%q is read as %+v, which is not written so", s, v)
		}
	})
}

func checkAnswer(t *testing.T, v impl.Value, code int) {
	t.Helper()
	if code == impl.OK && !impl.ValueOK(v) || code != impl.OK && v != null || impl.CodeWord(code) == "" {
		t.Errorf("the answer %+v, %d is not right", v, code)
	}
}
