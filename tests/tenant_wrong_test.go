package tests

import (
	"cmp"
	"fmt"
	"math"
	"slices"
	"strings"
	"testing"
	"unsafe"

	"loop.example/g00370/impl"
)

// wantWrongTenant: all calls of it are ErrBad, and nothing else is told.
func wantWrongTenant(t *testing.T, what string, x impl.Tenant) {
	t.Helper()
	if impl.TenantOK(x) || rightTenant(x) {
		t.Errorf("TenantOK with %s: %s", what, toldTenant(x))
	}
	wantTenantAnswers(t, x)
	got, code := impl.TenantAdmit(x, impl.Job{}, 4)
	wantTenant(t, what, got, code, impl.Tenant{}, impl.ErrBad)
	got, jobs, code := impl.TenantRun(x, 1000)
	wantTenant(t, what, got, code, impl.Tenant{}, impl.ErrBad)
	wantJobs(t, what, jobs, nil)
	got, jobs, code = impl.TenantExpire(x, 100000, 1)
	wantTenant(t, what, got, code, impl.Tenant{}, impl.ErrBad)
	wantJobs(t, what, jobs, nil)
	got, code = impl.TenantDrop(x, 0)
	wantTenant(t, what, got, code, impl.Tenant{}, impl.ErrBad)
	if paths, code := impl.QueuePaths(x); len(paths) != 0 || code != impl.ErrBad {
		t.Errorf("QueuePaths with %s = %q, %d", what, paths, code)
	}
}

// atWork is a tenant of four jobs, the first of which has Begun, and stands in a call within a try.
func atWork(t *testing.T) impl.Tenant {
	t.Helper()
	x := tenantWith(t, "function f(a) { let b = a; while (true) { b = b + 1; } } try { let c = 2; return 1 + f(c); } catch (e) { return e; }", "/a", "/b", "/c", "/d")
	x, _ = turns(t, x, 25)
	if m := x.Queue[0].Machine; !x.Queue[0].Begun || len(m.Frames) != 2 || len(m.Frames[0].Stack) != 1 || len(m.Frames[0].Tries) != 1 {
		t.Fatalf("the tenant is %s", toldTenant(x))
	}
	return x
}

func TestTenantsThatAreWrong(t *testing.T) {
	right := atWork(t)
	wantTenantAnswers(t, right)
	for what, spoil := range map[string]func(x *impl.Tenant){
		"nothing at all":              func(x *impl.Tenant) { *x = impl.Tenant{} },
		"no name":                     func(x *impl.Tenant) { x.Name = "" },
		"a name of 9 bytes":           func(x *impl.Tenant) { x.Name = "ninechars" },
		"a name that is none":         func(x *impl.Tenant) { x.Name = "o-e" },
		"another source":              func(x *impl.Tenant) { x.Source = "return 1;" },
		"a source of 601 bytes":       func(x *impl.Tenant) { x.Source += strings.Repeat(" ", 601-len(x.Source)) },
		"a great source":              func(x *impl.Tenant) { x.Source = strings.Repeat(" ", 70000) },
		"a source without code":       func(x *impl.Tenant) { x.Source = "#" },
		"a failed one's state":        func(x *impl.Tenant) { x.State = impl.TeFailed },
		"a failed one's, and no jobs": func(x *impl.Tenant) { x.State, x.Queue = impl.TeFailed, nil },
		"a failed one's, with code":   func(x *impl.Tenant) { *x = impl.Tenant{Name: "a", Source: x.Source, State: impl.TeFailed} },
		"no state":                    func(x *impl.Tenant) { x.State = 0 },
		"state 3":                     func(x *impl.Tenant) { x.State = 3 },
		"a great state":               func(x *impl.Tenant) { x.State = 1<<32 + 1 },
		"no program":                  func(x *impl.Tenant) { x.Program = impl.Program{} },
		"no program, and no jobs":     func(x *impl.Tenant) { x.Program, x.Queue = impl.Program{}, nil },
		"a function less":             func(x *impl.Tenant) { x.Program.Funcs = x.Program.Funcs[:1] },
		"a function more":             func(x *impl.Tenant) { x.Program.Funcs = append(x.Program.Funcs, x.Program.Funcs[1]) },
		"functions in another order":  func(x *impl.Tenant) { slices.Reverse(x.Program.Funcs) },
		"another name of a function":  func(x *impl.Tenant) { x.Program.Funcs[1].Name = "g" },
		"another number of slots":     func(x *impl.Tenant) { x.Program.Funcs[0].Slots++ },
		"another number of params":    func(x *impl.Tenant) { x.Program.Funcs[1].Params = 0 },
		"another instruction":         func(x *impl.Tenant) { x.Program.Funcs[1].Code[0].N = 1 },
		"another constant":            func(x *impl.Tenant) { x.Program.Funcs[0].Code[1].V.N++ },
		"an instruction less":         func(x *impl.Tenant) { x.Program.Funcs[1].Code = x.Program.Funcs[1].Code[:5] },
		"an instruction more":         func(x *impl.Tenant) { x.Program.Funcs[1].Code = append(x.Program.Funcs[1].Code, ins("return")) },
		"a job more":                  func(x *impl.Tenant) { x.Queue = append(x.Queue, impl.Job{}) },
		"a failed one with a program": func(x *impl.Tenant) { x.Source, x.State, x.Queue = "#", impl.TeFailed, nil },
		"the state of a failed one":   func(x *impl.Tenant) { *x = impl.Tenant{Name: "a", Source: "#", State: impl.TeReady} },
		"no state of a failed one":    func(x *impl.Tenant) { *x = impl.Tenant{Name: "a", Source: "#"} },
	} {
		x := cloneTenant(right)
		spoil(&x)
		wantWrongTenant(t, what, x)
	}
	// Another name, another Fuel and fewer jobs are as good.
	for what, change := range map[string]func(x *impl.Tenant){
		"another name":   func(x *impl.Tenant) { x.Name = "eightabc" },
		"another fuel":   func(x *impl.Tenant) { x.Fuel = 0 },
		"fewer jobs":     func(x *impl.Tenant) { x.Queue = x.Queue[:1] },
		"no jobs":        func(x *impl.Tenant) { x.Queue = nil },
		"others first":   func(x *impl.Tenant) { x.Queue = x.Queue[1:] },
		"the same twice": func(x *impl.Tenant) { x.Queue[3] = x.Queue[2] },
		"falling times":  func(x *impl.Tenant) { x.Queue[1].Since, x.Queue[1].Id, x.Queue[1].Seq = 99, 99, 99 },
		"another order":  func(x *impl.Tenant) { slices.Reverse(x.Queue[1:]) },
	} {
		x := cloneTenant(right)
		change(&x)
		if !impl.TenantOK(x) {
			t.Errorf("TenantOK with %s is false: %s", what, toldTenant(x))
		}
		wantTenantAnswers(t, x)
	}
}

// Each number of a job is put to each of some others, at each place of the queue, and in a job that is handed in.
func TestJobsWithOtherNumbers(t *testing.T) {
	right := atWork(t)
	empty := wantMade(t, "one", endsSource)
	numbers := append(oddNumbers(), 10, 99999, 100000, 100001, -100000, 1<<32+7, 7-1<<32)
	for what, place := range map[string]struct {
		number func(j *impl.Job) *int
		most   int
	}{
		"Id":    {func(j *impl.Job) *int { return &j.Id }, 100000},
		"Conn":  {func(j *impl.Job) *int { return &j.Conn }, 7},
		"Seq":   {func(j *impl.Job) *int { return &j.Seq }, 100000},
		"Since": {func(j *impl.Job) *int { return &j.Since }, 100000},
	} {
		for _, n := range numbers {
			ok := n >= 0 && n <= place.most
			for k := range right.Queue {
				x := cloneTenant(right)
				*place.number(&x.Queue[k]) = n
				if impl.TenantOK(x) != ok {
					t.Errorf("TenantOK with %s %d at %d = %v", what, n, k, !ok)
				}
				wantPaths(t, x)
				wantTurn(t, x, 3)
			}
			j := impl.Job{Id: 1, Conn: 1, Seq: 1, Path: "/a", Since: 1}
			*place.number(&j) = n
			if _, code := wantAdmit(t, empty, j, 4); (code == impl.OK) != ok || code != impl.OK && code != impl.ErrBad {
				t.Errorf("TenantAdmit with %s %d: %d", what, n, code)
			}
		}
	}
	for _, size := range []int{0, 1, 59, 60, 61, 62, 65536, 65537, 1 << 20} {
		path := strings.Repeat("p", size)
		for k := range right.Queue {
			x := cloneTenant(right)
			x.Queue[k].Path = path
			if impl.TenantOK(x) != (size <= 60) {
				t.Errorf("TenantOK with a path of %d bytes at %d", size, k)
			}
			wantTenantAnswers(t, x)
		}
		if _, code := wantAdmit(t, empty, impl.Job{Path: path}, 4); code != map[bool]int{true: impl.OK, false: impl.ErrBad}[size <= 60] {
			t.Errorf("TenantAdmit with a path of %d bytes: %d", size, code)
		}
	}
}

// machinesThatAreNotZero differ from a zero machine in one thing each, or are of one that runs, is done or threw.
func machinesThatAreNotZero(x impl.Tenant) []impl.Machine {
	first, _ := impl.StartMachine(x.Program, "/a")
	return []impl.Machine{
		{State: 1}, {State: 2}, {State: 3}, {State: 4}, {State: -1}, {State: math.MinInt}, {State: math.MaxInt}, {State: 1 << 32},
		{Used: 1}, {Used: -1}, {Used: 1000000}, {Used: math.MaxInt}, {Value: num(0)}, {Value: word("")}, {Value: impl.Value{N: 1}}, {Value: impl.Value{T: "x"}}, {Value: impl.Value{Kind: -1}},
		{Frames: make([]impl.CallFrame, 1)}, {Frames: make([]impl.CallFrame, 7)}, {Frames: make([]impl.CallFrame, 5000)}, first, x.Queue[0].Machine, {State: 2, Value: num(1), Used: 3}, {State: 3, Value: word("x"), Used: 3},
	}
}

// A job that has not Begun has a zero machine; the first one alone may have Begun, with a right one that runs.
func TestMachinesOfJobs(t *testing.T) {
	right := atWork(t)
	empty := wantMade(t, "one", right.Source)
	for i, m := range append(machinesThatAreNotZero(right), impl.Machine{}) {
		for k := range right.Queue {
			for _, begun := range []bool{false, true} {
				x := cloneTenant(right)
				x.Queue[k].Begun, x.Queue[k].Machine = begun, cloneMachine(m)
				zero := sameMachine(m, impl.Machine{})
				ok := !begun && zero || begun && k == 0 && impl.MachineOK(x.Program, m) && m.State == impl.MaRun
				if impl.TenantOK(x) != ok {
					t.Errorf("TenantOK with machine %d, begun %v, at %d = %v: %s", i, begun, k, !ok, toldTenant(x))
				}
				wantTenantAnswers(t, x)
				want := map[bool]int{true: impl.OK, false: impl.ErrBad}[!begun && zero]
				if _, code := wantAdmit(t, empty, x.Queue[k], 4); code != want {
					t.Errorf("TenantAdmit with machine %d, begun %v: %d, want %d", i, begun, code, want)
				}
			}
		}
	}
}

// A machine at work is spoilt in the ways in which one is not right for its program.
func TestFirstJobsWhoseMachineIsWrong(t *testing.T) {
	right := atWork(t)
	for what, spoil := range map[string]func(m *impl.Machine){
		"no frames":            func(m *impl.Machine) { m.Frames = nil },
		"a frame less":         func(m *impl.Machine) { m.Frames = m.Frames[1:] },
		"the frame above gone": func(m *impl.Machine) { m.Frames = m.Frames[:1] },
		"a frame twice":        func(m *impl.Machine) { m.Frames = append(m.Frames, m.Frames[1]) },
		"another function":     func(m *impl.Machine) { m.Frames[1].Func = 0 },
		"no such function":     func(m *impl.Machine) { m.Frames[1].Func = math.MaxInt },
		"another place":        func(m *impl.Machine) { m.Frames[0].Pc = 0 },
		"no such place":        func(m *impl.Machine) { m.Frames[1].Pc = math.MinInt },
		"a slot less":          func(m *impl.Machine) { m.Frames[1].Slots = m.Frames[1].Slots[1:] },
		"a wrong slot":         func(m *impl.Machine) { m.Frames[1].Slots[0] = impl.Value{Kind: 9} },
		"a value more":         func(m *impl.Machine) { m.Frames[1].Stack = append(m.Frames[1].Stack, null) },
		"a wrong value":        func(m *impl.Machine) { m.Frames[0].Stack[0] = word(strings.Repeat("x", 61)) },
		"no tries":             func(m *impl.Machine) { m.Frames[0].Tries = nil },
		"a try elsewhere":      func(m *impl.Machine) { m.Frames[0].Tries[0].At = 0 },
		"a try too high":       func(m *impl.Machine) { m.Frames[0].Tries[0].High = math.MaxInt },
		"a value":              func(m *impl.Machine) { m.Value = num(1) },
		"too much used":        func(m *impl.Machine) { m.Used = 1000001 },
		"less than nothing":    func(m *impl.Machine) { m.Used = -1 },
		"another state":        func(m *impl.Machine) { m.State = 0 },
		"done":                 func(m *impl.Machine) { *m = impl.Machine{State: impl.MaDone} },
		"threw":                func(m *impl.Machine) { *m = impl.Machine{State: impl.MaThrew} },
	} {
		x := cloneTenant(right)
		spoil(&x.Queue[0].Machine)
		wantWrongTenant(t, what, x)
	}
}

// A machine may be right that no run comes to: its try lies higher than the stack will be. It goes on as its instructions say, and is not right behind them.
func TestFirstJobsThatNoRunComesTo(t *testing.T) {
	x := tenantWith(t, "try { 1 + 2; 1 / 0; } catch (e) { } return 3 + 4;", "/a", "/b")
	x, _ = turns(t, x, 2)
	for at := range x.Program.Funcs[0].Code {
		x.Queue[0].Machine.Frames[0].Tries[0] = impl.Try{At: at, High: 1}
		for quantum := 1; quantum <= 30; quantum++ {
			wantTurn(t, x, quantum)
		}
		if !impl.TenantOK(x) {
			continue
		}
		for fuel := range 30 {
			m, _ := impl.RunMachine(x.Program, x.Queue[0].Machine, fuel)
			next, over, code := impl.TenantRun(x, max(fuel, 1))
			if fuel > 0 && m.State == impl.MaRun && (code != impl.OK || len(over) > 0 || !sameMachine(next.Queue[0].Machine, m)) {
				t.Errorf("a try to %d, by %d: %s, %d", at, fuel, toldTenant(next), code)
			}
			if code == impl.OK {
				wantTenantAnswers(t, next)
			}
		}
	}
}

// Lists of any length are handed in within a tenant; none is gone through that is too long.
func TestTenantsOfGreatLists(t *testing.T) {
	right := atWork(t)
	for _, count := range []int{5, 4097, 200000} {
		x := cloneTenant(right)
		x.Queue = make([]impl.Job, count)
		wantWrongTenant(t, "a long queue", x)
		x = cloneTenant(right)
		x.Program.Funcs = make([]impl.Func, count)
		wantWrongTenant(t, "many functions", x)
		x = cloneTenant(right)
		x.Program.Funcs[0].Code = make([]impl.Ins, count)
		wantWrongTenant(t, "much code", x)
		x = cloneTenant(right)
		x.Queue[0].Machine.Frames = make([]impl.CallFrame, count+2)
		wantWrongTenant(t, "many frames", x)
		x = cloneTenant(right)
		x.Queue[0].Machine.Frames[0].Stack = make([]impl.Value, count)
		wantWrongTenant(t, "a high stack", x)
		x = cloneTenant(right)
		x.Queue[0].Machine.Frames[0].Tries = make([]impl.Try, count)
		wantWrongTenant(t, "many tries", x)
		x = cloneTenant(right)
		x.Queue[3].Machine.Frames = make([]impl.CallFrame, count)
		wantWrongTenant(t, "frames of a job that waits", x)
	}
}

// An empty list and nil are alike.
func TestTenantsOfEmptyLists(t *testing.T) {
	for _, source := range []string{"", "#"} {
		for _, queue := range [][]impl.Job{nil, {}} {
			x := wantMade(t, "one", source)
			x.Queue = queue
			if len(x.Program.Funcs) == 0 {
				x.Program.Funcs = []impl.Func{}
			}
			if !impl.TenantOK(x) {
				t.Errorf("TenantOK of %s", toldTenant(x))
			}
			wantTenantAnswers(t, x)
		}
	}
	x := tenantWith(t, endsSource, "/a", "/b")
	for k := range x.Queue {
		x.Queue[k].Machine.Frames = []impl.CallFrame{}
	}
	wantTenantAnswers(t, x)
	if _, code := wantAdmit(t, x, impl.Job{Machine: impl.Machine{Frames: []impl.CallFrame{}}}, 4); code != impl.OK {
		t.Errorf("TenantAdmit of a job with an empty list: %d", code)
	}
	x = atWork(t)
	for k := range x.Queue[0].Machine.Frames {
		f := &x.Queue[0].Machine.Frames[k]
		if len(f.Stack) == 0 {
			f.Stack = nil
		}
		if len(f.Tries) == 0 {
			f.Tries = nil
		}
	}
	wantTenantAnswers(t, x)
}

// wholeTenant tells all lists with what stands behind their ends.
func wholeTenant(x impl.Tenant) string {
	told := fmt.Sprint(x.Name, x.Source, x.State, x.Fuel, x.Queue[:cap(x.Queue)], x.Program.Funcs[:cap(x.Program.Funcs)])
	for _, f := range x.Program.Funcs {
		told += fmt.Sprint(f.Code[:cap(f.Code)])
	}
	for _, j := range x.Queue {
		told += wholeMachine(j.Machine)
	}
	return told
}

// withRoomBehind has something behind the end of each list.
func withRoomBehind(x impl.Tenant) impl.Tenant {
	x = cloneTenant(x)
	x.Queue[:cap(x.Queue)][len(x.Queue)] = impl.Job{Id: -7, Path: "behind"}
	x.Program.Funcs[:cap(x.Program.Funcs)][len(x.Program.Funcs)].Name = "behind"
	for _, f := range x.Program.Funcs {
		f.Code[:cap(f.Code)][len(f.Code)] = impl.Ins{Op: -7}
	}
	for k := range x.Queue {
		x.Queue[k].Machine = withBehind(x.Queue[k].Machine)
	}
	return x
}

// tenantsToLookAt are right ones with and without jobs, and wrong ones.
func tenantsToLookAt(t *testing.T) []impl.Tenant {
	wrong := atWork(t)
	wrong.Queue[1].Begun = true
	done := tenantWith(t, mixedSource, "/t", "/s", "/a")
	done, _ = turns(t, done, 60)
	return []impl.Tenant{wantMade(t, "one", ""), wantMade(t, "bad", "#"), tenantWith(t, mixedSource, "/a", "/t", "/r", "/s"), atWork(t), done, wrong}
}

// Neither the lists of a tenant, nor what stands behind their ends is written into.
func TestTenantCallsLeaveTheirTenant(t *testing.T) {
	for _, x := range tenantsToLookAt(t) {
		x = withRoomBehind(x)
		before := wholeTenant(x)
		wantTenantAnswers(t, x)
		for _, quantum := range []int{1, 30, 1000} {
			impl.TenantRun(x, quantum)
		}
		if wholeTenant(x) != before {
			t.Errorf("a call wrote into %s", toldTenant(x))
		}
	}
}

// span is the memory of a list, up to the end of what it has room for.
type span struct{ from, to uintptr }

func spanOf[E any](list []E) span {
	from := uintptr(unsafe.Pointer(unsafe.SliceData(list)))
	return span{from, from + uintptr(cap(list))*unsafe.Sizeof(*new(E))}
}

// tenantSpans has the memory of each list of a tenant, and of jobs that were told with it.
func tenantSpans(x impl.Tenant, jobs []impl.Job) []span {
	list := []span{spanOf(x.Program.Funcs), spanOf(x.Queue), spanOf(jobs)}
	for _, f := range x.Program.Funcs {
		list = append(list, spanOf(f.Code))
	}
	for _, j := range slices.Concat(x.Queue, jobs) {
		list = append(list, spanOf(j.Machine.Frames))
		for _, f := range j.Machine.Frames {
			list = append(list, spanOf(f.Slots), spanOf(f.Stack), spanOf(f.Tries))
		}
	}
	return slices.DeleteFunc(list, func(s span) bool { return s.from == s.to })
}

func wantApart(t *testing.T, what string, list []span) {
	t.Helper()
	slices.SortFunc(list, func(a, b span) int { return cmp.Compare(a.from, b.from) })
	for k := 1; k < len(list); k++ {
		if list[k].from < list[k-1].to {
			t.Errorf("%s: two lists share memory", what)
		}
	}
}

// tenantAnswers are all calls that answer a tenant.
func tenantAnswers() []func(x impl.Tenant) (impl.Tenant, []impl.Job) {
	admit := func(room int) func(x impl.Tenant) (impl.Tenant, []impl.Job) {
		return func(x impl.Tenant) (impl.Tenant, []impl.Job) {
			got, _ := impl.TenantAdmit(x, impl.Job{Path: "/new"}, room)
			return got, nil
		}
	}
	turn := func(quantum int) func(x impl.Tenant) (impl.Tenant, []impl.Job) {
		return func(x impl.Tenant) (impl.Tenant, []impl.Job) {
			got, jobs, _ := impl.TenantRun(x, quantum)
			return got, jobs
		}
	}
	expire := func(now int) func(x impl.Tenant) (impl.Tenant, []impl.Job) {
		return func(x impl.Tenant) (impl.Tenant, []impl.Job) {
			got, jobs, _ := impl.TenantExpire(x, now, 1)
			return got, jobs
		}
	}
	drop := func(conn int) func(x impl.Tenant) (impl.Tenant, []impl.Job) {
		return func(x impl.Tenant) (impl.Tenant, []impl.Job) {
			got, _ := impl.TenantDrop(x, conn)
			return got, nil
		}
	}
	remade := func(x impl.Tenant) (impl.Tenant, []impl.Job) {
		got, _ := impl.MakeTenant(x.Name, x.Source)
		return got, nil
	}
	return []func(x impl.Tenant) (impl.Tenant, []impl.Job){admit(4), admit(0), turn(1), turn(7), turn(90), turn(1000), expire(0), expire(31), expire(100), drop(0), drop(1), drop(9), remade}
}

// What is answered is its caller's own: no two lists of it share anything, nor with what was handed in.
func TestTenantsShareNothing(t *testing.T) {
	for which, x := range tenantsToLookAt(t) {
		for call, answer := range tenantAnswers() {
			what := fmt.Sprintf("call %d of tenant %d", call, which)
			given := cloneTenant(x)
			got, jobs := answer(given)
			again, jobsAgain := answer(given)
			wantApart(t, what, slices.Concat(tenantSpans(given, nil), tenantSpans(got, jobs), tenantSpans(again, jobsAgain)))
			wantTenant(t, what, again, impl.OK, got, impl.OK)
			wantJobs(t, what, jobsAgain, jobs)
		}
	}
	x := tenantWith(t, endsSource, "/a", "/b")
	first, _ := impl.QueuePaths(x)
	second, _ := impl.QueuePaths(x)
	wantApart(t, "QueuePaths", []span{spanOf(first), spanOf(second), spanOf(x.Queue)})
}

// Texts that were handed in may become others: what was answered stays as it is.
func TestTenantTextsAreTheirOwn(t *testing.T) {
	name, spoilName := loose("one")
	source, spoilSource := loose("let a = 'text'; return a + path;")
	path, spoilPath := loose("/path")
	made, _ := impl.MakeTenant(name, source)
	x, _ := impl.TenantAdmit(made, impl.Job{Path: path}, 4)
	paths, _ := impl.QueuePaths(x)
	begun, _, _ := impl.TenantRun(x, 3)
	spoilName()
	spoilSource()
	spoilPath()
	want := tenantWith(t, "let a = 'text'; return a + path;")
	wantTenant(t, "MakeTenant", made, impl.OK, want, impl.OK)
	want.Queue = []impl.Job{{Path: "/path"}}
	wantTenant(t, "TenantAdmit", x, impl.OK, want, impl.OK)
	want, _, _ = turnWanted(want, 3)
	wantTenant(t, "TenantRun", begun, impl.OK, want, impl.OK)
	if !slices.Equal(paths, []string{"/path"}) {
		t.Errorf("QueuePaths = %q", paths)
	}
}
