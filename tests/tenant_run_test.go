package tests

import (
	"fmt"
	"math"
	"slices"
	"testing"

	"loop.example/g00370/impl"
)

// turns runs a tenant with each quantum in turn, and answers it with all jobs that were over.
func turns(t *testing.T, x impl.Tenant, quanta ...int) (impl.Tenant, []impl.Job) {
	t.Helper()
	var all []impl.Job
	for _, quantum := range quanta {
		next, over, code := impl.TenantRun(x, quantum)
		if code != impl.OK {
			t.Fatalf("TenantRun of %s by %d: %d", toldTenant(x), quantum, code)
		}
		wantQuantumKept(t, x, next, over, quantum)
		x, all = next, append(all, over...)
	}
	return x, all
}

// wantQuantumKept: no more is done than the quantum, all of it if a job is left, and Fuel grows by what the jobs did.
func wantQuantumKept(t *testing.T, x, next impl.Tenant, over []impl.Job, quantum int) {
	t.Helper()
	did := 0
	for k, j := range slices.Concat(over, next.Queue) {
		was := x.Queue[k]
		if was.Id != j.Id || was.Seq != j.Seq || was.Conn != j.Conn || was.Path != j.Path || was.Since != j.Since {
			t.Errorf("the jobs are in another order:%s; were%s", toldJobs(slices.Concat(over, next.Queue)), toldJobs(x.Queue))
		}
		did += j.Machine.Used - was.Machine.Used
	}
	if did > quantum || len(next.Queue) > 0 && did != quantum || next.Fuel != x.Fuel+did || !impl.TenantOK(next) {
		t.Errorf("by %d they did %d, and Fuel is %d, was %d: %s", quantum, did, next.Fuel, x.Fuel, toldTenant(next))
	}
	for _, j := range over {
		if !j.Begun || j.Machine.State == impl.MaRun || len(j.Machine.Frames) > 0 {
			t.Errorf("told to be over:%s", toldJobs(over))
		}
	}
}

// A job takes 2 instructions here, so each quantum can be reckoned by hand.
func TestAQuantumThatJobsShare(t *testing.T) {
	const source = "return path;"
	for _, c := range []struct {
		count, quantum int
		over           int
		begun          int // of the first job that is left, how many instructions; -1 if it has not Begun
	}{
		{0, 1, 0, -1}, {0, 1000, 0, -1},
		{1, 1, 0, 1}, {1, 2, 1, -1}, {1, 3, 1, -1}, {1, 1000, 1, -1},
		{2, 1, 0, 1}, {2, 2, 1, -1}, {2, 3, 1, 1}, {2, 4, 2, -1}, {2, 5, 2, -1},
		{3, 1, 0, 1}, {3, 2, 1, -1}, {3, 3, 1, 1}, {3, 4, 2, -1}, {3, 5, 2, 1}, {3, 6, 3, -1}, {3, 7, 3, -1},
		{4, 1, 0, 1}, {4, 2, 1, -1}, {4, 3, 1, 1}, {4, 4, 2, -1}, {4, 5, 2, 1}, {4, 6, 3, -1}, {4, 7, 3, 1}, {4, 8, 4, -1}, {4, 9, 4, -1}, {4, 1000, 4, -1},
	} {
		x := tenantWith(t, source, []string{"/a", "/b", "/c", "/d"}[:c.count]...)
		next, over := wantTurn(t, x, c.quantum)
		what := fmt.Sprintf("%d jobs by %d", c.count, c.quantum)
		if len(over) != c.over || len(next.Queue) != c.count-c.over || next.Fuel != min(c.quantum, 2*c.count) {
			t.Errorf("%s: %s; over%s", what, toldTenant(next), toldJobs(over))
		}
		for k, j := range over {
			if j.Id != 10+k || j.Machine.State != impl.MaDone || j.Machine.Value != word(j.Path) || j.Machine.Used != 2 || !j.Begun {
				t.Errorf("%s: over%s", what, toldJobs(over))
			}
		}
		for k, j := range next.Queue {
			if begun := k == 0 && c.begun >= 0; j.Begun != begun || j.Machine.Used != max(c.begun, 0)*map[bool]int{true: 1}[begun] {
				t.Errorf("%s: %s", what, toldTenant(next))
			}
			if !j.Begun && !sameJob(j, x.Queue[c.over+k]) {
				t.Errorf("%s: a job that has not Begun is another one: %s", what, toldTenant(next))
			}
		}
		wantTenantAnswers(t, next)
	}
}

// Each quantum, in one turn, of jobs that end, that throw and that never end, alone and one behind another.
func TestEachQuantum(t *testing.T) {
	t.Parallel()
	for _, paths := range [][]string{{"/a"}, {"/t"}, {"/r"}, {"/s"}, {"/a", "/t"}, {"/t", "/a"}, {"/r", "/s"}, {"/s", "/a"}, {"/a", "/t", "/r", "/a"}, {"/t", "/t", "/s", "/a"}, {"/r", "/a", "/t", "/s"}, {"", "/s", "", ""}} {
		x := tenantWith(t, mixedSource, paths...)
		for quantum := 1; quantum <= 230; quantum++ {
			next, over := wantTurn(t, x, quantum)
			wantQuantumKept(t, x, next, over, quantum)
			if t.Failed() {
				return
			}
		}
		for _, quantum := range []int{500, 999, 1000} {
			next, over := wantTurn(t, x, quantum)
			wantQuantumKept(t, x, next, over, quantum)
		}
	}
}

func TestWrongQuanta(t *testing.T) {
	for _, x := range []impl.Tenant{tenantWith(t, mixedSource), tenantWith(t, mixedSource, "/a", "/s"), wantMade(t, "bad", "#")} {
		for _, quantum := range []int{1, 2, 1000} {
			if _, _, code := impl.TenantRun(x, quantum); code != impl.OK {
				t.Errorf("TenantRun by %d: %d", quantum, code)
			}
		}
		for _, quantum := range []int{0, -1, 1001, -1000, 20000, 1 << 32, 1<<32 + 1, -1 << 32, math.MinInt, math.MaxInt} {
			next, over, code := impl.TenantRun(x, quantum)
			wantTenant(t, fmt.Sprintf("TenantRun by %d", quantum), next, code, impl.Tenant{}, impl.ErrRange)
			wantJobs(t, "TenantRun", over, nil)
			next, over, code = impl.TenantRun(impl.Tenant{}, quantum)
			wantTenant(t, "a wrong tenant comes first", next, code, impl.Tenant{}, impl.ErrBad)
			wantJobs(t, "TenantRun", over, nil)
		}
	}
}

// However a tenant's instructions are parted into turns it comes to the same, and tells the same jobs in the same order.
func TestQuantaSplitInTwoAndThree(t *testing.T) {
	t.Parallel()
	for _, paths := range [][]string{{"/a", "/t", "/r", "/a"}, {"/t", "/a", "/s", "/a"}} {
		x := tenantWith(t, mixedSource, paths...)
		for _, sum := range []int{2, 29, 60, 97, 160} {
			whole, over := turns(t, x, sum)
			for first := 1; first < sum; first++ {
				next, told := turns(t, x, first, sum-first)
				wantTenant(t, fmt.Sprintf("%d and %d", first, sum-first), next, impl.OK, whole, impl.OK)
				wantJobs(t, "in two turns", told, over)
				if second := (sum - first) / 2; second > 0 {
					next, told = turns(t, x, first, second, sum-first-second)
					wantTenant(t, "in three turns", next, impl.OK, whole, impl.OK)
					wantJobs(t, "in three turns", told, over)
				}
			}
			next, told := turns(t, x, slices.Repeat([]int{1}, sum)...)
			wantTenant(t, "by one each", next, impl.OK, whole, impl.OK)
			wantJobs(t, "by one each", told, over)
			if t.Failed() {
				return
			}
		}
	}
}

// What is told of the jobs is what their source means, in their order, whatever the quantum.
func TestTenantsAnswerAsTheirSourcesMean(t *testing.T) {
	t.Parallel()
	paths := []string{"/p", "", "/", "/p"}
	for _, c := range outcomes() {
		for _, quantum := range []int{1, 2, 3, 5, 17, 40, 1000} {
			x := tenantWith(t, c.source, paths...)
			var over []impl.Job
			for turn := 0; len(x.Queue) > 0 && turn < 2000; turn++ {
				next, told := turns(t, x, quantum)
				x, over = next, append(over, told...)
			}
			if len(over) != 4 {
				t.Fatalf("%q by %d: only%s", c.source, quantum, toldJobs(over))
			}
			fuel := 0
			for k, j := range over {
				wantReplyMeant(t, c.source, paths[k], j)
				if j.Path != paths[k] || j.Id != 10+k {
					t.Errorf("%q by %d: job %d is%s", c.source, quantum, k, toldJobs(over[k:k+1]))
				}
				alone, _ := impl.RunSource(c.source, j.Path, 20000)
				wantMachine(t, c.source, j.Machine, impl.OK, alone, impl.OK)
				fuel += alone.Used
			}
			if x.Fuel != fuel {
				t.Errorf("%q by %d: Fuel %d, want %d", c.source, quantum, x.Fuel, fuel)
			}
			wantOutcome(t, over[0].Machine, c.want, impl.OK)
		}
	}
}

// wantReplyMeant holds a job that is over against EvalSource; it answers nothing of sources that take more steps than that does.
func wantReplyMeant(t *testing.T, source, path string, j impl.Job) {
	t.Helper()
	meant, code := impl.EvalSource(source, path)
	if code == impl.ErrFuel {
		return
	}
	status, body, replyCode := impl.JobReply(j)
	want := map[int]int{impl.MaDone: 200, impl.MaThrew: 500}[meant.State]
	if code != impl.OK || replyCode != impl.OK || status != want || body != textWanted(meant.Value) || !impl.SameOutcome(meant, j.Machine) {
		t.Errorf("JobReply of %q, %q = %d, %q, %d; it means %s", source, path, status, body, replyCode, outcomeTold(meant))
	}
}

// A job that never ends keeps the others waiting, and does all that each turn has.
func TestJobsThatNeverEnd(t *testing.T) {
	x := tenantWith(t, spinsSource, "/a", "/b")
	x.Fuel = 3
	for turn := 1; turn <= 1100; turn++ {
		next, over, code := impl.TenantRun(x, 1000)
		if code != impl.OK || len(over) != 0 || len(next.Queue) != 2 || next.Queue[1].Begun || next.Fuel != 3+1000*turn || next.Queue[0].Machine.Used != min(1000*turn, 1000000) {
			t.Fatalf("turn %d: %s, %d", turn, toldTenant(next), code)
		}
		x = next
	}
	// Its machine has ceased to count, and is right still.
	wantTenantAnswers(t, x)
	wantJobReply(t, x.Queue[0])
}

// Fuel grows by the instructions that were done, even if the machine has ceased to count them.
func TestFuelOfMachinesThatDoNotCount(t *testing.T) {
	for _, used := range []int{0, 999990, 999999, 1000000} {
		x := tenantWith(t, "let x = 0; while (x < 9) { x = x + 1; } return x;", "/a", "/b")
		whole, _ := impl.RunSource(x.Source, "/a", 20000)
		x, _ = turns(t, x, 1)
		x.Queue[0].Machine.Used = used
		for quantum := 1; quantum <= 2*whole.Used+2; quantum++ {
			next, over := wantTurn(t, x, quantum)
			if next.Fuel != 1+min(quantum, 2*whole.Used-1) || len(over) != (1+min(quantum, 2*whole.Used-1))/whole.Used {
				t.Errorf("used %d, by %d: %s; over%s", used, quantum, toldTenant(next), toldJobs(over))
			}
		}
	}
}

// Fuel is 1000000000 at most; the jobs go on all the same.
func TestHowMuchFuelATenantMayHave(t *testing.T) {
	for _, fuel := range []int{0, 1, 999999990, 999999998, 999999999, 1000000000} {
		x := tenantWith(t, mixedSource, "/a", "/s")
		x.Fuel = fuel
		for quantum := 1; quantum <= 60; quantum++ {
			next, _ := wantTurn(t, x, quantum)
			if next.Fuel != min(fuel+quantum, 1000000000) || !impl.TenantOK(next) {
				t.Errorf("Fuel %d, by %d: %s", fuel, quantum, toldTenant(next))
			}
		}
		wantTenantAnswers(t, x)
		x.Queue = nil
		if next, _ := wantTurn(t, x, 1000); next.Fuel != fuel {
			t.Errorf("Fuel %d without jobs: %s", fuel, toldTenant(next))
		}
	}
	for _, fuel := range []int{-1, 1000000001, 1 << 32, -1 << 32, math.MinInt, math.MaxInt} {
		x := tenantWith(t, mixedSource, "/a")
		x.Fuel = fuel
		wantWrongTenant(t, fmt.Sprintf("Fuel %d", fuel), x)
		x = wantMade(t, "bad", "#")
		x.Fuel = fuel
		wantWrongTenant(t, fmt.Sprintf("Fuel %d", fuel), x)
	}
}

// Jobs join and go while others have Begun: each is answered as its source means, and as if no other was there.
func TestJobsAdmittedBetweenTurns(t *testing.T) {
	for quantum := 1; quantum <= 50; quantum++ {
		x := wantMade(t, "one", mixedSource)
		var over []impl.Job
		for id := 0; len(over) < 20; id++ {
			j := impl.Job{Id: id, Conn: id % 8, Seq: id, Path: []string{"/a", "/t", "/r", "", "/b"}[id%5], Since: id}
			next, code := wantAdmit(t, x, j, 3)
			for code == impl.ErrFull {
				told := []impl.Job(nil)
				x, told = turns(t, x, quantum)
				over = append(over, told...)
				next, code = wantAdmit(t, x, j, 3)
			}
			x = next
		}
		for id, j := range over {
			if j.Id != id {
				t.Errorf("by %d: job %d is%s", quantum, id, toldJobs(over[id:id+1]))
			}
			wantReplyMeant(t, mixedSource, j.Path, j)
		}
	}
}
