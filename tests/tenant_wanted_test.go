package tests

import (
	"fmt"
	"math"
	"slices"
	"strings"
	"testing"

	"loop.example/g00370/impl"
)

// This is chapter 10 reckoned once more, instruction by instruction: no quantum is split here, and no list is written into.

func numbersWithin(least, most int, list ...int) bool {
	return slices.Min(list) >= least && slices.Max(list) <= most
}

// rightJob is of a job that has not Begun, or of one that has and may.
func rightJob(p impl.Program, j impl.Job, mayHaveBegun bool) bool {
	if !numbersWithin(0, 100000, j.Id, j.Seq, j.Since) || !numbersWithin(0, 7, j.Conn) || len(j.Path) > 60 {
		return false
	}
	if j.Begun {
		return mayHaveBegun && j.Machine.State == impl.MaRun && rightMachine(p, j.Machine)
	}
	return sameMachine(j.Machine, impl.Machine{})
}

// rightTenant is TenantOK of the tests' own.
func rightTenant(x impl.Tenant) bool {
	if !impl.NameOK(x.Name) || len(x.Name) > 8 || len(x.Source) > 600 || !numbersWithin(0, 1000000000, x.Fuel) {
		return false
	}
	p, code := impl.CompileSource(x.Source)
	if code != impl.OK {
		return x.State == impl.TeFailed && len(x.Program.Funcs) == 0 && len(x.Queue) == 0
	}
	if x.State != impl.TeReady || !sameProgram(p, x.Program) || len(x.Queue) > 4 {
		return false
	}
	for k, j := range x.Queue {
		if !rightJob(p, j, k == 0) {
			return false
		}
	}
	return true
}

func tenantWanted(name, source string) (impl.Tenant, int) {
	switch {
	case len(name) > 65536 || len(source) > 65536:
		return impl.Tenant{}, impl.ErrLong
	case !impl.NameOK(name) || len(name) > 8 || len(source) > 600:
		return impl.Tenant{}, impl.ErrRange
	}
	if p, code := impl.CompileSource(source); code == impl.OK {
		return impl.Tenant{Name: name, Source: source, State: 1, Program: p}, impl.OK
	}
	return impl.Tenant{Name: name, Source: source, State: 2}, impl.OK
}

func admitWanted(x impl.Tenant, j impl.Job, room int) (impl.Tenant, int) {
	switch {
	case !rightTenant(x) || !rightJob(x.Program, j, false):
		return impl.Tenant{}, impl.ErrBad
	case room < 0 || room > 4:
		return impl.Tenant{}, impl.ErrRange
	case x.State == impl.TeFailed:
		return x, impl.ErrForm
	case len(x.Queue) >= room:
		return x, impl.ErrFull
	}
	x.Queue = joined(x.Queue, j)
	return x, impl.OK
}

func turnWanted(x impl.Tenant, quantum int) (impl.Tenant, []impl.Job, int) {
	switch {
	case !rightTenant(x):
		return impl.Tenant{}, nil, impl.ErrBad
	case quantum < 1 || quantum > 1000:
		return impl.Tenant{}, nil, impl.ErrRange
	}
	var over []impl.Job
	for range quantum {
		if len(x.Queue) == 0 {
			break
		}
		j, others := x.Queue[0], x.Queue[1:]
		if !j.Begun {
			j.Begun = true
			j.Machine = impl.Machine{State: impl.MaRun, Frames: []impl.CallFrame{frameWanted(x.Program, 0, []impl.Value{word(j.Path)})}}
		}
		j.Machine = stepWanted(x.Program, j.Machine)
		x.Fuel = min(x.Fuel+1, 1000000000)
		if j.Machine.State == impl.MaRun {
			x.Queue = joined([]impl.Job{j}, others...)
		} else {
			x.Queue, over = others, append(over, j)
		}
	}
	return x, over, impl.OK
}

func expireWanted(x impl.Tenant, now, wait int) (impl.Tenant, []impl.Job, int) {
	switch {
	case !rightTenant(x):
		return impl.Tenant{}, nil, impl.ErrBad
	case now < 0 || now > 100000 || wait < 1 || wait > 1000:
		return impl.Tenant{}, nil, impl.ErrRange
	}
	late := func(j impl.Job) bool { return j.Since+wait <= now }
	gone := slices.DeleteFunc(slices.Clone(x.Queue), func(j impl.Job) bool { return !late(j) })
	x.Queue = slices.DeleteFunc(slices.Clone(x.Queue), late)
	return x, gone, impl.OK
}

func dropWanted(x impl.Tenant, conn int) (impl.Tenant, int) {
	if !rightTenant(x) {
		return impl.Tenant{}, impl.ErrBad
	}
	x.Queue = slices.DeleteFunc(slices.Clone(x.Queue), func(j impl.Job) bool { return j.Conn == conn })
	return x, impl.OK
}

func pathsWanted(x impl.Tenant) ([]string, int) {
	if !rightTenant(x) {
		return nil, impl.ErrBad
	}
	var paths []string
	for _, j := range x.Queue {
		paths = append(paths, j.Path)
	}
	return paths, impl.OK
}

func jobReplyWanted(j impl.Job) (int, string, int) {
	status, found := map[int]int{impl.MaRun: 0, impl.MaDone: 200, impl.MaThrew: 500}[j.Machine.State]
	switch {
	case !found || !impl.ValueOK(j.Machine.Value):
		return 0, "", impl.ErrBad
	case status == 0:
		return 0, "", impl.ErrFuel
	}
	return status, textWanted(j.Machine.Value), impl.OK
}

func sameJob(a, b impl.Job) bool {
	return a.Id == b.Id && a.Conn == b.Conn && a.Seq == b.Seq && a.Path == b.Path && a.Since == b.Since && a.Begun == b.Begun && sameMachine(a.Machine, b.Machine)
}

func sameJobs(a, b []impl.Job) bool { return slices.EqualFunc(a, b, sameJob) }

func sameTenant(a, b impl.Tenant) bool {
	return a.Name == b.Name && a.Source == b.Source && a.State == b.State && a.Fuel == b.Fuel && sameProgram(a.Program, b.Program) && sameJobs(a.Queue, b.Queue)
}

// cloneJobs leaves room behind each list, so that what is written there can be seen.
func cloneJobs(list []impl.Job) []impl.Job {
	list = append(make([]impl.Job, 0, len(list)+2), list...)
	for k := range list {
		list[k].Machine = cloneMachine(list[k].Machine)
	}
	return list
}

func cloneTenant(x impl.Tenant) impl.Tenant {
	x.Program, x.Queue = cloneProgram(x.Program), cloneJobs(x.Queue)
	return x
}

func toldJobs(list []impl.Job) string {
	var told strings.Builder
	for _, j := range list[:min(len(list), 6)] {
		fmt.Fprintf(&told, " <%d conn %d seq %d %.70q since %d", j.Id, j.Conn, j.Seq, j.Path, j.Since)
		if j.Begun || !sameMachine(j.Machine, impl.Machine{}) {
			fmt.Fprintf(&told, " begun %v %s", j.Begun, toldMachine(j.Machine))
		}
		told.WriteString(">")
	}
	return told.String()
}

// toldTenant is brief, so that a failed test stays readable.
func toldTenant(x impl.Tenant) string {
	return fmt.Sprintf("%.20q %.100q state %d fuel %d, %d functions, %d jobs:%s", x.Name, x.Source, x.State, x.Fuel, len(x.Program.Funcs), len(x.Queue), toldJobs(x.Queue))
}

func wantTenant(t *testing.T, what string, got impl.Tenant, code int, want impl.Tenant, wantCode int) {
	t.Helper()
	if !sameTenant(got, want) || code != wantCode {
		t.Errorf("%.100s:\n%s, %d; want\n%s, %d", what, toldTenant(got), code, toldTenant(want), wantCode)
	}
}

func wantJobs(t *testing.T, what string, got, want []impl.Job) {
	t.Helper()
	if !sameJobs(got, want) {
		t.Errorf("%.100s: the jobs%s; want%s", what, toldJobs(got), toldJobs(want))
	}
}

func wantMade(t *testing.T, name, source string) impl.Tenant {
	t.Helper()
	x, code := impl.MakeTenant(name, source)
	want, wantCode := tenantWanted(name, source)
	wantTenant(t, fmt.Sprintf("MakeTenant of %.20q, %.60q", name, source), x, code, want, wantCode)
	return x
}

func wantAdmit(t *testing.T, x impl.Tenant, j impl.Job, room int) (impl.Tenant, int) {
	t.Helper()
	got, code := impl.TenantAdmit(x, j, room)
	want, wantCode := admitWanted(x, j, room)
	wantTenant(t, fmt.Sprintf("TenantAdmit of%s with room %d", toldJobs([]impl.Job{j}), room), got, code, want, wantCode)
	return got, code
}

func wantTurn(t *testing.T, x impl.Tenant, quantum int) (impl.Tenant, []impl.Job) {
	t.Helper()
	got, over, code := impl.TenantRun(x, quantum)
	want, wantOver, wantCode := turnWanted(x, quantum)
	what := fmt.Sprintf("TenantRun by %d", quantum)
	wantTenant(t, what, got, code, want, wantCode)
	wantJobs(t, what, over, wantOver)
	return got, over
}

func wantExpire(t *testing.T, x impl.Tenant, now, wait int) (impl.Tenant, []impl.Job) {
	t.Helper()
	got, gone, code := impl.TenantExpire(x, now, wait)
	want, wantGone, wantCode := expireWanted(x, now, wait)
	what := fmt.Sprintf("TenantExpire at %d with %d", now, wait)
	wantTenant(t, what, got, code, want, wantCode)
	wantJobs(t, what, gone, wantGone)
	return got, gone
}

func wantDrop(t *testing.T, x impl.Tenant, conn int) impl.Tenant {
	t.Helper()
	got, code := impl.TenantDrop(x, conn)
	want, wantCode := dropWanted(x, conn)
	wantTenant(t, fmt.Sprintf("TenantDrop of %d", conn), got, code, want, wantCode)
	return got
}

func wantPaths(t *testing.T, x impl.Tenant) {
	t.Helper()
	got, code := impl.QueuePaths(x)
	want, wantCode := pathsWanted(x)
	if !slices.Equal(got, want) || code != wantCode {
		t.Errorf("QueuePaths of %s = %q, %d; want %q, %d", toldTenant(x), got, code, want, wantCode)
	}
}

func wantJobReply(t *testing.T, j impl.Job) {
	t.Helper()
	status, body, code := impl.JobReply(j)
	wantStatus, wantBody, wantCode := jobReplyWanted(j)
	if status != wantStatus || body != wantBody || code != wantCode {
		t.Errorf("JobReply of%s = %d, %q, %d; want %d, %q, %d", toldJobs([]impl.Job{j}), status, body, code, wantStatus, wantBody, wantCode)
	}
}

// wantTenantAnswers holds all calls of a tenant, right or not, against what is reckoned here.
func wantTenantAnswers(t *testing.T, x impl.Tenant) {
	t.Helper()
	given := cloneTenant(x)
	if right := rightTenant(x); impl.TenantOK(x) != right {
		t.Errorf("TenantOK of %s = %v; program %s", toldTenant(x), !right, briefProgram(x.Program))
		return
	}
	for _, room := range []int{4, 0, 1, 2, 3, -1, 5, math.MinInt, math.MaxInt} {
		wantAdmit(t, x, impl.Job{Id: 100000, Conn: 7, Seq: 100000, Path: strings.Repeat("p", 60), Since: 100000}, room)
	}
	wantAdmit(t, x, impl.Job{}, 4)
	wantAdmit(t, x, impl.Job{Id: -1}, 4)
	for _, quantum := range []int{1, 2, 9, 60, 0, -1, 1001, math.MinInt, math.MaxInt} {
		wantTurn(t, x, quantum)
	}
	for _, times := range [][2]int{{0, 1}, {5, 2}, {1000, 1000}, {100000, 1}, {100000, 1000}, {-1, 1}, {100001, 1}, {0, 0}, {0, 1001}, {math.MinInt, math.MaxInt}} {
		wantExpire(t, x, times[0], times[1])
	}
	for _, conn := range []int{0, 1, 2, 7, 8, -1, math.MinInt, math.MaxInt} {
		wantDrop(t, x, conn)
	}
	wantPaths(t, x)
	if len(x.Queue) > 0 {
		wantJobReply(t, x.Queue[0])
	}
	if !sameTenant(x, given) {
		t.Errorf("a call changed its tenant: %s, was %s", toldTenant(x), toldTenant(given))
	}
}
