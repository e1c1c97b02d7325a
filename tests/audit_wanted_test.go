package tests

import (
	"slices"
	"testing"

	"loop.example/g00370/impl"
)

// This is chapter 15 reckoned once more: each job is held against all those behind it.

func jobsHoldWanted(h impl.Host) (bool, int) {
	if !rightHost(h) {
		return false, impl.ErrBad
	}
	for _, x := range h.Tenants {
		for k, j := range x.Queue {
			if slices.ContainsFunc(x.Queue[k+1:], func(later impl.Job) bool { return later.Id <= j.Id || later.Since < j.Since }) {
				return false, impl.OK
			}
		}
	}
	return true, impl.OK
}

func oldestWanted(h impl.Host) (int, int) {
	if !rightHost(h) {
		return 0, impl.ErrBad
	}
	waits := []int{0}
	for _, x := range h.Tenants {
		for _, j := range x.Queue {
			waits = append(waits, h.Now-j.Since)
		}
	}
	return slices.Max(waits), impl.OK
}

func fuelWanted(h impl.Host) ([]int, int) {
	if !rightHost(h) {
		return nil, impl.ErrBad
	}
	list := make([]int, len(h.Tenants))
	for k := range list {
		list[k] = h.Tenants[k].Fuel
	}
	return list, impl.OK
}

// pendingWanted goes by the jobs: in a right host each slot that waits has one.
func pendingWanted(h impl.Host, k int) (int, int) {
	if code := hostFault(h, k); code != impl.OK {
		return 0, code
	}
	count := 0
	for _, x := range h.Tenants {
		for _, j := range x.Queue {
			if j.Conn == k {
				count++
			}
		}
	}
	return count, impl.OK
}

// audited is what the audit tells of a right host.
type audited struct {
	hold    bool
	oldest  int
	fuel    []int
	pending [4]int
}

func (a audited) isLike(b audited) bool {
	return a.hold == b.hold && a.oldest == b.oldest && slices.Equal(a.fuel, b.fuel) && a.pending == b.pending
}

func wantJobsHold(t *testing.T, h impl.Host) bool {
	t.Helper()
	got, code := impl.JobsHold(h)
	if want, wantCode := jobsHoldWanted(h); got != want || code != wantCode {
		t.Errorf("JobsHold = %v, %d; want %v, %d:\n%s", got, code, want, wantCode, toldHost(h))
	}
	return got
}

func wantOldestWait(t *testing.T, h impl.Host) int {
	t.Helper()
	got, code := impl.OldestWait(h)
	if want, wantCode := oldestWanted(h); got != want || code != wantCode {
		t.Errorf("OldestWait = %d, %d; want %d, %d:\n%s", got, code, want, wantCode, toldHost(h))
	}
	return got
}

func wantFuelOf(t *testing.T, h impl.Host) []int {
	t.Helper()
	got, code := impl.FuelOf(h)
	if want, wantCode := fuelWanted(h); !slices.Equal(got, want) || code != wantCode {
		t.Errorf("FuelOf = %v, %d; want %v, %d:\n%s", got, code, want, wantCode, toldHost(h))
	}
	return got
}

func wantPendingOf(t *testing.T, h impl.Host, k int) int {
	t.Helper()
	got, code := impl.PendingOf(h, k)
	if want, wantCode := pendingWanted(h, k); got != want || code != wantCode {
		t.Errorf("PendingOf of %d = %d, %d; want %d, %d:\n%s", k, got, code, want, wantCode, toldHost(h))
	}
	return got
}

// wantAudit holds the audit of a host, right or not, against what is reckoned here.
func wantAudit(t *testing.T, h impl.Host) audited {
	t.Helper()
	got := audited{hold: wantJobsHold(t, h), oldest: wantOldestWait(t, h), fuel: wantFuelOf(t, h)}
	for k := range 4 {
		got.pending[k] = wantPendingOf(t, h, k)
	}
	return got
}

// wantAuditIs has the audit told by hand, too.
func wantAuditIs(t *testing.T, what string, h impl.Host, want audited) {
	t.Helper()
	if got := wantAudit(t, h); !got.isLike(want) {
		t.Errorf("%s: the audit tells %+v; want %+v:\n%s", what, got, want, toldHost(h))
	}
}

// wantNothingAudited: all four calls have ErrBad, and nothing else is told.
func wantNothingAudited(t *testing.T, what string, h impl.Host) {
	t.Helper()
	if hold, code := impl.JobsHold(h); hold || code != impl.ErrBad {
		t.Errorf("JobsHold with %s = %v, %d", what, hold, code)
	}
	if oldest, code := impl.OldestWait(h); oldest != 0 || code != impl.ErrBad {
		t.Errorf("OldestWait with %s = %d, %d", what, oldest, code)
	}
	if fuel, code := impl.FuelOf(h); len(fuel) != 0 || code != impl.ErrBad {
		t.Errorf("FuelOf with %s = %v, %d", what, fuel, code)
	}
	for _, k := range placesToAsk() {
		if count, code := impl.PendingOf(h, k); count != 0 || code != impl.ErrBad {
			t.Errorf("PendingOf of %d with %s = %d, %d", k, what, count, code)
		}
	}
}
