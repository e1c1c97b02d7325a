package tests

import (
	"fmt"
	"math"
	"slices"
	"testing"

	"loop.example/g00370/impl"
)

// Of a host that is not right nothing is told, be the connection one that is not there: ErrBad comes ahead of ErrRange.
func TestAuditsOfHostsThatAreWrong(t *testing.T) {
	wantNothingAudited(t, "nothing at all", impl.Host{})
	for name, right := range madeHosts(t) {
		for what, spoil := range map[string]func(h *impl.Host){
			"no Config":           func(h *impl.Host) { h.Config = impl.Config{} },
			"Turn -1":             func(h *impl.Host) { h.Turn = -1 },
			"Turn 4":              func(h *impl.Host) { h.Turn = 4 },
			"Now -1":              func(h *impl.Host) { h.Now = -1 },
			"a great Now":         func(h *impl.Host) { h.Now = math.MaxInt },
			"Ids -1":              func(h *impl.Host) { h.Ids = -1 },
			"no tenants":          func(h *impl.Host) { h.Tenants = nil },
			"five tenants":        func(h *impl.Host) { h.Tenants = slices.Repeat(h.Tenants, 5) },
			"a wrong last tenant": func(h *impl.Host) { h.Tenants[len(h.Tenants)-1].Fuel = -1 },
			"a name twice":        func(h *impl.Host) { h.Tenants = append(h.Tenants, h.Tenants[0]) },
			"no connections":      func(h *impl.Host) { h.Conns = nil },
			"three connections":   func(h *impl.Host) { h.Conns = h.Conns[:3] },
			"five connections":    func(h *impl.Host) { h.Conns = append(h.Conns, impl.Conn{}) },
			"a wrong connection":  func(h *impl.Host) { h.Conns[3].Next = -1 },
			"a slot without a job": func(h *impl.Host) {
				c := &h.Conns[3]
				c.Open, c.Ending, c.Slots, c.Next = true, false, append(c.Slots, impl.Slot{Seq: c.Next}), c.Next+1
			},
			"a job without a slot": func(h *impl.Host) {
				h.Tenants[0].Queue, h.Ids = []impl.Job{{Id: h.Ids, Conn: 3, Seq: 99999, Since: h.Now}}, h.Ids+1
			},
		} {
			h := cloneHost(right)
			spoil(&h)
			if impl.HostOK(h) || rightHost(h) {
				t.Errorf("%s with %s is right:\n%s", name, what, toldHost(h))
			}
			wantNothingAudited(t, name+" with "+what, h)
		}
	}
}

// Each fault of a job, in the first, a middle and the last place of each tenant: nothing is told of the others either.
func TestAuditsOfJobsThatAreWrong(t *testing.T) {
	full := fullHost(t)
	for k := range 4 {
		for i := range 4 {
			for what, spoil := range map[string]func(j *impl.Job){
				"an Id below 0":         func(j *impl.Job) { j.Id = -1 },
				"an Id that is Ids":     func(j *impl.Job) { j.Id = full.Ids },
				"another's Id":          func(j *impl.Job) { j.Id = (j.Id + 1) % full.Ids },
				"a Since ahead":         func(j *impl.Job) { j.Since = full.Now + 1 },
				"a Since below 0":       func(j *impl.Job) { j.Since = -1 },
				"another connection":    func(j *impl.Job) { j.Conn = (k + 1) % 4 },
				"no connection":         func(j *impl.Job) { j.Conn = 4 },
				"another number":        func(j *impl.Job) { j.Seq++ },
				"a number below 0":      func(j *impl.Job) { j.Seq = -1 },
				"a path too long":       func(j *impl.Job) { j.Path = longText[:61] },
				"a machine of no frame": func(j *impl.Job) { j.Begun, j.Machine = true, impl.Machine{State: impl.MaRun} },
			} {
				h := cloneHost(full)
				spoil(&h.Tenants[k].Queue[i])
				wantNothingAudited(t, fmt.Sprintf("%s of job %d of tenant %d", what, i, k), h)
			}
		}
	}
}

// auditHosts are right and wrong ones, with jobs that hold and with jobs that do not.
func auditHosts(t *testing.T) []impl.Host {
	t.Helper()
	falls, late := fullHost(t), fullHost(t)
	falls.Tenants[2].Queue[1].Id, falls.Tenants[2].Queue[2].Id = falls.Tenants[2].Queue[2].Id, falls.Tenants[2].Queue[1].Id
	late.Now = 10
	list := append(hostsToLookAt(t), fullHost(t), falls, late, impl.PlainHost(), impl.Host{})
	for k := range list {
		list[k] = cloneHost(list[k])
	}
	return list
}

// Neither the lists of a host, nor what stands behind their ends is written into.
func TestAuditsLeaveTheirHost(t *testing.T) {
	for _, h := range auditHosts(t) {
		if len(h.Tenants) > 0 {
			h = withAllBehind(h)
		}
		before := wholeHost(h)
		for _, k := range placesToAsk() {
			wantPendingOf(t, h, k)
		}
		wantAudit(t, h)
		if wholeHost(h) != before {
			t.Errorf("the audit wrote into\n%s", toldHost(h))
		}
	}
}

// What FuelOf answers is its caller's own: what is written into it, or behind its end, is not to be seen in the host, or in another answer.
func TestFuelsShareNothing(t *testing.T) {
	for which, h := range auditHosts(t) {
		before := cloneHost(h)
		first, _ := impl.FuelOf(h)
		second, _ := impl.FuelOf(h)
		want := slices.Clone(second)
		list := append(hostSpans(h, nil), spanOf(first), spanOf(second))
		wantApart(t, fmt.Sprint("FuelOf of host ", which), slices.DeleteFunc(list, func(s span) bool { return s.from == s.to }))
		for k := range first[:cap(first)] {
			first[:cap(first)][k] = -7
		}
		if !slices.Equal(second, want) || !sameHost(h, before) {
			t.Errorf("FuelOf shares what it answers: %v, it was %v", second, want)
		}
		if third := wantFuelOf(t, h); !slices.Equal(third, want) {
			t.Errorf("FuelOf = %v, then %v", want, third)
		}
		// What becomes of the host does not show in what was answered.
		for k := range h.Tenants {
			h.Tenants[k].Fuel = 77
		}
		if !slices.Equal(second, want) {
			t.Errorf("FuelOf told %v, that has become %v", want, second)
		}
	}
}

// Without a code the answers of a host are the same, whether its lists are empty or nil.
func TestAuditsOfEmptyLists(t *testing.T) {
	for _, right := range []impl.Host{impl.PlainHost(), idleHost(t), fullHost(t)} {
		want := wantAudit(t, right)
		for _, empty := range []bool{true, false} {
			h := cloneHost(right)
			for k := range h.Tenants {
				h.Tenants[k].Queue = emptied(h.Tenants[k].Queue, empty)
			}
			for k := range h.Conns {
				h.Conns[k].Slots = emptied(h.Conns[k].Slots, empty)
			}
			wantAuditIs(t, fmt.Sprint("empty lists ", empty), h, want)
		}
	}
	for _, h := range []impl.Host{{Tenants: []impl.Tenant{}, Conns: []impl.Conn{}}, {Config: impl.Config{Room: 1, Quantum: 1, Wait: 1}, Conns: make([]impl.Conn, 4)}} {
		wantNothingAudited(t, "no tenants", h)
	}
}

// auditCalls are calls of chapter 15, ordinary and wrong ones.
func auditCalls() []func() string {
	var calls []func() string
	for _, acts := range scriptsToLookAt() {
		right, _, _, _ := impl.ActsRun(acts)
		falls, wrong := cloneHost(right), cloneHost(right)
		wrong.Ids = -1
		for _, x := range falls.Tenants {
			slices.Reverse(x.Queue)
			for k := range x.Queue {
				x.Queue[k].Begun, x.Queue[k].Machine = false, impl.Machine{}
			}
		}
		for _, h := range []impl.Host{right, falls, wrong} {
			calls = append(calls,
				func() string { return fmt.Sprint(impl.JobsHold(h)) },
				func() string { return fmt.Sprint(impl.OldestWait(h)) },
				func() string { return fmt.Sprint(impl.FuelOf(h)) })
			for _, k := range placesToAsk() {
				calls = append(calls, func() string { return fmt.Sprint(impl.PendingOf(h, k)) })
			}
		}
	}
	return calls
}
