package tests

import (
	"fmt"
	"math"
	"slices"
	"strings"
	"testing"

	"loop.example/g00370/impl"
)

// wantNothingOfHost: all calls have that code, and nothing else is told.
func wantNothingOfHost(t *testing.T, what string, h impl.Host) {
	t.Helper()
	if impl.HostOK(h) || rightHost(h) {
		t.Errorf("HostOK with %s:\n%s", what, toldHost(h))
	}
	for _, k := range []int{0, 1, 3, -1, 4} {
		got, code := impl.HostOpen(h, k)
		wantHost(t, what+", opened", got, code, impl.Host{}, impl.ErrBad)
		got, code = impl.HostClose(h, k)
		wantHost(t, what+", closed", got, code, impl.Host{}, impl.ErrBad)
		got, sent, code := impl.HostBytes(h, k, "x")
		wantHappened(t, what+", bytes", happened{got, sent, code}, happened{code: impl.ErrBad})
		if word, code := impl.ConnWord(h, k); word != "" || code != impl.ErrBad {
			t.Errorf("ConnWord with %s = %q, %d", what, word, code)
		}
	}
	got, sent, code := impl.HostTick(h)
	wantHappened(t, what+", a tick", happened{got, sent, code}, happened{code: impl.ErrBad})
	for _, a := range someActs() {
		got, sent, code := impl.ActDo(h, a)
		wantHappened(t, what+", "+toldAct(a), happened{got, sent, code}, happened{code: impl.ErrBad})
	}
	if k, code := impl.TurnOf(h); k != 0 || code != impl.ErrBad {
		t.Errorf("TurnOf with %s = %d, %d", what, k, code)
	}
	x, code := impl.TenantAt(h, "one")
	wantTenant(t, what+", a tenant", x, code, impl.Tenant{}, impl.ErrBad)
	wantNothingAudited(t, what, h)
}

// busyHost has jobs of all kinds, on connections of all kinds: 0 has slots that are Ready and slots that are not, and bytes; 1 ends; 2 waits; 3 was closed.
func busyHost(t *testing.T) impl.Host {
	t.Helper()
	s := newScene(t, impl.Config{Room: 3, Quantum: 25, Wait: 10}, "one", "function f(a) { let b = a; while (true) { b = b + 1; } } try { let c = 2; return 1 + f(c); } catch (e) { return e; }", "two", quickSource, "bad", wrongSource, "three", spinsSource)
	s.open(3)
	s.get(3, "/none", out(3, reply(404, "none")))
	s.shut(3)
	s.tick()
	s.open(0, 1, 2)
	s.get(0, "/one/0")
	s.tick()
	s.get(2, "/three/0")
	s.tick()
	s.bytes(0, requestsOf("/none/1", "/two/2", "/one/3", "/bad")+"GET /tw")
	s.bytes(1, requestsOf("/one/0")+requestOf("/three/1", true))
	s.jobs(3, 1, 0, 2)
	s.words("waiting ending waiting shut")
	if j := s.host.Tenants[0].Queue[0]; !j.Begun || len(j.Machine.Frames) != 2 || s.host.Now != 3 || s.host.Ids != 6 {
		t.Fatalf("the host is %s", toldHost(s.host))
	}
	return s.host
}

func TestABusyHost(t *testing.T) {
	wantHostAnswers(t, busyHost(t))
}

func TestHostsThatAreWrong(t *testing.T) {
	right := busyHost(t)
	for what, spoil := range map[string]func(h *impl.Host){
		"nothing at all":     func(h *impl.Host) { *h = impl.Host{} },
		"no Config":          func(h *impl.Host) { h.Config = impl.Config{} },
		"Room 0":             func(h *impl.Host) { h.Config.Room = 0 },
		"Room 5":             func(h *impl.Host) { h.Config.Room = 5 },
		"Quantum 0":          func(h *impl.Host) { h.Config.Quantum = 0 },
		"Quantum 1001":       func(h *impl.Host) { h.Config.Quantum = 1001 },
		"Wait 0":             func(h *impl.Host) { h.Config.Wait = 0 },
		"Wait 1001":          func(h *impl.Host) { h.Config.Wait = 1001 },
		"more than one job":  func(h *impl.Host) { h.Config.Room = 1 },
		"more than two jobs": func(h *impl.Host) { h.Config.Room = 2 },
		"a job that is late": func(h *impl.Host) { h.Config.Wait = 2 },

		"no tenants":                 func(h *impl.Host) { h.Tenants = nil },
		"no tenants, and no jobs":    func(h *impl.Host) { h.Tenants, h.Conns, h.Turn = nil, make([]impl.Conn, 4), 0 },
		"five tenants":               func(h *impl.Host) { h.Tenants = append(h.Tenants, wantMade(t, "five", "")) },
		"a tenant less, its slots":   func(h *impl.Host) { h.Tenants = h.Tenants[:3] },
		"a tenant that is zero":      func(h *impl.Host) { h.Tenants[2] = impl.Tenant{} },
		"a name twice":               func(h *impl.Host) { h.Tenants[2].Name = "one" },
		"the last name twice":        func(h *impl.Host) { h.Tenants[3].Name = "bad" },
		"the same tenant twice":      func(h *impl.Host) { h.Tenants[2] = wantMade(t, "two", quickSource) },
		"a tenant without a name":    func(h *impl.Host) { h.Tenants[1].Name = "" },
		"a tenant's name too long":   func(h *impl.Host) { h.Tenants[1].Name = "ninechars" },
		"a tenant's name great":      func(h *impl.Host) { h.Tenants[1].Name = longText },
		"another source":             func(h *impl.Host) { h.Tenants[1].Source = "return 1;" },
		"a great source":             func(h *impl.Host) { h.Tenants[2].Source = longText },
		"a failed one that is ready": func(h *impl.Host) { h.Tenants[2].State = impl.TeReady },
		"a ready one that failed":    func(h *impl.Host) { h.Tenants[1].State = impl.TeFailed },
		"no program":                 func(h *impl.Host) { h.Tenants[3].Program = impl.Program{} },
		"another program":            func(h *impl.Host) { h.Tenants[3].Program = h.Tenants[1].Program },
		"another instruction":        func(h *impl.Host) { h.Tenants[0].Program.Funcs[1].Code[0].N = 1 },
		"Fuel below 0":               func(h *impl.Host) { h.Tenants[0].Fuel = -1 },
		"too much Fuel":              func(h *impl.Host) { h.Tenants[2].Fuel = 1000000001 },
		"a machine without frames":   func(h *impl.Host) { h.Tenants[0].Queue[0].Machine.Frames = nil },
		"a machine that is done":     func(h *impl.Host) { h.Tenants[0].Queue[0].Machine = impl.Machine{State: impl.MaDone} },
		"a stack too high":           func(h *impl.Host) { h.Tenants[0].Queue[0].Machine.Frames[0].Stack = make([]impl.Value, 2) },
		"the begun job behind":       func(h *impl.Host) { slices.Reverse(h.Tenants[3].Queue) },
		"a second job has Begun":     func(h *impl.Host) { h.Tenants[0].Queue[1].Begun = true },
		"a job of 61 bytes":          func(h *impl.Host) { h.Tenants[1].Queue[0].Path = longText[:61] },
		"jobs of a failed one":       func(h *impl.Host) { h.Tenants[1].Queue, h.Tenants[2].Queue = nil, h.Tenants[1].Queue },

		"no connections":               func(h *impl.Host) { h.Conns = nil },
		"three connections":            func(h *impl.Host) { h.Conns = h.Conns[:3] },
		"five connections":             func(h *impl.Host) { h.Conns = append(h.Conns, impl.Conn{}) },
		"a connection with Next -1":    func(h *impl.Host) { h.Conns[3].Next = -1 },
		"a connection with 401 bytes":  func(h *impl.Host) { h.Conns[2].In = longText[:401] },
		"a closed one with bytes":      func(h *impl.Host) { h.Conns[3].In = "x" },
		"an ending one with bytes":     func(h *impl.Host) { h.Conns[1].In = "x" },
		"slots in another order":       func(h *impl.Host) { slices.Reverse(h.Conns[0].Slots) },
		"a slot above Next":            func(h *impl.Host) { h.Conns[0].Next = 3 },
		"a slot that waits with Text":  func(h *impl.Host) { h.Conns[0].Slots[0].Text = "x" },
		"a slot Ready without Text":    func(h *impl.Host) { h.Conns[0].Slots[1].Text = "" },
		"connections in another order": func(h *impl.Host) { slices.Reverse(h.Conns) },

		"Turn -1":        func(h *impl.Host) { h.Turn = -1 },
		"Turn 4":         func(h *impl.Host) { h.Turn = 4 },
		"a great Turn":   func(h *impl.Host) { h.Turn = math.MaxInt },
		"a least Turn":   func(h *impl.Host) { h.Turn = math.MinInt },
		"Now -1":         func(h *impl.Host) { h.Now = -1 },
		"Now 50001":      func(h *impl.Host) { h.Now = 50001 },
		"Now -1, idle":   func(h *impl.Host) { *h = idleHost(t); h.Now = -1 },
		"50001, idle":    func(h *impl.Host) { *h = idleHost(t); h.Now = 50001 },
		"Ids -1, idle":   func(h *impl.Host) { *h = idleHost(t); h.Ids = -1 },
		"100001, idle":   func(h *impl.Host) { *h = idleHost(t); h.Ids = 100001 },
		"Turn 4, idle":   func(h *impl.Host) { *h = idleHost(t); h.Turn = 4 },
		"Turn -1, idle":  func(h *impl.Host) { *h = idleHost(t); h.Turn = -1 },
		"Now too early":  func(h *impl.Host) { h.Now = 2 },
		"Now 0":          func(h *impl.Host) { h.Now = 0 },
		"Now too late":   func(h *impl.Host) { h.Now = 11 },
		"Now much later": func(h *impl.Host) { h.Now = 50000 },
		"Ids -1":         func(h *impl.Host) { h.Ids = -1 },
		"Ids 100001":     func(h *impl.Host) { h.Ids = 100001 },
		"Ids 0":          func(h *impl.Host) { h.Ids = 0 },
		"the last Id":    func(h *impl.Host) { h.Ids = 5 },

		"an Id twice, of one tenant":   func(h *impl.Host) { h.Tenants[0].Queue[2].Id = h.Tenants[0].Queue[0].Id },
		"an Id twice, side by side":    func(h *impl.Host) { h.Tenants[0].Queue[1].Id = h.Tenants[0].Queue[2].Id },
		"an Id twice, of two tenants":  func(h *impl.Host) { h.Tenants[1].Queue[0].Id = h.Tenants[3].Queue[1].Id },
		"an Id that is Ids":            func(h *impl.Host) { h.Tenants[1].Queue[0].Id = 6 },
		"an Id above Ids":              func(h *impl.Host) { h.Tenants[3].Queue[1].Id = 100000 },
		"an Id below 0":                func(h *impl.Host) { h.Tenants[3].Queue[1].Id = -1 },
		"a Since ahead of Now":         func(h *impl.Host) { h.Tenants[1].Queue[0].Since = 4 },
		"a Since much ahead":           func(h *impl.Host) { h.Tenants[0].Queue[2].Since = 100000 },
		"a Since Wait ahead":           func(h *impl.Host) { h.Now, h.Tenants[0].Queue[0].Since = 10, 0 },
		"a Since more ahead":           func(h *impl.Host) { h.Config.Wait, h.Tenants[3].Queue[0].Since = 3, 0 },
		"a Since below 0":              func(h *impl.Host) { h.Tenants[0].Queue[0].Since = -1 },
		"a job of a closed connection": func(h *impl.Host) { h.Tenants[0].Queue[0].Conn = 3 },
		"a job of another connection":  func(h *impl.Host) { h.Tenants[0].Queue[0].Conn = 1 },
		"a job of connection 4":        func(h *impl.Host) { h.Tenants[0].Queue[0].Conn = 4 },
		"a job of connection 7":        func(h *impl.Host) { h.Tenants[3].Queue[0].Conn = 7 },
		"a job of a Ready slot":        func(h *impl.Host) { h.Tenants[0].Queue[0].Seq = 1 },
		"a job of another's slot":      func(h *impl.Host) { h.Tenants[0].Queue[0].Seq = 2 },
		"a job of no slot":             func(h *impl.Host) { h.Tenants[0].Queue[0].Seq = 4 },
		"a job of a slot to come":      func(h *impl.Host) { h.Tenants[0].Queue[0].Seq = 5 },
		"two jobs change connections": func(h *impl.Host) {
			h.Tenants[0].Queue[0].Conn, h.Tenants[3].Queue[1].Conn = h.Tenants[3].Queue[1].Conn, h.Tenants[0].Queue[0].Conn
		},
		"a job less, the first":    func(h *impl.Host) { h.Tenants[0].Queue = h.Tenants[0].Queue[1:] },
		"a job less, the only one": func(h *impl.Host) { h.Tenants[1].Queue = nil },
		"no jobs": func(h *impl.Host) {
			for k := range h.Tenants {
				h.Tenants[k].Queue = nil
			}
		},
		"a job more, of a slot": func(h *impl.Host) {
			h.Ids, h.Tenants[1].Queue = 7, append(h.Tenants[1].Queue, impl.Job{Id: 6, Since: 3})
		},
		"a job more, of no slot": func(h *impl.Host) {
			h.Ids, h.Tenants[1].Queue = 7, append(h.Tenants[1].Queue, impl.Job{Id: 6, Conn: 2, Seq: 1, Since: 3})
		},
		"a job twice":                 func(h *impl.Host) { h.Tenants[1].Queue = append(h.Tenants[1].Queue, h.Tenants[1].Queue[0]) },
		"a slot less":                 func(h *impl.Host) { h.Conns[0].Slots = h.Conns[0].Slots[1:] },
		"another slot less":           func(h *impl.Host) { h.Conns[1].Slots = h.Conns[1].Slots[:1] },
		"no slots":                    func(h *impl.Host) { h.Conns[2].Slots = nil },
		"a slot that is answered":     func(h *impl.Host) { h.Conns[2].Slots[0] = impl.Slot{Ready: true, Text: "x"} },
		"a slot that is not any more": func(h *impl.Host) { h.Conns[0].Slots[1] = impl.Slot{Seq: 1} },
		"a slot more": func(h *impl.Host) {
			h.Conns[2].Slots, h.Conns[2].Next = append(h.Conns[2].Slots, impl.Slot{Seq: 1}), 2
		},
		"a slot below 0":                func(h *impl.Host) { h.Conns[2].Slots = slices.Insert(h.Conns[2].Slots, 0, impl.Slot{Seq: -1}) },
		"a closed connection with jobs": func(h *impl.Host) { h.Conns[2] = impl.Conn{Next: 1} },
	} {
		h := cloneHost(right)
		spoil(&h)
		wantNothingOfHost(t, what, h)
	}
}

// idleHost has a ready tenant and nothing to do.
func idleHost(t *testing.T) impl.Host {
	t.Helper()
	return newScene(t, impl.Config{Room: 1, Quantum: 1, Wait: 1}, "one", quickSource).host
}

// More than Room jobs wait, with all else as it should be.
func TestMoreJobsThanRoom(t *testing.T) {
	for count := 1; count <= 4; count++ {
		s := newScene(t, impl.Config{Room: 4, Quantum: 3, Wait: 9}, "one", quickSource, "two", quickSource)
		s.open(0)
		for k := range count {
			s.get(0, fmt.Sprintf("/two/%d", k))
		}
		for room := range 6 {
			h := s.host
			h.Config.Room = room
			if want := room >= count && room <= 4; impl.HostOK(h) != want || rightHost(h) != want {
				t.Errorf("HostOK of %d jobs with Room %d = %v", count, room, !want)
			} else if !want {
				wantNothingOfHost(t, "too many jobs", h)
			}
		}
	}
}

// What HostOK does not ask for may be any way.
func TestHostsThatAreRight(t *testing.T) {
	right := busyHost(t)
	for what, change := range map[string]func(h *impl.Host){
		"nothing else":              func(h *impl.Host) {},
		"another Turn":              func(h *impl.Host) { h.Turn = 2 },
		"Turn 0":                    func(h *impl.Host) { h.Turn = 0 },
		"the last Turn":             func(h *impl.Host) { h.Turn = 3 },
		"the last Now that may be":  func(h *impl.Host) { h.Now = 10 },
		"more Ids":                  func(h *impl.Host) { h.Ids = 100000 },
		"Room 4":                    func(h *impl.Host) { h.Config.Room = 4 },
		"another Quantum":           func(h *impl.Host) { h.Config.Quantum = 1000 },
		"the least Wait":            func(h *impl.Host) { h.Config.Wait = 3 },
		"the most Wait":             func(h *impl.Host) { h.Config.Wait = 1000 },
		"other names":               func(h *impl.Host) { h.Tenants[0].Name, h.Tenants[3].Name = "three", "one" },
		"a failed one less":         func(h *impl.Host) { h.Tenants = slices.Delete(h.Tenants, 2, 3) },
		"a failed one in its place": func(h *impl.Host) { h.Tenants[2] = wantMade(t, "two2", "#") },
		"Fuel":                      func(h *impl.Host) { h.Tenants[0].Fuel, h.Tenants[2].Fuel = 1000000000, 77 },
		"Ids that fall":             func(h *impl.Host) { q := h.Tenants[0].Queue; q[0].Id, q[2].Id = q[2].Id, q[0].Id },
		"Ids of others":             func(h *impl.Host) { h.Ids, h.Tenants[1].Queue[0].Id = 1000, 999 },
		"times that fall":           func(h *impl.Host) { q := h.Tenants[0].Queue; q[0].Since, q[1].Since, q[2].Since = 3, 2, 1 },
		"jobs that change slots":    func(h *impl.Host) { q := h.Tenants[0].Queue; q[1].Conn, q[1].Seq, q[2].Conn, q[2].Seq = 1, 0, 0, 3 },
		"jobs in another order":     func(h *impl.Host) { slices.Reverse(h.Tenants[0].Queue[1:]) },
		"any path":                  func(h *impl.Host) { h.Tenants[0].Queue[1].Path = "\x00\xff" },
		"other bytes": func(h *impl.Host) {
			h.Conns[0].In, h.Conns[2].In = strings.Repeat("\x00", 400), requestsOf("/one", "/two")
		},
		"other replies": func(h *impl.Host) { h.Conns[0].Slots[1].Text = strings.Repeat("x", 300) },
		"a reply less":  func(h *impl.Host) { h.Conns[0].Slots = slices.Delete(h.Conns[0].Slots, 1, 2) },
		"a reply more": func(h *impl.Host) {
			h.Conns[2].Slots, h.Conns[2].Next = append(h.Conns[2].Slots, impl.Slot{Seq: 8, Ready: true, Text: "x"}), 9
		},
		"a reply ahead of 0": func(h *impl.Host) {
			h.Conns[2].Slots = slices.Insert(h.Conns[2].Slots, 0, impl.Slot{Seq: -1, Ready: true, Text: "x"})
		},
		"one that does not end": func(h *impl.Host) { h.Conns[1].Ending = false },
		"one that ends":         func(h *impl.Host) { h.Conns[2].Ending = true },
		"another Next":          func(h *impl.Host) { h.Conns[0].Next, h.Conns[1].Next, h.Conns[3].Next = 100000, 77, 100000 },
		"open":                  func(h *impl.Host) { h.Conns[3].Open = true },
	} {
		h := cloneHost(right)
		change(&h)
		if !impl.HostOK(h) {
			t.Errorf("HostOK with %s is false:\n%s", what, toldHost(h))
		}
		wantHostAnswers(t, h)
		if t.Failed() {
			t.Fatal(what)
		}
	}
}

// Each number of a host is put to each of some others.
func TestHostsWithOtherNumbers(t *testing.T) {
	t.Parallel()
	right := busyHost(t)
	numbers := append(oddNumbers(), 4, 5, 6, 7, 9, 10, 11, 12, 13, 999, 1000, 1001, 49999, 50000, 50001, 99999, 100000, 100001, 1<<32+3, 3-1<<32)
	places := []func(h *impl.Host) *int{
		func(h *impl.Host) *int { return &h.Config.Room }, func(h *impl.Host) *int { return &h.Config.Quantum }, func(h *impl.Host) *int { return &h.Config.Wait },
		func(h *impl.Host) *int { return &h.Turn }, func(h *impl.Host) *int { return &h.Now }, func(h *impl.Host) *int { return &h.Ids },
	}
	for i := range right.Tenants {
		places = append(places, func(h *impl.Host) *int { return &h.Tenants[i].Fuel }, func(h *impl.Host) *int { return &h.Tenants[i].State })
		for k := range right.Tenants[i].Queue {
			for _, number := range []func(j *impl.Job) *int{func(j *impl.Job) *int { return &j.Id }, func(j *impl.Job) *int { return &j.Conn }, func(j *impl.Job) *int { return &j.Seq }, func(j *impl.Job) *int { return &j.Since }} {
				places = append(places, func(h *impl.Host) *int { return number(&h.Tenants[i].Queue[k]) })
			}
		}
	}
	for i := range right.Conns {
		places = append(places, func(h *impl.Host) *int { return &h.Conns[i].Next })
		for k := range right.Conns[i].Slots {
			places = append(places, func(h *impl.Host) *int { return &h.Conns[i].Slots[k].Seq })
		}
	}
	for _, place := range places {
		for _, n := range numbers {
			h := cloneHost(right)
			*place(&h) = n
			if wantHostOK(t, h); impl.HostOK(h) {
				wantHostTick(t, h)
				wantTurnOf(t, h)
				wantAudit(t, h)
				wantHostBytes(t, h, 2, requestsOf("/two/x", "/none"))
				wantHostClose(t, h, 0)
			} else {
				got := wantHostTick(t, h)
				wantHappened(t, "a wrong host", got, happened{code: impl.ErrBad})
				wantNothingAudited(t, "another number", h)
			}
			if t.Failed() {
				return
			}
		}
	}
}

// Replies may be Ready that were not sent yet, and requests may be there that were not read: no host of the document's events has them, but one that is handed in may.
func TestHostsThatNoEventComesTo(t *testing.T) {
	s := newScene(t, impl.Config{Room: 1, Quantum: 2, Wait: 5}, "one", quickSource)
	ready := func(seq int) impl.Slot { return impl.Slot{Seq: seq, Ready: true, Text: answerOf(seq)} }
	// What is Ready is sent behind each event, of whatever connection; behind it requests are read.
	s.open(0, 1, 2)
	s.host.Conns[1] = impl.Conn{Open: true, In: requestsOf("/none"), Slots: []impl.Slot{ready(3), ready(7)}, Next: 9}
	s.host.Conns[2] = impl.Conn{Open: true, Ending: true, Slots: []impl.Slot{ready(0)}, Next: 1}
	first := s.host
	s.bytes(0, "", out(1, "[3][7]", reply(404, "none")), outAndShut(2, "[0]"))
	s.host = first
	s.tick(out(1, "[3][7]", reply(404, "none")), outAndShut(2, "[0]"))
	// Requests that wait are read where bytes come, or where a reply goes.
	s.host.Conns[1] = impl.Conn{Open: true, In: requestsOf("/none", "/one/a"), Next: 9}
	first = s.host
	s.tick()
	s.bytes(0, requestsOf("/none"), out(0, reply(404, "none")))
	s.jobs(0)
	s.bytes(1, "", out(1, reply(404, "none")))
	s.jobs(1)
	s.tick(out(1, reply(200, "/a")))
	// One that ends, and has no slots, closes with the next event; there are no bytes.
	for k := range 4 {
		s.host = idleHost(t)
		s.host.Conns[k] = impl.Conn{Open: true, Ending: true, Next: 5}
		first = s.host
		s.tick(outAndShut(k))
		s.words(strings.TrimSpace(strings.Repeat("shut ", 4)))
		s.host = first
		other := (k + 1) % 4
		s.open(other)
		s.bytes(other, "", outAndShut(k))
	}
	// The last number is the one ahead of Next: a reply to another one does not close, be it the last of the slots.
	s = newScene(t, impl.Config{Room: 2, Quantum: 4, Wait: 5}, "one", quickSource)
	s.open(0)
	s.bytes(0, requestsOf("/one/a", "/one/b"))
	s.host.Conns[0].Ending, s.host.Conns[0].Next = true, 3
	s.tick(outAndShut(0, reply(200, "/a"), reply(200, "/b")))
}

// Machines may be right that no run comes to: a try lies higher than the stack will be. What their tenant is then need not be right, but the tick goes on to its end, and admits further jobs.
func TestHostsOfMachinesThatNoRunComesTo(t *testing.T) {
	s := newScene(t, impl.Config{Room: 2, Quantum: 2, Wait: 50}, "one", "try { 1 + 2; 1 / 0; } catch (e) { } return 3 + 4;")
	s.open(0, 1)
	s.get(0, "/one/a")
	s.tick()
	s.host.Conns[1] = impl.Conn{Open: true, In: requestsOf("/one/b"), Slots: []impl.Slot{{Seq: 0, Ready: true, Text: "x"}}, Next: 1}
	right, wrong := 0, 0
	for at := range s.host.Tenants[0].Program.Funcs[0].Code {
		for high := range 3 {
			for quantum := 1; quantum <= 30; quantum++ {
				h := cloneHost(s.host)
				h.Config.Quantum = quantum
				h.Tenants[0].Queue[0].Machine.Frames[0].Tries[0] = impl.Try{At: at, High: high}
				got := wantHostTick(t, h)
				if !impl.HostOK(h) {
					continue
				}
				if got.code != impl.OK || !slices.Contains(got.sent, out(1, "x")) || got.host.Ids != 2 {
					t.Errorf("a try to %d, by %d: %d, %s", at, quantum, got.code, toldHost(got.host))
				}
				if impl.HostOK(got.host) {
					right++
				} else {
					wrong++
				}
			}
		}
	}
	if right < 30 || wrong < 1 {
		t.Errorf("behind the tick %d hosts were right, %d not", right, wrong)
	}
}

// Lists of any length are handed in within a host; none is gone through that is too long.
func TestHostsOfGreatLists(t *testing.T) {
	right := busyHost(t)
	for _, count := range []int{5, 4097, 200000} {
		for what, spoil := range map[string]func(h *impl.Host){
			"tenants":           func(h *impl.Host) { h.Tenants = make([]impl.Tenant, count) },
			"tenants, alike":    func(h *impl.Host) { h.Tenants = slices.Repeat(h.Tenants[2:3], count) },
			"connections":       func(h *impl.Host) { h.Conns = make([]impl.Conn, count) },
			"connections, open": func(h *impl.Host) { h.Conns = slices.Repeat([]impl.Conn{impl.OpenConn()}, count) },
			"jobs":              func(h *impl.Host) { h.Tenants[1].Queue = slices.Repeat(h.Tenants[1].Queue, count) },
			"jobs of a failed":  func(h *impl.Host) { h.Tenants[2].Queue = make([]impl.Job, count) },
			"functions":         func(h *impl.Host) { h.Tenants[1].Program.Funcs = make([]impl.Func, count) },
			"instructions":      func(h *impl.Host) { h.Tenants[1].Program.Funcs[0].Code = make([]impl.Ins, count) },
			"frames":            func(h *impl.Host) { h.Tenants[0].Queue[0].Machine.Frames = make([]impl.CallFrame, count+2) },
			"values":            func(h *impl.Host) { h.Tenants[0].Queue[0].Machine.Frames[0].Stack = make([]impl.Value, count) },
			"tries":             func(h *impl.Host) { h.Tenants[0].Queue[0].Machine.Frames[0].Tries = make([]impl.Try, count) },
			"slots":             func(h *impl.Host) { h.Conns[2].Slots = make([]impl.Slot, count+2) },
			"slots, rising":     func(h *impl.Host) { h.Conns[2].Slots, h.Conns[2].Next = slotsUpTo(count+2), 100000 },
		} {
			h := cloneHost(right)
			spoil(&h)
			wantNothingOfHost(t, fmt.Sprint(count, " ", what), h)
		}
	}
}

// An empty list and nil are alike.
func TestHostsOfEmptyLists(t *testing.T) {
	h := busyHost(t)
	for _, empty := range []bool{true, false} {
		h := cloneHost(h)
		for k := range h.Tenants {
			x := &h.Tenants[k]
			x.Queue, x.Program.Funcs = emptied(x.Queue, empty), emptied(x.Program.Funcs, empty)
			for i := range x.Queue {
				m := &x.Queue[i].Machine
				m.Frames = emptied(m.Frames, empty)
				for f := range m.Frames {
					m.Frames[f].Stack, m.Frames[f].Tries = emptied(m.Frames[f].Stack, empty), emptied(m.Frames[f].Tries, empty)
				}
			}
		}
		for k := range h.Conns {
			h.Conns[k].Slots = emptied(h.Conns[k].Slots, empty)
		}
		if !impl.HostOK(h) {
			t.Errorf("HostOK of\n%s", toldHost(h))
		}
		wantHostAnswers(t, h)
	}
	for _, lists := range [][2][]string{{nil, {}}, {{}, nil}, {{}, {}}, {nil, nil}} {
		got, code := impl.NewHost(impl.Config{Room: 1, Quantum: 1, Wait: 1}, lists[0], lists[1])
		wantHost(t, "NewHost of nothing", got, code, impl.Host{}, impl.ErrCount)
	}
}

// emptied has an empty list for nil, or the other way round.
func emptied[E any](list []E, empty bool) []E {
	if len(list) > 0 {
		return list
	}
	if empty {
		return []E{}
	}
	return nil
}

// wholeHost tells all lists with what stands behind their ends.
func wholeHost(h impl.Host) string {
	told := fmt.Sprint(h.Config, h.Turn, h.Now, h.Ids, h.Tenants[:cap(h.Tenants)], h.Conns[:cap(h.Conns)])
	for _, x := range h.Tenants {
		told += wholeTenant(x)
	}
	for _, c := range h.Conns {
		told += fmt.Sprint(c.Slots[:cap(c.Slots)])
	}
	return told
}

// withAllBehind has something behind the end of each list.
func withAllBehind(h impl.Host) impl.Host {
	h = cloneHost(h)
	h.Tenants[:cap(h.Tenants)][len(h.Tenants)].Name = "behind"
	h.Conns[:cap(h.Conns)][len(h.Conns)].In = "behind"
	for k := range h.Tenants {
		h.Tenants[k] = withRoomBehind(h.Tenants[k])
	}
	for _, c := range h.Conns {
		c.Slots[:cap(c.Slots)][len(c.Slots)] = impl.Slot{Seq: -7, Text: "behind"}
	}
	return h
}

// hostsToLookAt are right ones and wrong ones.
func hostsToLookAt(t *testing.T) []impl.Host {
	t.Helper()
	wrong, late, full := busyHost(t), busyHost(t), busyHost(t)
	wrong.Ids = 5
	late.Now = 10
	late.Conns[0].In = requestsOf("/two/7", "/one/8", "/none/9")
	full.Now, full.Config.Wait, full.Conns[3].Open = 50000, 1000, true
	for k := range full.Tenants {
		for i := range full.Tenants[k].Queue {
			full.Tenants[k].Queue[i].Since = 49990
		}
	}
	if impl.HostOK(wrong) || !impl.HostOK(late) || !impl.HostOK(full) {
		t.Fatal("the hosts are others")
	}
	return []impl.Host{idleHost(t), busyHost(t), late, full, wrong}
}

// Neither the lists of a host, nor what stands behind their ends is written into.
func TestHostCallsLeaveTheirHost(t *testing.T) {
	for _, h := range hostsToLookAt(t) {
		h = withAllBehind(h)
		before := wholeHost(h)
		wantHostAnswers(t, h)
		if wholeHost(h) != before {
			t.Errorf("a call wrote into\n%s", toldHost(h))
		}
	}
	names, sources := []string{"one", "two", "behind"}, []string{quickSource, wrongSource, "behind"}
	impl.NewHost(impl.Config{Room: 1, Quantum: 1, Wait: 1}, names[:2], sources[:2])
	if !slices.Equal(names, []string{"one", "two", "behind"}) || !slices.Equal(sources, []string{quickSource, wrongSource, "behind"}) {
		t.Errorf("NewHost wrote into %q, %q", names, sources)
	}
}

// hostSpans has the memory of each list of a host, and of what was sent.
func hostSpans(h impl.Host, sent []impl.Sent) []span {
	list := []span{spanOf(h.Tenants), spanOf(h.Conns), spanOf(sent)}
	for _, x := range h.Tenants {
		list = append(list, tenantSpans(x, nil)...)
	}
	for _, c := range h.Conns {
		list = append(list, spanOf(c.Slots))
	}
	return slices.DeleteFunc(list, func(s span) bool { return s.from == s.to })
}

// hostAnswers are all calls that answer a host, or a tenant of it.
func hostAnswers() map[string]func(h impl.Host) happened {
	list := map[string]func(h impl.Host) happened{
		"HostTick": func(h impl.Host) (got happened) {
			got.host, got.sent, got.code = impl.HostTick(h)
			return got
		},
	}
	for _, a := range someActs() {
		list["ActDo of "+toldAct(a)] = func(h impl.Host) (got happened) {
			got.host, got.sent, got.code = impl.ActDo(h, a)
			return got
		}
	}
	for k := range 5 {
		list[fmt.Sprint("HostOpen of ", k)] = func(h impl.Host) (got happened) {
			got.host, got.code = impl.HostOpen(h, k)
			return got
		}
		list[fmt.Sprint("HostClose of ", k)] = func(h impl.Host) (got happened) {
			got.host, got.code = impl.HostClose(h, k)
			return got
		}
		for _, text := range []string{"", requestsOf("/two/n", "/none", "/three/n"), longText[:400], longText[:401]} {
			list[fmt.Sprintf("HostBytes of %d, %d bytes", k, len(text))] = func(h impl.Host) (got happened) {
				got.host, got.sent, got.code = impl.HostBytes(h, k, text)
				return got
			}
		}
	}
	for _, name := range []string{"one", "two", "bad", "three"} {
		list["TenantAt of "+name] = func(h impl.Host) (got happened) {
			x, code := impl.TenantAt(h, name)
			return happened{host: impl.Host{Tenants: []impl.Tenant{x}}, code: code}
		}
	}
	return list
}

// What is answered is its caller's own: no two lists of it share anything, nor with what was handed in, whatever code it has.
func TestHostsShareNothing(t *testing.T) {
	codes := map[int]int{}
	for which, h := range hostsToLookAt(t) {
		for call, answer := range hostAnswers() {
			what := fmt.Sprintf("%s of host %d", call, which)
			given := cloneHost(h)
			got, again := answer(given), answer(given)
			wantApart(t, what, slices.Concat(hostSpans(given, nil), hostSpans(got.host, got.sent), hostSpans(again.host, again.sent)))
			wantHappened(t, what, again, got)
			codes[got.code]++
		}
	}
	for _, code := range []int{impl.OK, impl.ErrBad, impl.ErrRange, impl.ErrFull, impl.ErrShut, impl.ErrTwice, impl.ErrMany, impl.ErrNone, impl.ErrForm, impl.ErrLong} {
		if codes[code] == 0 {
			t.Errorf("no call had the code %d", code)
		}
	}
	names, sources := []string{"one", "two", "bad"}, []string{quickSource, spinsSource, wrongSource}
	first, _ := impl.NewHost(impl.Config{Room: 1, Quantum: 1, Wait: 1}, names, sources)
	second, _ := impl.NewHost(impl.Config{Room: 1, Quantum: 1, Wait: 1}, names, sources)
	wantApart(t, "NewHost", slices.Concat([]span{spanOf(names), spanOf(sources)}, hostSpans(first, nil), hostSpans(second, nil)))
}

// Texts that were handed in may become others: what was answered stays as it is.
func TestHostTextsAreTheirOwn(t *testing.T) {
	name, spoilName := loose("one")
	source, spoilSource := loose("let a = 'text'; return a + path;")
	bytes, spoilBytes := loose(requestsOf("/one/a", "/none") + "GET /on")
	made, _ := impl.NewHost(impl.Config{Room: 2, Quantum: 99, Wait: 5}, []string{name}, []string{source})
	opened, _ := impl.HostOpen(made, 0)
	taken, _, _ := impl.HostBytes(opened, 0, bytes)
	same, _, code := impl.HostBytes(taken, 1, bytes)
	done, sent, _ := impl.HostTick(taken)
	x, _ := impl.TenantAt(taken, name)
	spoilName()
	spoilSource()
	spoilBytes()
	want, _ := newHostWanted(impl.Config{Room: 2, Quantum: 99, Wait: 5}, []string{"one"}, []string{"let a = 'text'; return a + path;"})
	wantHost(t, "NewHost", made, impl.OK, want, impl.OK)
	want, _ = hostOpenWanted(want, 0)
	wantHost(t, "HostOpen", opened, impl.OK, want, impl.OK)
	want = hostBytesWanted(want, 0, requestsOf("/one/a", "/none")+"GET /on").host
	wantHost(t, "HostBytes", taken, impl.OK, want, impl.OK)
	wantHost(t, "HostBytes, shut", same, code, want, impl.ErrShut)
	wantTenant(t, "TenantAt", x, impl.OK, want.Tenants[0], impl.OK)
	wantHappened(t, "HostTick", happened{done, sent, impl.OK}, tickWanted(want))
	// Those of a host that is handed in, too.
	in, spoilIn := loose("GET /on")
	text, spoilText := loose("reply")
	path, spoilPath := loose("/path")
	given := cloneHost(want)
	given.Conns[0].In, given.Conns[0].Slots[1].Text, given.Tenants[0].Queue[0].Path = in, text, path
	before := cloneHost(want)
	before.Conns[0].Slots[1].Text, before.Tenants[0].Queue[0].Path = "reply", "/path"
	same, sent, code = impl.HostBytes(given, 1, "")
	next, first, _ := impl.HostTick(given)
	spoilIn()
	spoilText()
	spoilPath()
	wantHappened(t, "HostBytes, shut", happened{same, sent, code}, happened{host: before, code: impl.ErrShut})
	wantHappened(t, "HostTick", happened{next, first, impl.OK}, tickWanted(before))
}
