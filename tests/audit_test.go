package tests

import (
	"fmt"
	"slices"
	"testing"

	"loop.example/g00370/impl"
)

// audit has what the audit shall tell of the host as it is now; the jobs stand as they came.
func (s *scene) audit(oldest int, pending [4]int, fuel ...int) {
	s.Helper()
	wantAuditIs(s.T, fmt.Sprintf("at %d", s.host.Now), s.host, audited{hold: true, oldest: oldest, fuel: fuel, pending: pending})
}

// tenantsOf are so many tenants, each with the sources in turn.
func tenantsOf(count int, sources ...string) []string {
	var list []string
	for k, name := range busyNames()[:count] {
		list = append(list, name, sources[k%len(sources)])
	}
	return list
}

func TestAuditsOfHostsWithoutJobs(t *testing.T) {
	for count := 1; count <= 4; count++ {
		none := make([]int, count)
		for _, sources := range [][]string{{quickSource}, {spinsSource, wrongSource}, {wrongSource}} {
			s := newScene(t, impl.Config{Room: 2, Quantum: 5, Wait: 3}, tenantsOf(count, sources...)...)
			s.audit(0, [4]int{}, none...)
			s.tick()
			s.audit(0, [4]int{}, none...)
			s.open(0, 1, 2, 3)
			s.audit(0, [4]int{}, none...)
			// What is answered at once has no job, nor has what is no request yet.
			s.get(0, "/none/a", out(0, reply(404, "none")))
			s.bytes(1, "GET /one/a HTTP/1.1\r\n")
			s.bytes(2, "junk\r\n\r\n", outAndShut(2, lastReply(400, "form")))
			s.shut(3)
			s.audit(0, [4]int{}, none...)
			s.tick()
			s.audit(0, [4]int{}, none...)
		}
	}
}

// One job of each tenant, on each connection: it waits from the tick at which it came until it is late.
func TestAuditsOfOneJob(t *testing.T) {
	for count := 1; count <= 4; count++ {
		for k := range count {
			for conn := range 4 {
				for _, wait := range []int{1, 2, 5} {
					s := newScene(t, impl.Config{Room: 1, Quantum: 7, Wait: wait}, tenantsOf(count, spinsSource)...)
					s.tick()
					s.tick()
					s.open(conn)
					s.get(conn, "/"+busyNames()[k])
					fuel, pending := make([]int, count), [4]int{}
					pending[conn] = 1
					for waited := range wait {
						s.audit(waited, pending, fuel...)
						if waited == wait-1 {
							break
						}
						s.tick()
						fuel[k] += 7
					}
					s.tick(out(conn, reply(504, "late")))
					s.audit(0, [4]int{}, fuel...)
				}
			}
		}
	}
}

// A job that is over has had its instructions, and waits no more; what its tenant had is kept.
func TestAuditsOfJobsThatAreOver(t *testing.T) {
	s := newScene(t, impl.Config{Room: 2, Quantum: 2, Wait: 9}, "one", quickSource, "bad", wrongSource, "two", throwsSoon)
	s.open(0, 3)
	s.get(3, "/two/a")
	s.get(0, "/one/b")
	s.get(0, "/one/c")
	s.audit(0, [4]int{2, 0, 0, 1}, 0, 0, 0)
	s.tick(out(0, reply(200, "/b")))
	s.audit(1, [4]int{1, 0, 0, 1}, 2, 0, 0)
	s.tick()
	s.audit(2, [4]int{1, 0, 0, 1}, 2, 0, 2)
	s.tick(out(0, reply(200, "/c")))
	s.audit(3, [4]int{0, 0, 0, 1}, 4, 0, 2)
	s.tick(out(3, reply(500, "2")))
	s.audit(0, [4]int{}, 4, 0, 3)
	s.get(3, "/bad", out(3, reply(500, "form")))
	s.tick()
	s.audit(0, [4]int{}, 4, 0, 3)
}

// Several jobs of one tenant, which came at other times: the first one waits the most, until it goes.
func TestAuditsOfSeveralJobsOfOneTenant(t *testing.T) {
	for count := 1; count <= 4; count++ {
		for k := range count {
			s := newScene(t, impl.Config{Room: 4, Quantum: 3, Wait: 6}, tenantsOf(count, spinsSource)...)
			s.open(0, 1, 2)
			path, fuel := "/"+busyNames()[k]+"/a", make([]int, count)
			late := reply(504, "late")
			s.bytes(1, requestsOf(path, path))
			s.audit(0, [4]int{0, 2}, fuel...)
			for range 3 {
				s.tick()
				fuel[k] += 3
			}
			s.get(0, path)
			s.audit(3, [4]int{1, 2}, fuel...)
			s.tick()
			fuel[k] += 3
			s.get(2, path)
			s.audit(4, [4]int{1, 2, 1}, fuel...)
			s.tick()
			fuel[k] += 3
			s.audit(5, [4]int{1, 2, 1}, fuel...)
			s.tick(out(1, late, late))
			fuel[k] += 3
			s.audit(3, [4]int{1, 0, 1}, fuel...)
			s.shut(0)
			s.audit(2, [4]int{0, 0, 1}, fuel...)
			s.shut(2)
			s.audit(0, [4]int{}, fuel...)
		}
	}
}

// Jobs of all tenants: the one that waits the most is not of the first tenant, and goes ahead of the others.
func TestAuditsOfJobsOfAllTenants(t *testing.T) {
	s := newScene(t, impl.Config{Room: 2, Quantum: 10, Wait: 8}, "one", quickSource, "two", spinsSource, "three", spinsSource, "four", quickSource)
	s.open(0, 1, 2, 3)
	s.get(2, "/three/0")
	s.tick()
	s.get(1, "/two/0")
	s.get(3, "/three/1")
	s.tick()
	s.bytes(0, requestsOf("/four/2", "/one/2", "/two/2", "/none"))
	s.audit(2, [4]int{3, 1, 1, 1}, 0, 10, 10, 0)
	s.tick()
	s.audit(3, [4]int{3, 1, 1, 1}, 0, 10, 20, 0)
	s.tick(out(0, reply(200, "/2")))
	s.audit(4, [4]int{2, 1, 1, 1}, 0, 10, 20, 2)
	s.tick(out(0, reply(200, "/2")))
	s.audit(5, [4]int{1, 1, 1, 1}, 2, 10, 20, 2)
	s.shut(2)
	s.audit(4, [4]int{1, 1, 0, 1}, 2, 10, 20, 2)
	s.tick()
	s.audit(5, [4]int{1, 1, 0, 1}, 2, 20, 20, 2)
	s.tick()
	s.audit(6, [4]int{1, 1, 0, 1}, 2, 20, 30, 2)
	s.tick()
	s.audit(7, [4]int{1, 1, 0, 1}, 2, 30, 30, 2)
	// Both go at once; what came later waits on, and has the turn.
	s.tick(out(1, reply(504, "late")), out(3, reply(504, "late")))
	s.audit(7, [4]int{1}, 2, 40, 30, 2)
	s.tick(out(0, reply(504, "late"), reply(404, "none")))
	s.audit(0, [4]int{}, 2, 40, 30, 2)
}

// fullHost has four jobs of each of four tenants, each tenant's on its own connection; they came one behind the other, at the times 0 to 3.
func fullHost(t *testing.T) impl.Host {
	t.Helper()
	s := newScene(t, impl.Config{Room: 4, Quantum: 4, Wait: 10}, tenantsOf(4, spinsSource)...)
	s.open(0, 1, 2, 3)
	for n := range 4 {
		for k, name := range busyNames() {
			s.get(k, pathOf(name, n))
		}
		if n < 3 {
			s.tick()
		}
	}
	s.audit(3, [4]int{4, 4, 4, 4}, 4, 4, 4, 0)
	return s.host
}

// wantHold says what JobsHold shall tell of a right host.
func wantHold(t *testing.T, h impl.Host, want bool) {
	t.Helper()
	if !impl.HostOK(h) {
		t.Fatalf("the host is not right:\n%s", toldHost(h))
	}
	if wantJobsHold(t, h) != want {
		t.Errorf("JobsHold is %v of\n%s", !want, toldHost(h))
	}
}

// Each order of the Ids of four jobs, of each tenant: they rise in one alone.
func TestIdsOfJobsInEachOrder(t *testing.T) {
	full := fullHost(t)
	wantHold(t, full, true)
	for k := range 4 {
		forEachOrder(4, func(order []int) {
			h := cloneHost(full)
			for i, at := range order {
				h.Tenants[k].Queue[i].Id = full.Tenants[k].Queue[at].Id
			}
			wantHold(t, h, slices.IsSorted(order))
		})
	}
}

// Each Since of four jobs, of each tenant: they may be alike, but must not fall.
func TestTimesOfJobsInEachOrder(t *testing.T) {
	full := fullHost(t)
	for k := range 4 {
		for code := range 256 {
			h, times := cloneHost(full), []int{code % 4, code / 4 % 4, code / 16 % 4, code / 64}
			for i, since := range times {
				h.Tenants[k].Queue[i].Since = since
			}
			wantHold(t, h, slices.IsSorted(times))
		}
	}
}

// One pair alone stands the other way round: the first one, one in the middle, the last one, of each tenant; of two tenants; and with fewer jobs.
func TestPairsOfJobsThatFall(t *testing.T) {
	full := fullHost(t)
	for k := range 4 {
		for at := range 3 {
			for _, swap := range []func(a, b *impl.Job){
				func(a, b *impl.Job) { a.Id, b.Id = b.Id, a.Id },
				func(a, b *impl.Job) { a.Since, b.Since = b.Since, a.Since },
				func(a, b *impl.Job) { a.Id, b.Id, a.Since, b.Since = b.Id, a.Id, b.Since, a.Since },
			} {
				h := cloneHost(full)
				queue := h.Tenants[k].Queue
				swap(&queue[at], &queue[at+1])
				wantHold(t, h, false)
				// What another tenant has does not mend it, nor does it break that one.
				for other := range 4 {
					if other != k {
						both := cloneHost(h)
						both.Tenants[other].Queue[0].Since, both.Tenants[other].Queue[3].Since = 3, 0
						wantHold(t, both, false)
					}
				}
			}
		}
	}
}

// Of two jobs, and of one: whatever the Id and the Since of one job are, it stands as it came.
func TestFewJobsHold(t *testing.T) {
	s := newScene(t, impl.Config{Room: 2, Quantum: 1, Wait: 1000}, "one", spinsSource, "two", spinsSource)
	s.open(0, 1)
	s.get(0, "/two/0")
	one := s.host
	s.get(1, "/two/1")
	two := s.host
	numbers := []int{0, 1, 2, 98, 99}
	for _, a := range numbers {
		for _, since := range numbers {
			h := cloneHost(one)
			h.Now, h.Ids = 99, 100
			h.Tenants[1].Queue[0].Id, h.Tenants[1].Queue[0].Since = a, since
			wantHold(t, h, true)
			for _, b := range numbers {
				for _, later := range numbers {
					h := cloneHost(two)
					h.Now, h.Ids = 99, 100
					h.Tenants[1].Queue[0].Id, h.Tenants[1].Queue[0].Since = a, since
					h.Tenants[1].Queue[1].Id, h.Tenants[1].Queue[1].Since = b, later
					if a == b {
						wantNothingAudited(t, "an Id twice", h)
						continue
					}
					wantHold(t, h, a < b && since <= later)
				}
			}
		}
	}
}

// Jobs of two tenants may stand any way to each other: each queue is asked by itself.
func TestJobsOfOthersDoNotCount(t *testing.T) {
	full := fullHost(t)
	forEachOrder(4, func(order []int) {
		h := cloneHost(full)
		for k, at := range order {
			for i := range 4 {
				h.Tenants[k].Queue[i].Id, h.Tenants[k].Queue[i].Since = 4*at+i, at
			}
		}
		wantHold(t, h, true)
		if wantOldestWait(t, h) != 3 {
			t.Errorf("the oldest is another one in\n%s", toldHost(h))
		}
	})
}

// The job that waits the most may be any tenant's, and any of its jobs; others may wait as long.
func TestTheOldestJobIsAnyOne(t *testing.T) {
	full := fullHost(t)
	for k := range 4 {
		for i := range 4 {
			for _, waits := range []int{3, 4, 9} {
				for _, others := range []int{0, 1, 2} {
					h := cloneHost(full)
					h.Now = 9
					for _, x := range h.Tenants {
						for n := range x.Queue {
							x.Queue[n].Since = 9 - others
						}
					}
					h.Tenants[k].Queue[i].Since = 9 - waits
					wantAuditIs(t, fmt.Sprintf("job %d of tenant %d", i, k), h, audited{i == 0, waits, []int{4, 4, 4, 0}, [4]int{4, 4, 4, 4}})
					h.Tenants[(k+2)%4].Queue[3-i].Since = 9 - waits
					if wantOldestWait(t, h) != waits {
						t.Errorf("the oldest is another one in\n%s", toldHost(h))
					}
				}
			}
		}
	}
}

// At the bounds of the time: the first tick, the last one, the least and the most Wait; the Ids and the Fuel at theirs.
func TestAuditsAtTheBounds(t *testing.T) {
	s := newScene(t, impl.Config{Room: 4, Quantum: 1, Wait: 1000}, "one", spinsSource, "two", spinsSource)
	s.open(1)
	s.bytes(1, requestsOf("/two/a", "/two/b"))
	for _, c := range []struct{ now, first, second, oldest int }{
		{0, 0, 0, 0}, {1, 0, 1, 1}, {999, 0, 0, 999}, {999, 999, 999, 0}, {1000, 1, 1000, 999}, {50000, 49001, 49001, 999}, {50000, 49500, 50000, 500}, {50000, 50000, 50000, 0},
	} {
		h := cloneHost(s.host)
		h.Now, h.Ids = c.now, 100000
		queue := h.Tenants[1].Queue
		queue[0].Since, queue[1].Since, queue[0].Id, queue[1].Id = c.first, c.second, 99998, 99999
		h.Tenants[0].Fuel, h.Tenants[1].Fuel = 1000000000, 999999999
		wantAuditIs(t, fmt.Sprint("at ", c), h, audited{true, c.oldest, []int{1000000000, 999999999}, [4]int{0, 2}})
		queue[0].Id, queue[1].Id = 99999, 0
		wantAuditIs(t, fmt.Sprint("Ids that fall, at ", c), h, audited{false, c.oldest, []int{1000000000, 999999999}, [4]int{0, 2}})
		for _, late := range []int{c.now - 1000, c.now + 1, -1} {
			queue[1].Since = late
			wantNothingAudited(t, "another Since", h)
		}
	}
	h := cloneHost(s.host)
	h.Config.Wait = 1
	wantAuditIs(t, "the least Wait", h, audited{true, 0, []int{0, 0}, [4]int{0, 2}})
	h.Now = 1
	wantNothingAudited(t, "jobs that are late", h)
}

// Each tenant's Fuel stands in its place, be it one that failed.
func TestFuelStandsInItsPlace(t *testing.T) {
	for count := 1; count <= 4; count++ {
		s := newScene(t, impl.Config{Room: 1, Quantum: 9, Wait: 9}, tenantsOf(count, quickSource, wrongSource)...)
		for _, fuel := range [][]int{{0, 0, 0, 0}, {1, 2, 3, 4}, {4, 3, 2, 1}, {7, 7, 7, 7}, {1000000000, 0, 999999999, 1}} {
			h := cloneHost(s.host)
			for k := range h.Tenants {
				h.Tenants[k].Fuel = fuel[k]
			}
			wantAuditIs(t, fmt.Sprint(count, " tenants"), h, audited{true, 0, fuel[:count], [4]int{}})
			for k := range h.Tenants {
				for _, wrong := range []int{-1, 1000000001} {
					bad := cloneHost(h)
					bad.Tenants[k].Fuel = wrong
					wantNothingAudited(t, "another Fuel", bad)
				}
			}
		}
	}
}

// A tenant has had just as many instructions as its jobs cost that are over.
func TestFuelIsWhatJobsCost(t *testing.T) {
	for quantum := 1; quantum <= 60; quantum += 7 {
		s := newScene(t, impl.Config{Room: 3, Quantum: quantum, Wait: 1000}, "one", plainOne, "two", plainTwo, "three", throwsSoon)
		s.open(0, 1)
		want := make([]int, 3)
		for n, path := range []string{"/one/abc", "/two/d", "/three", "/one", "/one/e"} {
			s.host = wantHostBytes(t, s.host, n%2, requestOf(path, false)).host
			name, rest, _ := splitWanted(path)
			k := slices.Index(busyNames(), name)
			cost, _ := impl.CostOf(s.host.Tenants[k].Source, rest)
			want[k] += cost
		}
		for range 700 {
			s.host = wantHostTick(t, s.host).host
			if wantAudit(t, s.host).pending == [4]int{} {
				break
			}
		}
		s.jobs(0, 0, 0)
		s.audit(0, [4]int{}, want...)
	}
}

// Each way in which six slots are Ready or wait, on each connection, and of one that is ending: those that wait are counted.
func TestPendingSlotsInEachWay(t *testing.T) {
	for conn := range 4 {
		s := newScene(t, impl.Config{Room: 4, Quantum: 1, Wait: 9}, "one", spinsSource, "two", spinsSource)
		other := (conn + 3) % 4
		s.open(conn, other)
		s.get(other, "/one/x")
		s.bytes(conn, requestsOf("/two/0", "/one/1", "/two/2", "/one/3", "/two/4", "/one/5", "/none", "/two"))
		for marks := range 64 {
			h, count := cloneHost(s.host), 0
			for seq := range 6 {
				if marks>>seq&1 == 1 {
					count++
					continue
				}
				h.Conns[conn].Slots[seq] = impl.Slot{Seq: seq, Ready: true, Text: answerOf(seq)}
				for k := range h.Tenants {
					h.Tenants[k].Queue = slices.DeleteFunc(h.Tenants[k].Queue, func(j impl.Job) bool { return j.Conn == conn && j.Seq == seq })
				}
			}
			want := audited{true, 0, []int{0, 0}, [4]int{}}
			want.pending[conn], want.pending[other] = count, 1
			wantAuditIs(t, fmt.Sprintf("%06b", marks), h, want)
			h.Conns[conn].Ending, h.Conns[conn].In = true, ""
			wantAuditIs(t, fmt.Sprintf("%06b, ending", marks), h, want)
			h.Conns[other].Ending = true
			wantAuditIs(t, fmt.Sprintf("%06b, both ending", marks), h, want)
			if count > 0 && h.Conns[conn].Slots[5].Ready {
				// Fewer slots, of numbers that are not side by side.
				h.Conns[conn].Slots = slices.DeleteFunc(h.Conns[conn].Slots, func(x impl.Slot) bool { return x.Ready })
				wantAuditIs(t, fmt.Sprintf("%06b, without those that are Ready", marks), h, want)
			}
			next, _ := impl.HostClose(h, conn)
			want.pending[conn] = 0
			wantAuditIs(t, fmt.Sprintf("%06b, shut", marks), next, want)
		}
	}
}

// Connections as a host comes to have them: replies that wait for one ahead of them, one that is ending, one that is shut and was opened again.
func TestPendingOfConnections(t *testing.T) {
	s := newScene(t, impl.Config{Room: 2, Quantum: 50, Wait: 9}, "one", quickSource, "two", spinsSource)
	s.open(0, 1, 2)
	s.bytes(0, requestsOf("/two/a", "/one/b", "/none"))
	s.bytes(1, requestsOf("/one/c")+requestOf("/two/d", true)+"what is behind")
	s.words("waiting ending idle shut")
	s.audit(0, [4]int{2, 2}, 0, 0)
	s.tick(out(1, reply(200, "/c")))
	s.audit(1, [4]int{1, 1}, 4, 0)
	if slots := s.host.Conns[0].Slots; len(slots) != 3 || slots[0].Ready || !slots[1].Ready || !slots[2].Ready {
		t.Errorf("the slots are %s", toldConn(s.host.Conns[0]))
	}
	s.shut(1)
	s.words("waiting shut idle shut")
	s.audit(1, [4]int{1}, 4, 0)
	s.open(1)
	s.audit(1, [4]int{1}, 4, 0)
	s.last(1, "/two/e")
	s.get(2, "/two/f", out(2, reply(503, "full")))
	s.words("waiting ending idle shut")
	s.audit(1, [4]int{1, 1}, 4, 0)
	s.shut(0)
	s.audit(0, [4]int{0, 1}, 4, 0)
	for range 8 {
		s.tick()
	}
	s.audit(8, [4]int{0, 1}, 4, 400)
	s.tick(outAndShut(1, lastReply(504, "late")))
	s.words("shut shut idle shut")
	s.audit(0, [4]int{}, 4, 400)
}

func TestPlacesOfPendingOf(t *testing.T) {
	for name, h := range madeHosts(t) {
		for _, k := range append(placesToAsk(), oddNumbers()...) {
			count, code := impl.PendingOf(h, k)
			want := map[bool]int{true: impl.OK, false: impl.ErrRange}[k >= 0 && k <= 3]
			if code != want || code != impl.OK && count != 0 {
				t.Errorf("%s: PendingOf of %d = %d, %d", name, k, count, code)
			}
			wantPendingOf(t, h, k)
		}
	}
}

// What waits at the end of a script, and in the course of it.
func TestAuditsOfAScript(t *testing.T) {
	p := newPlayed(t)
	p.audit(0, [4]int{}, 0, 0, 0, 0)
	p.does(opens(0), impl.OK)
	p.does(opens(2), impl.OK)
	p.does(asks(0, "/spin/x", "/two", "/one/abc", "/none", "/bad"), impl.OK)
	p.audit(0, [4]int{3}, 0, 0, 0, 0)
	p.does(opens(0), impl.ErrTwice)
	p.does(impl.Act{Kind: 9}, impl.ErrForm)
	p.does(says(1, "x"), impl.ErrShut)
	p.audit(0, [4]int{3}, 0, 0, 0, 0)
	cost, _ := impl.CostOf(plainOne, "/abc")
	p.ticks(1)
	p.audit(1, [4]int{2}, cost, 0, 0, 0)
	p.does(asks(2, "/spin/y", "/spin/z", "/one/d"), impl.OK) // the third one of spin is shed, but stands behind
	p.audit(1, [4]int{2, 0, 2}, cost, 0, 0, 0)
	p.ticks(1)
	p.audit(2, [4]int{2, 0, 2}, cost, 40, 0, 0)
	p.ticks(1)
	p.audit(3, [4]int{2, 0, 2}, cost, 40, 0, 40)
	more, _ := impl.CostOf(plainOne, "/d")
	p.ticks(1)
	p.audit(4, [4]int{2, 0, 1}, cost+more, 40, 0, 40)
	p.does(says(2, "GET /two"), impl.OK)
	p.does(shuts(0), impl.OK)
	p.audit(3, [4]int{0, 0, 1}, cost+more, 40, 0, 40)
	p.ticks(8)
	p.audit(11, [4]int{0, 0, 1}, cost+more, 40, 0, 360)
	p.ends()
	p.does(impl.Act{Kind: 4}, impl.OK, out(2, reply(504, "late"), reply(503, "full"), reply(200, "end/d")))
	p.audit(0, [4]int{}, cost+more, 40, 0, 360)
	p.ticks(3)
	p.audit(0, [4]int{}, cost+more, 40, 0, 360)
	p.ends()
}
