package tests

import (
	"fmt"
	"slices"
	"strings"
	"testing"

	"loop.example/g00370/impl"
)

// pathOf is one of a tenant's name and a number.
func pathOf(name string, n int) string { return fmt.Sprintf("/%s/%d", name, n) }

// A tick is one more in time, whatever there is to do.
func TestTicksGoOn(t *testing.T) {
	s := newScene(t, impl.Config{Room: 1, Quantum: 1, Wait: 3}, "one", spinsSource)
	for now := range 5 {
		if s.host.Now != now || s.host.Turn != 0 || s.host.Ids != 0 {
			t.Errorf("at %d: %s", now, toldHost(s.host))
		}
		s.tick()
	}
	s.open(0)
	s.get(0, "/one")
	if s.host.Now != 5 {
		t.Errorf("bytes take time: %d", s.host.Now)
	}
	s.tick()
	s.shut(0)
	s.open(0)
	if s.host.Now != 6 {
		t.Errorf("to open and to close takes time: %d", s.host.Now)
	}
}

// The time is one more first: so a job that came at a time is late at the tick that makes it Wait more, and neither ahead nor behind.
func TestWhenJobsAreLate(t *testing.T) {
	for wait := 1; wait <= 7; wait++ {
		for ahead := range 3 {
			s := newScene(t, impl.Config{Room: 1, Quantum: 3, Wait: wait}, "one", spinsSource)
			s.open(0, 1)
			for range ahead {
				s.tick()
			}
			s.get(0, "/one")
			for range wait - 1 {
				s.tick()
				s.jobs(1)
			}
			s.fuel(3 * (wait - 1))
			s.tick(out(0, reply(504, "late")))
			s.jobs(0)
			s.fuel(3 * (wait - 1)) // it was late ahead of the turn
			s.tick()
		}
	}
	s := newScene(t, impl.Config{Room: 1, Quantum: 1, Wait: 1000}, "one", spinsSource)
	s.open(0)
	s.get(0, "/one")
	for range 999 {
		got := happened{}
		got.host, got.sent, got.code = impl.HostTick(s.host)
		s.goOn("a long wait", got, nil)
	}
	s.fuel(999)
	s.tick(out(0, reply(504, "late")))
}

// A job of n instructions has Wait-1 turns: it is done in the last one of them, or late by one.
func TestLastTicks(t *testing.T) {
	for n := 2; n <= 12; n += 2 {
		source := strings.Repeat("1;", n/2-1) + quickSource
		for quantum := 1; quantum <= 6; quantum++ {
			turns := (n + quantum - 1) / quantum
			for wait := 1; wait <= turns+2; wait++ {
				s := newScene(t, impl.Config{Room: 1, Quantum: quantum, Wait: wait}, "one", source)
				s.open(0)
				s.get(0, "/one/a")
				for range min(turns, wait) - 1 {
					s.tick()
				}
				if turns < wait {
					s.tick(out(0, reply(200, "/a")))
					s.fuel(n)
				} else {
					s.tick(out(0, reply(504, "late")))
					s.fuel(quantum * (wait - 1))
				}
				s.jobs(0)
			}
		}
	}
}

// The late jobs of all tenants go in one tick, ahead of the turn: a tenant whose only job is late has no turn any more, and no instruction is done for it.
func TestLateJobsOfAllTenants(t *testing.T) {
	s := newScene(t, impl.Config{Room: 2, Quantum: 5, Wait: 4}, "one", spinsSource, "two", spinsSource, "three", spinsSource, "four", spinsSource)
	s.open(0, 1, 2, 3)
	s.get(0, "/one/a")
	s.get(1, "/two/a")
	s.get(2, "/four/a")
	for range 3 {
		s.tick()
	}
	s.fuel(5, 5, 0, 5)
	s.get(3, "/two/b")
	s.get(3, "/three/c")
	if k := wantTurnOf(t, s.host); k != 0 {
		t.Errorf("TurnOf = %d", k)
	}
	// One would have the turn; at 4 its job is late, and so are those of two and four: two runs the job that is left.
	s.tick(out(0, reply(504, "late")), out(1, reply(504, "late")), out(2, reply(504, "late")))
	s.jobs(0, 1, 1, 0)
	s.fuel(5, 10, 0, 5)
	if s.host.Turn != 2 {
		t.Errorf("Turn is %d", s.host.Turn)
	}
	// All jobs are late: there is no turn, and Turn stays.
	s.tick()
	s.tick()
	s.fuel(5, 15, 5, 5)
	if s.host.Turn != 2 {
		t.Errorf("Turn is %d", s.host.Turn)
	}
	s.tick(out(3, reply(504, "late"), reply(504, "late")))
	s.fuel(5, 15, 5, 5)
	s.jobs(0, 0, 0, 0)
	if s.host.Turn != 2 {
		t.Errorf("Turn is %d", s.host.Turn)
	}
}

// Behind a job that is late the next one has the turn of the same tick, the whole quantum.
func TestAJobBehindALateOne(t *testing.T) {
	for quantum, sent := range map[int][3][]impl.Sent{
		4: {{out(0, reply(504, "late"))}, {out(1, reply(504, "late"))}, {out(0, reply(504, "late"))}},
		6: {{out(0, reply(504, "late")), out(1, reply(200, "/a"))}, {out(0, reply(200, "/b"))}},
	} {
		s := newScene(t, impl.Config{Room: 3, Quantum: quantum, Wait: 3}, "one", "while (path == '/s') { } return path;")
		s.open(0, 1)
		s.get(0, "/one/s")
		s.tick()
		s.get(1, "/one/a")
		s.tick()
		s.get(0, "/one/b")
		s.jobs(3)
		s.fuel(2 * quantum)
		// At 3 the first one is late; each of the others takes 6 instructions.
		s.tick(sent[0]...)
		s.fuel(3 * quantum)
		s.tick(sent[1]...)
		s.fuel(4 * quantum)
		s.tick(sent[2]...)
		s.fuel(4 * quantum)
		s.jobs(0)
	}
}

// What is late and what is done goes out at the end of the tick, in the order of the numbers; behind it requests are read, and their jobs begin at this time, and have no turn yet.
func TestWhatATickSends(t *testing.T) {
	s := newScene(t, impl.Config{Room: 1, Quantum: 9, Wait: 3}, "one", quickSource, "spin", spinsSource, "two", quickSource)
	s.open(0, 1)
	s.tick()
	s.get(0, "/spin/1")
	s.tick()
	s.tick()
	s.fuel(0, 18, 0)
	s.bytes(0, requestsOf("/two/2", "/none/3", "/one/4", "/two/5", "/one/6", "/spin/7", "/one/8", "/two/9"))
	s.get(1, "/one/10", out(1, reply(503, "full")))
	s.jobs(1, 1, 1)
	// At 4 number 0 is late, and two has the turn: all replies up to the job of one go, and 7 to 9 are read.
	s.tick(out(0, reply(504, "late"), reply(200, "/2"), reply(404, "none")))
	s.jobs(1, 1, 1)
	s.fuel(0, 18, 2)
	for k, want := range []impl.Job{{Id: 2, Seq: 3, Path: "/4", Since: 3}, {Id: 3, Seq: 6, Path: "/7", Since: 4}, {Id: 4, Seq: 8, Path: "/9", Since: 4}} {
		if got := s.host.Tenants[k].Queue; !sameJobs(got, []impl.Job{want}) {
			t.Errorf("the jobs of %d are%s; want%s", k, toldJobs(got), toldJobs([]impl.Job{want}))
		}
	}
	s.tick(out(0, reply(200, "/4"), reply(503, "full"), reply(503, "full")))
	s.tick()
	s.tick(out(0, reply(504, "late"), reply(503, "full"), reply(504, "late")))
	s.fuel(2, 27, 2)
}

// turnsTaken runs a host of four tenants of which some have jobs, and tells who had the turns.
func turnsTaken(s *scene, count int) []int {
	s.Helper()
	var took []int
	for range count {
		before := s.host
		at := wantTurnOf(s.T, before)
		s.tick()
		for k, x := range s.host.Tenants {
			switch grown := x.Fuel - before.Tenants[k].Fuel; grown {
			case 0:
			case s.host.Config.Quantum:
				took = append(took, k)
				if k != at || s.host.Turn != (k+1)%len(s.host.Tenants) {
					s.Errorf("%d had the turn, TurnOf was %d, Turn is %d", k, at, s.host.Turn)
				}
			default:
				s.Errorf("tenant %d did %d", k, grown)
			}
		}
	}
	return took
}

// Turns go round, from each Turn on, and pass over tenants without jobs, whether they are ready or failed.
func TestTurnsGoRound(t *testing.T) {
	t.Parallel()
	for count := 1; count <= 4; count++ {
		for first := range count {
			for bits := 1; bits < 1<<count; bits++ {
				var tenants []string
				var busy []int
				for k := range count {
					source := []string{wrongSource, quickSource}[(first+k)%2]
					if bits>>k&1 == 1 {
						source, busy = spinsSource, append(busy, k)
					}
					tenants = append(tenants, []string{"one", "two", "three", "four"}[k], source)
				}
				s := newScene(t, impl.Config{Room: 1, Quantum: 3, Wait: 1000}, tenants...)
				s.host.Turn = first
				s.open(0)
				for _, k := range busy {
					s.get(0, "/"+s.host.Tenants[k].Name)
				}
				var want []int
				for k := first; len(want) < 2*count+1; k++ {
					if slices.Contains(busy, k%count) {
						want = append(want, k%count)
					}
				}
				if got := turnsTaken(s, 2*count+1); !slices.Equal(got, want) {
					t.Errorf("of %d tenants, of which %v have jobs, from %d on, the turns were %v; want %v", count, busy, first, got, want)
				}
			}
		}
	}
}

// Without jobs there is no turn: Turn stays where it is.
func TestTurnsWithoutJobs(t *testing.T) {
	for first := range 3 {
		s := newScene(t, impl.Config{Room: 1, Quantum: 3, Wait: 9}, "one", quickSource, "bad", wrongSource, "two", quickSource)
		s.host.Turn = first
		for range 4 {
			if k, code := impl.TurnOf(s.host); k != 0 || code != impl.ErrNone {
				t.Errorf("TurnOf = %d, %d", k, code)
			}
			s.tick()
			if s.host.Turn != first {
				t.Errorf("Turn is %d, was %d", s.host.Turn, first)
			}
		}
	}
}

// A tenant that gets a job when its turn is over waits for the others; one that has had none meanwhile has its turn as soon as it is the next one.
func TestTurnsOfTenantsThatGetJobsLater(t *testing.T) {
	s := newScene(t, impl.Config{Room: 2, Quantum: 2, Wait: 100}, "one", spinsSource, "two", quickSource, "three", spinsSource)
	s.open(0, 1, 2)
	s.get(0, "/one")
	s.tick()
	s.tick()
	s.fuel(4, 0, 0)
	s.get(2, "/three")
	s.get(1, "/two/a")
	s.tick(out(1, reply(200, "/a")))
	s.get(1, "/two/b")
	s.tick()
	s.fuel(4, 2, 2)
	s.tick()
	s.fuel(6, 2, 2)
	s.tick(out(1, reply(200, "/b")))
	s.fuel(6, 4, 2)
}

// Jobs share the quantum of their tenant's turn: of jobs that take 2 instructions each, by hand.
func TestAQuantumThatJobsOfAHostShare(t *testing.T) {
	for quantum := 1; quantum <= 9; quantum++ {
		s := newScene(t, impl.Config{Room: 4, Quantum: quantum, Wait: 100}, "one", quickSource)
		s.open(0)
		s.bytes(0, requestsOf("/one/0", "/one/1", "/one/2", "/one/3"))
		for did := 0; did < 8; did += quantum {
			var replies []string
			for k := did / 2; k < min(8, did+quantum)/2; k++ {
				replies = append(replies, reply(200, fmt.Sprintf("/%d", k)))
			}
			if len(replies) > 0 {
				s.tick(out(0, replies...))
			} else {
				s.tick()
			}
			s.fuel(min(8, did+quantum))
			s.jobs(4 - min(8, did+quantum)/2)
		}
	}
	// Their replies go to whoever asked.
	s := newScene(t, impl.Config{Room: 4, Quantum: 1000, Wait: 100}, "one", "if (path == '/t') { throw path; } return len(path);")
	s.open(0, 1, 3)
	s.get(3, "/one/abc")
	s.get(1, "/one/t")
	s.get(0, "/one")
	s.last(1, "/one/abcdefg")
	s.tick(out(0, reply(200, "1")), outAndShut(1, reply(500, "/t"), lastReply(200, "8")), out(3, reply(200, "4")))
}

// The last tick makes it MaxNow; behind it all stays as it was, but bytes are still taken.
func TestMaxNow(t *testing.T) {
	s := newScene(t, impl.Config{Room: 2, Quantum: 1, Wait: 3}, "one", quickSource, "two", spinsSource)
	s.host.Now = 49997
	s.open(0, 1)
	s.get(0, "/one/a")
	s.get(1, "/two/b")
	s.tick()
	s.tick()
	s.tick(out(0, reply(504, "late")), out(1, reply(504, "late")))
	if s.host.Now != 50000 {
		t.Errorf("Now is %d", s.host.Now)
	}
	s.get(0, "/one/c")
	s.get(1, "/none", out(1, reply(404, "none")))
	s.last(1, "/two/d")
	s.jobs(1, 1)
	for range 2 {
		same, sent, code := impl.HostTick(s.host)
		wantHost(t, "HostTick at MaxNow", same, code, s.host, impl.ErrMany)
		if len(sent) != 0 {
			t.Errorf("HostTick at MaxNow: sent%s", toldSent(sent))
		}
		s.host = same
	}
	wantHostAnswers(t, s.host)
	s.shut(0)
	s.jobs(0, 1)
	s.host.Now = 50001
	if _, _, code := impl.HostTick(s.host); code != impl.ErrBad || impl.HostOK(s.host) {
		t.Errorf("HostTick behind MaxNow: %d", code)
	}
}

// TurnOf goes by the jobs that there are, and changes nothing.
func TestTurnOf(t *testing.T) {
	s := newScene(t, impl.Config{Room: 1, Quantum: 3, Wait: 50}, "one", spinsSource, "two", quickSource, "three", spinsSource)
	turn := func(want, wantCode int) {
		t.Helper()
		if k, code := impl.TurnOf(s.host); k != want || code != wantCode {
			t.Errorf("TurnOf = %d, %d; want %d, %d", k, code, want, wantCode)
		}
	}
	turn(0, impl.ErrNone)
	s.open(0)
	s.get(0, "/three")
	turn(2, impl.OK)
	s.get(0, "/two/a")
	turn(1, impl.OK)
	s.get(0, "/one")
	turn(0, impl.OK)
	s.tick()
	turn(1, impl.OK)
	s.tick()
	turn(2, impl.OK)
	s.tick()
	turn(0, impl.OK)
	s.tick()
	turn(2, impl.OK)
	s.shut(0)
	turn(0, impl.ErrNone)
	if k, code := impl.TurnOf(impl.Host{}); k != 0 || code != impl.ErrBad {
		t.Errorf("TurnOf of a wrong host = %d, %d", k, code)
	}
}

// In a tick every job goes that has waited as long as it may: so none waits longer, be the host as busy as it can.
func TestBusyHosts(t *testing.T) {
	t.Parallel()
	for wait := 1; wait <= 6; wait++ {
		s := newScene(t, impl.Config{Room: 4, Quantum: 7, Wait: wait}, "one", spinsSource, "two", mixedSource, "three", quickSource, "four", endsSource)
		s.open(0, 1, 2, 3)
		asked, answered, late := 0, 0, 0
		for n := range 40 {
			for k := range 4 {
				path := pathOf(s.host.Tenants[(n+k)%4].Name, n)
				got := wantHostBytes(t, s.host, k, requestOf(path, false))
				if s.host = got.host; got.code == impl.OK {
					asked++
				}
				answered += repliesIn(got.sent)
			}
			got := wantHostTick(t, s.host)
			answered += repliesIn(got.sent)
			for _, out := range got.sent {
				late += strings.Count(out.Bytes, "HTTP/1.1 504 ")
			}
			s.host = got.host
			wantNoneLate(t, s.host)
		}
		for range 12 * wait {
			got := wantHostTick(t, s.host)
			answered += repliesIn(got.sent)
			s.host = got.host
			wantNoneLate(t, s.host)
		}
		s.jobs(0, 0, 0, 0)
		s.words("idle idle idle idle")
		if asked != answered || late < 5 {
			t.Errorf("wait %d: %d asked, %d answered, %d late", wait, asked, answered, late)
		}
	}
}

func repliesIn(list []impl.Sent) int {
	count := 0
	for _, out := range list {
		count += strings.Count(out.Bytes, "HTTP/1.1 ")
	}
	return count
}

func wantNoneLate(t *testing.T, h impl.Host) {
	t.Helper()
	for _, x := range h.Tenants {
		for _, j := range x.Queue {
			if j.Since > h.Now || h.Now-j.Since >= h.Config.Wait {
				t.Errorf("at %d, with a Wait of %d, there waits%s", h.Now, h.Config.Wait, toldJobs([]impl.Job{j}))
			}
		}
	}
}
