package tests

import (
	"fmt"
	"slices"
	"strings"
	"testing"

	"loop.example/g00370/impl"
)

// busyNames are tenants' names in their order.
func busyNames() []string { return []string{"one", "two", "three", "four"} }

// fairHost has so many tenants, of which one has the source, and all others spin, each with a job already; the watched one has the jobs that are told, on connection 0, and all came at the same time.
func fairHost(t *testing.T, c impl.Config, tenants, watched, turn int, source string, paths []string) impl.Host {
	t.Helper()
	sources := slices.Repeat([]string{"while (true) { }"}, tenants)
	sources[watched] = source
	names := busyNames()[:tenants]
	h, code := impl.NewHost(c, names, sources)
	if code != impl.OK {
		t.Fatalf("NewHost of %+v, %d tenants: %d", c, tenants, code)
	}
	h.Turn = turn
	own, others := "", ""
	for _, path := range paths {
		own += requestOf("/"+names[watched]+path, false)
	}
	for _, name := range slices.Delete(slices.Clone(names), watched, watched+1) {
		others += requestOf("/"+name, false)
	}
	for k, text := range []string{own, others} {
		h, _ = impl.HostOpen(h, k)
		next, sent, code := impl.HostBytes(h, k, text)
		if code != impl.OK || len(sent) > 0 {
			t.Fatalf("HostBytes of %q: %d, sent%s", text, code, toldSent(sent))
		}
		h = next
	}
	return h
}

// ticksUntil has at which tick the last of so many replies comes to connection 0, and all that came there.
func ticksUntil(t *testing.T, h impl.Host, replies, most int) (int, string) {
	t.Helper()
	text := ""
	for tick := 1; tick <= most; tick++ {
		next, sent, code := impl.HostTick(h)
		if code != impl.OK {
			t.Fatalf("HostTick: %d", code)
		}
		h = next
		for _, out := range sent {
			if out.Conn == 0 {
				text += out.Bytes
			}
		}
		if strings.Count(text, "HTTP/1.1 ") == replies {
			return tick, text
		}
	}
	t.Errorf("behind %d ticks there is only %q", most, text)
	return most, text
}

// turnsNeeded is how often a tenant has its turn until so many instructions are done.
func turnsNeeded(work, quantum int) int { return (work + quantum - 1) / quantum }

// The theorem by hand: 25 instructions by 10 take three turns of two tenants each, so 6 ticks at most.
func TestFairnessByHand(t *testing.T) {
	source := costing(25, 200)
	for wait := 1; wait <= 9; wait++ {
		c := impl.Config{Room: 1, Quantum: 10, Wait: wait}
		if got := wantTicksFor(t, c, 2, 0, 25); got != 6 {
			t.Errorf("TicksFor = %d", got)
		}
		for turn, last := range []int{5, 6} { // the first turn is its own, or that of the other one
			h := fairHost(t, c, 2, 0, turn, source, []string{"/a"})
			tick, text := ticksUntil(t, h, 1, 20)
			if last < wait {
				wantRightReply(t, source, "/a", text, true, impl.OK)
			} else {
				wantRightReply(t, source, "/a", text, false, impl.OK)
				last = wait
				if text != reply(504, "late") {
					t.Errorf("with a Wait of %d it is answered by %q", wait, text)
				}
			}
			if tick != last {
				t.Errorf("with a Wait of %d, from turn %d on, it was answered at %d; not %d", wait, turn, tick, last)
			}
		}
	}
}

// A job goes at the tick that makes it Wait: so it has one tick less, and is in time, whatever the others do, if TicksFor's ticks are fewer than Wait. With just as many it is late only if its last turn is the very last one of them; with more it may be in time still.
func TestTheTheoremOfFairness(t *testing.T) {
	t.Parallel()
	counts := map[string]int{}
	for tenants := 1; tenants <= 4; tenants++ {
		for watched := range tenants {
			for turn := range tenants {
				for _, quantum := range []int{1, 3, 5, 8, 1000} {
					for _, jobs := range [][]int{{2, 2}, {3, 3}, {2, 9}, {4, 8}, {3, 15}} {
						count, cost := jobs[0]-1, jobs[1]
						wantFair(t, counts, tenants, watched, turn, quantum, count, cost)
						if t.Failed() {
							return
						}
					}
				}
			}
		}
	}
	for what, least := range map[string]int{"fewer, right": 500, "as many, right": 200, "as many, late": 100, "more, right": 100, "more, late": 200} {
		if counts[what] < least {
			t.Errorf("only %d times %q: %v", counts[what], what, counts)
		}
	}
}

// wantFair: of so many jobs that cost the same the last one is watched; the others are ahead of it.
func wantFair(t *testing.T, counts map[string]int, tenants, watched, turn, quantum, count, cost int) {
	t.Helper()
	source := costing(cost, []int{200, 500}[cost%2])
	work := count * cost
	c := impl.Config{Room: 4, Quantum: quantum, Wait: 1}
	ticks := wantTicksFor(t, c, tenants, work-cost, cost)
	first := (watched-turn+tenants)%tenants + 1
	last := first + (turnsNeeded(work, quantum)-1)*tenants
	if last > ticks {
		t.Errorf("TicksFor by %d of %d tenants, %d: %d, but the last turn is at %d", quantum, tenants, work, ticks, last)
	}
	waits := []int{last, last + 1, max(ticks-1, 1), ticks, ticks + 1}
	slices.Sort(waits)
	for _, wait := range slices.Compact(waits) {
		c.Wait = wait
		h := fairHost(t, c, tenants, watched, turn, source, slices.Repeat([]string{"/a"}, count))
		tick, text := ticksUntil(t, h, count, ticks+2)
		what := map[int]string{-1: "more", 0: "as many", 1: "fewer"}[max(-1, min(1, wait-ticks))]
		told := fmt.Sprintf("by %d of %d tenants, tenant %d from %d on, %d jobs of %d, with a Wait of %d: %d ticks, %s", quantum, tenants, watched, turn, count, cost, wait, ticks, what)
		mine := text[strings.LastIndex(text, "HTTP/1.1 "):]
		right, _ := impl.RightReply(source, "/a", mine)
		switch {
		case what == "fewer" && (!right || tick > ticks):
			t.Errorf("%s: answered at %d by %q", told, tick, mine)
		case right && tick != last, right != (last < wait), !right && (mine != reply(504, "late") || tick != wait):
			t.Errorf("%s: answered at %d by %q, the last turn is at %d", told, tick, mine, last)
		case what == "as many" && !right && work%quantum == 0:
			t.Errorf("%s: a quotient that is whole has a turn more than it takes, but it is late", told)
		}
		counts[what+map[bool]string{true: ", right", false: ", late"}[right]]++
	}
}

// What the others do does not make it later: whether they spin, throw, fail, are refused, come and go, or are not there.
func TestFairnessWithOthersOfEachKind(t *testing.T) {
	t.Parallel()
	source := costing(47, 200)
	others := map[string]string{"spin": spinsSource, "throw": throwsSoon, "fail": wrongSource, "end": endsSource, "deep": "function f(n) { return f(n); } while (true) { try { f(1); } catch (e) { } }", "none": ""}
	for _, quantum := range []int{6, 10, 47} {
		for _, first := range []string{"spin", "throw", "fail", "end", "deep", "none"} {
			for _, second := range []string{"spin", "fail", "none"} {
				c := impl.Config{Room: 1, Quantum: quantum, Wait: 1000}
				ticks := wantTicksFor(t, c, 3, 0, 47)
				c.Wait = ticks + 1
				s := newScene(t, c, "a", others[first], "one", source, "b", others[second])
				s.open(0, 1, 2, 3)
				s.host.Turn = 2
				s.get(0, "/one/mine")
				text := ""
				for range ticks {
					// The others ask for more than there is room, of what there is not, too; one comes and goes.
					for k, path := range []string{"/a/1", "/b/2", "/a/3", "/none/4", "/one/5"} {
						conn := 1 + k%2
						if s.host = wantHostBytes(t, s.host, conn, requestOf(path, false)).host; len(s.host.Conns[conn].In) > 200 {
							s.host, _ = impl.HostClose(s.host, conn)
							s.host, _ = impl.HostOpen(s.host, conn)
						}
					}
					got := wantHostTick(t, s.host)
					for _, out := range got.sent {
						if out.Conn == 0 {
							text += out.Bytes
						}
					}
					s.host = got.host
				}
				wantRightReply(t, source, "/mine", text, true, impl.OK)
				if text != reply(200, "/mine") {
					t.Errorf("with %s and %s it is answered by %q", first, second, text)
				}
			}
		}
	}
}

// Where its tenant's turns do not suffice a request is late: with jobs ahead, with other tenants, or by itself; less of any of these, and it is right.
func TestWhereTurnsDoNotSuffice(t *testing.T) {
	source := costing(30, 200)
	for _, c := range []struct {
		quantum, tenants, count, wait int
		late                          bool
	}{
		{10, 1, 1, 4, false}, {10, 1, 1, 3, true}, {10, 1, 2, 7, false}, {10, 1, 2, 6, true}, {10, 1, 4, 13, false}, {10, 1, 4, 12, true},
		{10, 4, 1, 13, false}, {10, 4, 1, 12, true}, {10, 2, 2, 13, false}, {10, 2, 2, 12, true}, {30, 4, 1, 5, false}, {30, 4, 1, 4, true}, {29, 4, 1, 9, false}, {29, 4, 1, 8, true},
		{1, 1, 1, 31, false}, {1, 1, 1, 30, true}, {1000, 1, 4, 2, false}, {1000, 1, 1, 1, true}, {1000, 4, 4, 5, false}, {1000, 4, 4, 4, true},
	} {
		h := fairHost(t, impl.Config{Room: 4, Quantum: c.quantum, Wait: c.wait}, c.tenants, c.tenants-1, 0, source, slices.Repeat([]string{"/a"}, c.count))
		_, text := ticksUntil(t, h, c.count, c.wait)
		mine := text[strings.LastIndex(text, "HTTP/1.1 "):]
		if want := map[bool]string{false: reply(200, "/a"), true: reply(504, "late")}[c.late]; mine != want {
			t.Errorf("by %d of %d tenants, %d jobs, with a Wait of %d, the last one is answered by %q", c.quantum, c.tenants, c.count, c.wait, mine)
		}
	}
}

// What does not end is late in a host, too, so that its reply is the right one, however long it may wait. What ends, but not within MaxFuel, has no cost: a host that gives it more than that answers as it ends.
func TestHostsOfSourcesThatDoNotEnd(t *testing.T) {
	for _, wait := range []int{1, 2, 7, 30, 1000} {
		h := fairHost(t, impl.Config{Room: 1, Quantum: 1000, Wait: wait}, 2, 1, 0, spinsSource, []string{"/a"})
		tick, text := ticksUntil(t, h, 1, wait)
		wantRightReply(t, spinsSource, "/a", text, true, impl.OK)
		if tick != wait {
			t.Errorf("with a Wait of %d it was late at %d", wait, tick)
		}
	}
	for cost, inTime := range map[int]bool{20000: true, 20001: false, 21000: false} {
		source := costing(cost, 200)
		for _, wait := range []int{15, 100} {
			h := fairHost(t, impl.Config{Room: 1, Quantum: 1000, Wait: wait}, 1, 0, 0, source, []string{"/a"})
			_, text := ticksUntil(t, h, 1, wait)
			wantRightReply(t, source, "/a", text, inTime == (wait == 100), impl.OK)
			if want := map[int]string{15: reply(504, "late"), 100: reply(200, "/a")}[wait]; text != want {
				t.Errorf("%d instructions with a Wait of %d: %q", cost, wait, text)
			}
		}
	}
}
