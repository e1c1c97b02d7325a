package tests

import (
	"fmt"
	"math"
	"slices"
	"strings"
	"testing"

	"loop.example/g00370/impl"
)

const (
	endsSource  = "return path + '!';"
	throwsSoon  = "throw len(path);"
	spinsSource = "let x = 0; while (true) { x = (x + 1) % 100; } return x;"
	// mixedSource ends, throws or never ends, by the path.
	mixedSource = "function f(a) { if (a < 1) { throw 'down'; } return f(a - 1); } if (path == '/t') { f(2); } while (path == '/s') { len(path); } if (path == '/r') { return 1 / 0; } return path + '?';"
)

// jobsOf has a job of each path, with an Id, a Seq and a Since that rise, on the connections 0 and 1 in turn.
func jobsOf(paths ...string) []impl.Job {
	var list []impl.Job
	for k, path := range paths {
		list = append(list, impl.Job{Id: 10 + k, Conn: k % 2, Seq: 20 + k, Path: path, Since: 30 + k})
	}
	return list
}

// tenantWith admits a job of each path.
func tenantWith(t *testing.T, source string, paths ...string) impl.Tenant {
	t.Helper()
	x, code := impl.MakeTenant("one", source)
	if code != impl.OK {
		t.Fatalf("MakeTenant of %q: %d", source, code)
	}
	for _, j := range jobsOf(paths...) {
		next, code := impl.TenantAdmit(x, j, 4)
		if code != impl.OK {
			t.Fatalf("TenantAdmit of %q: %d", j.Path, code)
		}
		x = next
	}
	return x
}

func TestTenantConstantsAreTheDocuments(t *testing.T) {
	if impl.TeReady != 1 || impl.TeFailed != 2 || impl.MaxTenants != 4 || impl.MaxQueue != 4 {
		t.Errorf("they are %d %d %d %d", impl.TeReady, impl.TeFailed, impl.MaxTenants, impl.MaxQueue)
	}
}

func TestTenantsOfSourcesWithCode(t *testing.T) {
	for _, source := range []string{"", " ", "1;", endsSource, throwsSoon, spinsSource, mixedSource, strings.Repeat(" ", 600), strings.Repeat("1;", 66), strings.Repeat(" ", 598) + "1;"} {
		x := wantMade(t, "one", source)
		if p := compiled(t, source); x.State != impl.TeReady || !sameProgram(x.Program, p) || x.Name != "one" || x.Source != source || x.Fuel != 0 || len(x.Queue) != 0 {
			t.Errorf("MakeTenant of %q = %s", source, toldTenant(x))
		}
		wantTenantAnswers(t, x)
	}
	for _, c := range outcomes() {
		wantTenantAnswers(t, wantMade(t, "a", c.source))
	}
}

// faultySources has of each code that CompileSource can have within MaxSource bytes some sources.
func faultySources() map[string]int {
	return map[string]int{
		"#": impl.ErrForm, "let = 1;": impl.ErrForm, "x": impl.ErrForm, "'a": impl.ErrForm, "{ function f() { } }": impl.ErrForm, "\x00": impl.ErrForm, "\xff": impl.ErrForm, strings.Repeat("#", 600): impl.ErrForm,
		strings.Repeat(";", 301): impl.ErrMany, strings.Repeat("1;", 150): impl.ErrMany, numbered(0, 9, "function f#(){}"): impl.ErrMany, "function f(a, b, c, d, e) { }": impl.ErrMany,
		strings.Repeat("(", 30): impl.ErrDeep, strings.Repeat("{", 21): impl.ErrDeep,
		"x;": impl.ErrName, "x = 1;": impl.ErrName, "f();": impl.ErrName,
		"len();": impl.ErrCount, "function f() { } f(1);": impl.ErrCount,
		"let path = 1;": impl.ErrTwice, "function f() { } function f() { }": impl.ErrTwice, "function len() { }": impl.ErrTwice, "function f(a, a) { }": impl.ErrTwice,
		numbered(0, 20, "let v#=1;"): impl.ErrFull,
	}
}

func TestTenantsOfSourcesWithoutCode(t *testing.T) {
	for source, code := range faultySources() {
		if _, got := impl.CompileSource(source); got != code {
			t.Errorf("CompileSource(%q): %d, want %d", source, got, code)
		}
		x := wantMade(t, "bad", source)
		if x.State != impl.TeFailed || len(x.Program.Funcs) != 0 || x.Source != source || x.Fuel != 0 {
			t.Errorf("MakeTenant of %q = %s", source, toldTenant(x))
		}
		wantTenantAnswers(t, x)
		// It has had instructions, whenever that was; it has no jobs, and gets none.
		x.Fuel = 1000000000
		wantTenantAnswers(t, x)
		for room := range 5 {
			if same, code := wantAdmit(t, x, impl.Job{}, room); code != impl.ErrForm || same.Fuel != x.Fuel {
				t.Errorf("TenantAdmit of %q with room %d: %d", source, room, code)
			}
		}
		for _, queue := range [][]impl.Job{jobsOf("/a"), jobsOf("/a", "/b", "/c", "/d"), make([]impl.Job, 5)} {
			x.Queue = queue
			wantWrongTenant(t, "a failed one with jobs", x)
		}
	}
}

func TestNamesOfTenants(t *testing.T) {
	for _, name := range []string{"a", "Z", "_", "a1", "one", "spin", "eightabc", "________", "A2345678", "let", "path"} {
		x := wantMade(t, name, endsSource)
		if x.Name != name || x.State != impl.TeReady {
			t.Errorf("MakeTenant of %q = %s", name, toldTenant(x))
		}
		wantTenantAnswers(t, x)
	}
	right := wantMade(t, "one", endsSource)
	names := []string{"", "9", "1a", "a b", " a", "a ", "a-b", "a.", "/", "\x00", "\xc3\xa4", "ninechars", "a23456789", strings.Repeat("a", 20), strings.Repeat("a", 40), strings.Repeat("a", 41), strings.Repeat("a", 65536)}
	for c := range 256 {
		names = append(names, string([]byte{byte(c)}), string([]byte{'a', byte(c)}), string([]byte{'a', byte(c), 'b', 'c', 'd', 'e', 'f', 'g'}), string([]byte{'a', byte(c), 'b', 'c', 'd', 'e', 'f', 'g', 'h'}))
	}
	for _, name := range names {
		if len(name) > 8 {
			x, code := impl.MakeTenant(name, endsSource)
			wantTenant(t, "a name of "+fmt.Sprint(len(name)), x, code, impl.Tenant{}, impl.ErrRange)
		}
		wantMade(t, name, endsSource)
		x := right
		x.Name = name
		if impl.TenantOK(x) != rightTenant(x) {
			t.Errorf("TenantOK of the name %.20q = %v", name, !rightTenant(x))
		}
	}
}

// What is too long is told ahead of all else, and a wrong name, or a source of more than MaxSource bytes, ahead of what it says.
func TestHowLongNamesAndSourcesMayBe(t *testing.T) {
	for _, source := range []string{strings.Repeat(" ", 600), strings.Repeat("#", 600), strings.Repeat(" ", 601), strings.Repeat("#", 601), strings.Repeat(" ", 65536), strings.Repeat(" ", 65537), strings.Repeat("#", 200000)} {
		for _, name := range []string{"one", "eightabc", "", "9", "ninechars", strings.Repeat("a", 65536), strings.Repeat("a", 65537), strings.Repeat("9", 200000)} {
			x, code := impl.MakeTenant(name, source)
			long := len(source) > 65536 || len(name) > 65536
			switch {
			case long:
				wantTenant(t, "too long", x, code, impl.Tenant{}, impl.ErrLong)
			case len(source) > 600 || !slices.Contains([]string{"one", "eightabc"}, name):
				wantTenant(t, "out of its bounds", x, code, impl.Tenant{}, impl.ErrRange)
			default:
				if code != impl.OK || x.State != map[byte]int{' ': impl.TeReady, '#': impl.TeFailed}[source[0]] {
					t.Errorf("MakeTenant of %q, %.20q = %s, %d", name, source, toldTenant(x), code)
				}
			}
			wantMade(t, name, source)
		}
		// Within a tenant nothing is too long, but wrong.
		x := impl.Tenant{Name: "one", Source: source, State: impl.TeFailed}
		if len(source) > 600 {
			wantWrongTenant(t, "a long source", x)
			x.State = impl.TeReady
			x.Program = compiled(t, "")
			wantWrongTenant(t, "a long source", x)
		}
	}
}

// Up to each room jobs join behind the others; one more is shed.
func TestAdmitUpToEachRoom(t *testing.T) {
	all := jobsOf("/a", "/b", "/c", "/d", "/e")
	for room := range 5 {
		x := wantMade(t, "one", mixedSource)
		x.Fuel = 77
		for k, j := range all {
			next, code := wantAdmit(t, x, j, room)
			if k < room {
				if code != impl.OK || !sameJobs(next.Queue, all[:k+1]) || next.Fuel != 77 || !impl.TenantOK(next) {
					t.Errorf("job %d with room %d: %s, %d", k, room, toldTenant(next), code)
				}
			} else if code != impl.ErrFull || !sameTenant(next, x) {
				t.Errorf("job %d with room %d: %s, %d", k, room, toldTenant(next), code)
			}
			x = next
			wantTenantAnswers(t, x)
		}
		// With less room than there are jobs: nothing goes.
		for less := range room + 1 {
			if same, code := wantAdmit(t, x, all[4], less); code != impl.ErrFull || len(same.Queue) != room {
				t.Errorf("%d jobs with room %d: %s, %d", room, less, toldTenant(same), code)
			}
		}
		for _, room := range []int{-1, 5, 6, 4096, -4, 1 << 32, 1<<32 + 1, -1 << 32, math.MinInt, math.MaxInt} {
			got, code := impl.TenantAdmit(x, all[4], room)
			wantTenant(t, fmt.Sprintf("room %d", room), got, code, impl.Tenant{}, impl.ErrRange)
		}
	}
}

// A job is admitted behind one that has Begun, and while there are others of the same Id, Seq, Path and Conn.
func TestAdmitBehindAJobThatHasBegun(t *testing.T) {
	x := tenantWith(t, mixedSource, "/s", "/s")
	x, _ = wantTurn(t, x, 30)
	first := x.Queue[0]
	for k := range 2 {
		next, code := wantAdmit(t, x, impl.Job{Id: 10, Conn: 0, Seq: 20, Path: "/s"}, 4)
		if code != impl.OK || len(next.Queue) != 3+k || !sameJob(next.Queue[0], first) || !first.Begun || next.Queue[2+k].Begun || next.Fuel != 30 || !impl.TenantOK(next) {
			t.Errorf("TenantAdmit: %s, %d", toldTenant(next), code)
		}
		x = next
	}
	if same, code := wantAdmit(t, x, impl.Job{}, 4); code != impl.ErrFull || !sameTenant(same, x) {
		t.Errorf("TenantAdmit: %s, %d", toldTenant(same), code)
	}
}

// Of several faults the first one in the document's order is told.
func TestWhichCodeOfAdmitComesFirst(t *testing.T) {
	ready, full, failed, wrong := wantMade(t, "one", ""), tenantWith(t, "", "/a", "/b", "/c", "/d"), wantMade(t, "bad", "#"), impl.Tenant{}
	begun, bad := impl.Job{Begun: true}, impl.Job{Id: -1}
	for what, c := range map[string]struct {
		x    impl.Tenant
		j    impl.Job
		room int
		code int
	}{
		"a wrong tenant ahead of a wrong job":         {wrong, bad, 9, impl.ErrBad},
		"a wrong tenant ahead of a wrong room":        {wrong, impl.Job{}, 9, impl.ErrBad},
		"a wrong job ahead of a wrong room":           {ready, bad, 9, impl.ErrBad},
		"a job that has Begun ahead of a wrong room":  {ready, begun, -1, impl.ErrBad},
		"a wrong job ahead of a failed tenant":        {failed, bad, 4, impl.ErrBad},
		"a job that has Begun ahead of a failed one":  {failed, begun, 0, impl.ErrBad},
		"a wrong job ahead of a full queue":           {full, bad, 4, impl.ErrBad},
		"a job that has Begun ahead of a full queue":  {full, begun, 0, impl.ErrBad},
		"a wrong room ahead of a failed tenant":       {failed, impl.Job{}, 5, impl.ErrRange},
		"a wrong room ahead of a full queue":          {full, impl.Job{}, -1, impl.ErrRange},
		"a failed tenant ahead of room for no job":    {failed, impl.Job{}, 0, impl.ErrForm},
		"a failed tenant":                             {failed, impl.Job{}, 4, impl.ErrForm},
		"a full queue":                                {full, impl.Job{}, 4, impl.ErrFull},
		"room for no job":                             {ready, impl.Job{}, 0, impl.ErrFull},
		"nothing wrong":                               {ready, impl.Job{}, 1, impl.OK},
		"a job that has Begun, and a path too long":   {ready, impl.Job{Begun: true, Path: strings.Repeat("p", 65537)}, 4, impl.ErrBad},
		"a path of more than MaxText bytes is no job": {ready, impl.Job{Path: strings.Repeat("p", 65537)}, 9, impl.ErrBad},
	} {
		if _, code := wantAdmit(t, c.x, c.j, c.room); code != c.code {
			t.Errorf("%s: %d, want %d", what, code, c.code)
		}
	}
}

func TestJobsThatWaitTooLong(t *testing.T) {
	x := tenantWith(t, mixedSource, "/a", "/s", "/b", "/t")
	x.Fuel = 5
	for wait := 1; wait <= 12; wait++ {
		for now := 25; now <= 50; now++ {
			rest, gone := wantExpire(t, x, now, wait)
			// Since is 30, 31, 32, 33.
			count := min(max(now-wait-30+1, 0), 4)
			if !sameJobs(gone, x.Queue[:count]) || !sameJobs(rest.Queue, x.Queue[count:]) || rest.Fuel != 5 || !impl.TenantOK(rest) {
				t.Errorf("at %d with %d: %s; gone%s", now, wait, toldTenant(rest), toldJobs(gone))
			}
		}
	}
	// What goes need not stand first, and what stays keeps its order.
	for k, since := range []int{50, 10, 100, 10} {
		x.Queue[k].Since = since
	}
	for now, ids := range map[int][]int{0: {10, 11, 12, 13}, 14: {10, 11, 12, 13}, 15: {10, 12}, 54: {10, 12}, 55: {12}, 104: {12}, 105: {}, 100000: {}} {
		rest, gone := wantExpire(t, x, now, 5)
		if !slices.Equal(idsOf(rest.Queue), ids) || len(rest.Queue)+len(gone) != 4 || !slices.IsSorted(idsOf(gone)) {
			t.Errorf("at %d there stay %v, and go %v", now, idsOf(rest.Queue), idsOf(gone))
		}
	}
}

func idsOf(list []impl.Job) []int {
	ids := []int{}
	for _, j := range list {
		ids = append(ids, j.Id)
	}
	return ids
}

// At the bounds: one less than wait, just wait, and more; a Since that is still to come.
func TestWaitsAndTimesAtTheBounds(t *testing.T) {
	for _, wait := range []int{1, 2, 12, 999, 1000} {
		for _, since := range []int{0, 1, 5000, 99000, 99999, 100000} {
			x := tenantWith(t, "", "/a")
			x.Queue[0].Since = since
			for _, now := range []int{0, since - 1, since, since + wait - 1, since + wait, since + wait + 1, 100000} {
				if now < 0 || now > 100000 {
					continue
				}
				rest, gone := wantExpire(t, x, now, wait)
				if late := now-since >= wait; len(gone) != map[bool]int{true: 1}[late] || len(rest.Queue) != 1-len(gone) {
					t.Errorf("since %d at %d with %d: %s", since, now, wait, toldTenant(rest))
				}
			}
		}
	}
	x := tenantWith(t, mixedSource, "/a", "/b")
	for _, times := range [][2]int{{-1, 1}, {100001, 1}, {0, 0}, {0, -1}, {0, 1001}, {100000, 1001}, {-1, 0}, {1 << 32, 5}, {5, 1<<32 + 5}, {math.MinInt, 1}, {math.MaxInt, 1}, {5, math.MinInt}, {5, math.MaxInt}} {
		rest, gone, code := impl.TenantExpire(x, times[0], times[1])
		wantTenant(t, fmt.Sprint("TenantExpire of ", times), rest, code, impl.Tenant{}, impl.ErrRange)
		wantJobs(t, "TenantExpire", gone, nil)
		rest, gone, code = impl.TenantExpire(impl.Tenant{}, times[0], times[1])
		wantTenant(t, "a wrong tenant comes first", rest, code, impl.Tenant{}, impl.ErrBad)
		wantJobs(t, "TenantExpire", gone, nil)
	}
}

// A job that has Begun waits, too; it goes with the machine that it had, and the one behind it begins anew.
func TestJobsThatHaveBegunGoToo(t *testing.T) {
	x := tenantWith(t, mixedSource, "/s", "/b")
	x, _ = wantTurn(t, x, 50)
	rest, gone := wantExpire(t, x, 40, 10)
	if len(gone) != 1 || !sameJob(gone[0], x.Queue[0]) || !gone[0].Begun || gone[0].Machine.Used != 50 || rest.Fuel != 50 || rest.Queue[0].Begun {
		t.Errorf("TenantExpire: %s; gone%s", toldTenant(rest), toldJobs(gone))
	}
	wantJobReply(t, gone[0])
	rest, over := wantTurn(t, rest, 1000)
	if len(over) != 1 || over[0].Id != 11 || len(rest.Queue) != 0 {
		t.Errorf("TenantRun: %s; over%s", toldTenant(rest), toldJobs(over))
	}
	// Jobs behind one that has Begun go, and it stays as it is.
	x.Queue[0].Since = 99
	rest, gone = wantExpire(t, x, 100, 10)
	if !slices.Equal(idsOf(gone), []int{11}) || !sameJob(rest.Queue[0], x.Queue[0]) || !impl.TenantOK(rest) {
		t.Errorf("TenantExpire: %s; gone%s", toldTenant(rest), toldJobs(gone))
	}
	for conn, ids := range map[int][]int{0: {11}, 1: {10}, 2: {10, 11}} {
		rest := wantDrop(t, x, conn)
		if !slices.Equal(idsOf(rest.Queue), ids) || rest.Fuel != 50 || rest.Queue[0].Begun != (ids[0] == 10) || !impl.TenantOK(rest) {
			t.Errorf("TenantDrop of %d: %s", conn, toldTenant(rest))
		}
	}
}

// Of each way to put four jobs onto the connections those of one go, and the others keep their order.
func TestJobsOfAConnectionAreDropped(t *testing.T) {
	x := tenantWith(t, endsSource, "/a", "/b", "/c", "/d")
	for bits := range 256 {
		for k := range x.Queue {
			x.Queue[k].Conn = []int{0, 1, 3, 7}[bits>>(2*k)&3]
		}
		for _, conn := range []int{0, 1, 2, 3, 7} {
			rest := wantDrop(t, x, conn)
			for _, j := range rest.Queue {
				if j.Conn == conn {
					t.Errorf("TenantDrop of %d: %s", conn, toldTenant(rest))
				}
			}
		}
	}
	// Any integer may be asked for; of most there are no jobs.
	for _, conn := range append(oddNumbers(), -7, 10, 100000, 1<<32+7) {
		rest := wantDrop(t, x, conn)
		if conn != 7 && !sameTenant(rest, x) || conn == 7 && len(rest.Queue) != 0 {
			t.Errorf("TenantDrop of %d: %s", conn, toldTenant(rest))
		}
	}
}

func TestQueuePaths(t *testing.T) {
	paths := []string{"", "/", strings.Repeat("p", 60), "\x00\xff\n'"}
	for count := range 5 {
		x := tenantWith(t, endsSource, paths[:count]...)
		if got, code := impl.QueuePaths(x); !slices.Equal(got, paths[:count]) || code != impl.OK {
			t.Errorf("QueuePaths = %q, %d", got, code)
		}
		wantTenantAnswers(t, x)
	}
	x := tenantWith(t, mixedSource, "/s", "/s", "/t")
	x, _ = wantTurn(t, x, 9)
	if got, code := impl.QueuePaths(x); !slices.Equal(got, []string{"/s", "/s", "/t"}) || code != impl.OK {
		t.Errorf("QueuePaths = %q, %d", got, code)
	}
}

func TestJobReply(t *testing.T) {
	for _, c := range []struct {
		state  int
		v      impl.Value
		status int
		body   string
	}{
		{impl.MaDone, null, 200, "null"}, {impl.MaDone, num(-7), 200, "-7"}, {impl.MaDone, yes, 200, "true"}, {impl.MaDone, no, 200, "false"}, {impl.MaDone, word("it's"), 200, "it's"}, {impl.MaDone, word(""), 200, ""},
		{impl.MaThrew, null, 500, "null"}, {impl.MaThrew, num(impl.MinInt), 500, "-2147483648"}, {impl.MaThrew, yes, 500, "true"}, {impl.MaThrew, no, 500, "false"}, {impl.MaThrew, word("deep"), 500, "deep"}, {impl.MaThrew, word(""), 500, ""},
	} {
		status, body, code := impl.JobReply(impl.Job{Begun: true, Machine: impl.Machine{State: c.state, Value: c.v}})
		if status != c.status || body != c.body || code != impl.OK {
			t.Errorf("JobReply of %d, %s = %d, %q, %d", c.state, tell(c.v), status, body, code)
		}
	}
	// Nothing else of a job is looked at.
	odd := []impl.Job{{}, {Id: -1, Conn: 99, Seq: math.MaxInt, Since: math.MinInt, Path: strings.Repeat("p", 70000), Begun: true}}
	machines := []impl.Machine{{}, {Used: -1, Frames: make([]impl.CallFrame, 9)}}
	for _, v := range append(rightValues(), wrongValues()...) {
		for _, state := range append(oddNumbers(), 1<<32+1, 1<<32+2, -3) {
			for _, j := range odd {
				for _, m := range machines {
					m.State, m.Value = state, v
					j.Machine = m
					wantJobReply(t, j)
				}
			}
		}
	}
	for _, v := range wrongValues() {
		for state := range 5 {
			if status, body, code := impl.JobReply(impl.Job{Machine: impl.Machine{State: state, Value: v}}); status != 0 || body != "" || code != impl.ErrBad {
				t.Errorf("JobReply of %d with a wrong value = %d, %q, %d", state, status, body, code)
			}
		}
	}
	for _, v := range rightValues() {
		if status, body, code := impl.JobReply(impl.Job{Machine: impl.Machine{State: impl.MaRun, Value: v}}); status != 0 || body != "" || code != impl.ErrFuel {
			t.Errorf("JobReply of one that runs = %d, %q, %d", status, body, code)
		}
	}
}
