package tests

import (
	"math/rand"
	"slices"
	"testing"

	"loop.example/g00370/impl"
)

// tenantSource is of one of several kinds; few of them have no code.
func (g *gardener) tenantSource() string {
	switch g.Intn(8) {
	case 0:
		return g.rootWritten(g.tended(3+g.Intn(40), g.Intn(4)))
	case 1:
		return outcomes()[g.Intn(len(outcomes()))].source
	case 2:
		return []string{endsSource, throwsSoon, spinsSource, mixedSource}[g.Intn(4)]
	case 3:
		return "let x = len(path); while (x < " + g.word("3 30 300") + ") { x = x + 1; } " + g.word("return throw") + " x;"
	case 4, 5:
		return "let x=0;" + g.wrapped(g.Intn(6)) + "return x*10;function f(x){" + g.wrapped(g.Intn(4)) + "return x+1;}"
	case 6:
		return g.spoiltText(mixedSource)
	}
	return "let x=1;let y=2;" + g.typed(2) + "return x+y;function f(x){let y=3;" + g.typed(1) + "return x+1;}function g(x,y){try{" + g.typed(0) + "}catch(e){return f(e);}return f(x)*y;}"
}

func (g *gardener) job(id int) impl.Job {
	return impl.Job{Id: id, Conn: g.Intn(8), Seq: g.Intn(100001), Path: g.word("/ /a /t /s /r /abcdefgh x"), Since: g.Intn(50)}
}

// Tenants to whom all kinds of things happen, each held against what is reckoned.
func TestTenantsByChance(t *testing.T) {
	t.Parallel()
	g := &gardener{Rand: rand.New(rand.NewSource(41))}
	ends := map[string]int{}
	for range 250 {
		source := g.tenantSource()
		x := wantMade(t, "one", source)
		if x.Source == "" && source != "" {
			ends["range"]++
			continue
		}
		code := 0
		for id := range 30 {
			switch g.Intn(9) {
			case 0, 1, 2:
				x, code = wantAdmit(t, x, g.job(id), g.Intn(5))
				ends[codeTable()[code].word]++
			case 3:
				was := len(x.Queue)
				x = wantDrop(t, x, g.Intn(9))
				ends["dropped"] += was - len(x.Queue)
			case 4:
				gone := []impl.Job(nil)
				x, gone = wantExpire(t, x, g.Intn(60), 1+g.Intn(60))
				ends["late"] += len(gone)
			default:
				quantum := 1 + g.Intn([]int{5, 20, 100, 400}[g.Intn(4)])
				next, over := wantTurn(t, x, quantum)
				wantQuantumKept(t, x, next, over, quantum)
				for _, j := range over {
					wantReplyMeant(t, source, j.Path, j)
					wantJobReply(t, j)
					ends[map[int]string{impl.MaDone: "done", impl.MaThrew: "threw"}[j.Machine.State]]++
				}
				if len(over) > 1 || len(over) == 1 && len(next.Queue) > 0 && next.Queue[0].Begun {
					ends["shared"]++
				}
				x = next
			}
			wantPaths(t, x)
			if !impl.TenantOK(x) {
				t.Errorf("TenantOK of %s", toldTenant(x))
			}
		}
		wantTenantAnswers(t, x)
		if t.Failed() {
			return
		}
	}
	for what, least := range map[string]int{"ok": 500, "form": 50, "full": 300, "dropped": 30, "late": 30, "done": 200, "threw": 100, "shared": 50} {
		if ends[what] < least {
			t.Errorf("only %d times %q, not %d: %v", ends[what], what, least, ends)
		}
	}
}

// anyJob is as right as chance has it.
func (g *gardener) anyJob(x impl.Tenant) impl.Job {
	numbers := append(oddNumbers(), 50, 99999, 100000, 100001)
	j := g.job(g.Intn(100))
	for range g.Intn(3) {
		*[]*int{&j.Id, &j.Conn, &j.Seq, &j.Since}[g.Intn(4)] = numbers[g.Intn(len(numbers))]
	}
	switch g.Intn(6) {
	case 0:
		j.Path = g.bytes(70)
	case 1:
		j.Begun = true
	case 2:
		j.Begun = g.Intn(2) == 0
		j.Machine, _ = impl.StartMachine(x.Program, j.Path)
		j.Machine, _ = impl.RunMachine(x.Program, j.Machine, g.Intn(30))
		if len(x.Program.Funcs) > 0 && g.Intn(3) == 0 {
			j.Machine = g.spoiltMachine(x.Program, j.Machine)
		}
	}
	return j
}

// spoiltTenant changes one thing of a tenant.
func (g *gardener) spoiltTenant(x impl.Tenant) impl.Tenant {
	x = cloneTenant(x)
	numbers := append(oddNumbers(), 1000000000, 1000000001)
	number := numbers[g.Intn(len(numbers))]
	switch g.Intn(10) {
	case 0:
		x.Name = g.bytes(10)
	case 1:
		x.Source = g.spoiltText(x.Source + " ")
	case 2:
		x.State = g.Intn(4)
	case 3:
		x.State = number
	case 4:
		x.Fuel = number
	case 5:
		if len(x.Program.Funcs) > 0 {
			x.Program = g.spoiltProgram(x.Program)
		}
	case 6:
		x.Queue = append(x.Queue, g.anyJob(x))
	case 7:
		x.Queue = slices.Insert(x.Queue, 0, g.anyJob(x))
	case 8:
		x.Queue = x.Queue[min(1, len(x.Queue)):]
	default:
		if len(x.Queue) > 0 {
			x.Queue[g.Intn(len(x.Queue))] = g.anyJob(x)
		}
	}
	return x
}

func TestSpoiltTenantsByChance(t *testing.T) {
	t.Parallel()
	g := &gardener{Rand: rand.New(rand.NewSource(42))}
	right, wrong := 0, 0
	for range 1500 {
		x, _ := impl.MakeTenant(g.word("a one spin_12"), g.tenantSource())
		for id := range g.Intn(5) {
			x, _ = impl.TenantAdmit(x, g.job(id), 4)
		}
		if next, _, code := impl.TenantRun(x, 1+g.Intn(40)); code == impl.OK {
			x = next
		}
		for range 1 + g.Intn(2) {
			x = g.spoiltTenant(x)
		}
		if rightTenant(x) {
			right++
		} else {
			wrong++
		}
		wantTenantAnswers(t, x)
		wantAdmit(t, x, g.anyJob(x), 4)
		if t.Failed() {
			return
		}
	}
	if right < 100 || wrong < 500 {
		t.Errorf("%d tenants were right, %d wrong", right, wrong)
	}
}

func FuzzTenants(f *testing.F) {
	f.Add("one", mixedSource, "/s", 10, 1, 5, 3, 40, int64(1))
	f.Add("bad", "let = 1;", "", 0, 0, 0, 1, 1000, int64(2))
	f.Add("spin", spinsSource, "/a", 100000, 7, 100000, 1000, 1001, int64(3))
	f.Fuzz(func(t *testing.T, name, source, path string, id, conn, since, quantum, wait int, seed int64) {
		x := wantMade(t, name, source)
		j := impl.Job{Id: id, Conn: conn, Seq: id, Path: path, Since: since}
		for range 4 {
			if next, code := wantAdmit(t, x, j, 4); code == impl.OK {
				x = next
			}
		}
		if next, over := wantTurn(t, x, quantum); next.Name != "" {
			wantQuantumKept(t, x, next, over, quantum)
			for _, j := range over {
				wantReplyMeant(t, source, path, j)
			}
			x = next
		}
		wantExpire(t, x, since, wait)
		wantDrop(t, x, conn)
		wantTenantAnswers(t, x)
		g := &gardener{Rand: rand.New(rand.NewSource(seed))}
		wantTenantAnswers(t, g.spoiltTenant(x))
	})
}
