package tests

import (
	"math/rand"
	"slices"
	"strings"
	"testing"

	"loop.example/g00370/impl"
)

// watch is a job that was admitted: what it is asked of, and by which time it has to be answered; 0 if nothing says so.
type watch struct {
	source, path string
	due          int
}

// fairCourse is a course whose jobs are watched, from where they are admitted to their replies.
type fairCourse struct {
	*course
	watches [4]map[int]watch // of each connection, by the number of the request
	first   [4]int           // of each connection the number of its first request
	costs   map[[2]string]judged
}

func (g *gardener) newFairCourse(t *testing.T, counts map[string]int) *fairCourse {
	t.Helper()
	f := &fairCourse{course: g.newCourse(t, counts), costs: map[[2]string]judged{}}
	f.host.Config.Wait = 1 + g.Intn([]int{10, 60, 200}[g.Intn(3)])
	for k := range f.watches {
		f.watches[k] = map[int]watch{}
	}
	return f
}

// told asks the program; what it says is held against what is reckoned elsewhere.
func (f *fairCourse) told(source, path string) judged {
	key := [2]string{source, path}
	if found, ok := f.costs[key]; ok {
		return found
	}
	var j judged
	j.answer, j.answerCode = impl.AnswerOf(source, path)
	j.cost, j.costCode = impl.CostOf(source, path)
	f.costs[key] = j
	return j
}

// goOn takes what an event answered, and watches the jobs that came with it.
func (f *fairCourse) goOn(what string, got happened) {
	f.Helper()
	ids := f.host.Ids
	f.take(what, got)
	for _, x := range f.host.Tenants {
		ahead, known := 0, true
		for _, j := range x.Queue {
			told := f.told(x.Source, j.Path)
			known = known && told.costCode == impl.OK
			if j.Id >= ids {
				w := watch{source: x.Source, path: j.Path}
				if known {
					w.due = f.dueAt(ahead, told.cost)
				}
				f.watches[j.Conn][j.Seq] = w
			}
			ahead += told.cost - j.Machine.Used
		}
	}
}

// dueAt is by when the theorem says that a job is answered that is admitted now; 0 if its tenant's turns do not suffice.
func (f *fairCourse) dueAt(ahead, cost int) int {
	ticks, code := impl.TicksFor(f.host.Config, len(f.host.Tenants), ahead, cost)
	if code != impl.OK {
		f.Errorf("TicksFor of %d and %d: %d", ahead, cost, code)
	}
	if ticks >= f.host.Config.Wait {
		f.counts["not promised"]++
		return 0
	}
	f.counts["promised"]++
	return f.host.Now + ticks
}

// wantTurnKept: the tenant that ran did no more than its quantum, and all of it unless its jobs are over; those that are over were the first ones, each at its cost.
func (f *fairCourse) wantTurnKept(before impl.Host) {
	f.Helper()
	for k, x := range before.Tenants {
		grown := f.host.Tenants[k].Fuel - x.Fuel
		queue, _, _ := expireWanted(x, f.host.Now, f.host.Config.Wait)
		left := slices.DeleteFunc(slices.Clone(f.host.Tenants[k].Queue), func(j impl.Job) bool { return j.Id >= before.Ids })
		over := len(queue.Queue) - len(left)
		did := 0
		for i, j := range queue.Queue {
			switch told := f.told(x.Source, j.Path); {
			case i < over && told.costCode == impl.OK:
				did += told.cost - j.Machine.Used
			case i < over:
				f.Errorf("a job is over that does not end:%s", toldJobs([]impl.Job{j}))
			case left[i-over].Id != j.Id:
				f.Errorf("the jobs that are left are%s; they were%s", toldJobs(left), toldJobs(queue.Queue))
			default:
				did += left[i-over].Machine.Used - j.Machine.Used
			}
		}
		if grown != did || grown > f.host.Config.Quantum || grown > 0 && len(left) > 0 && grown != f.host.Config.Quantum {
			f.Errorf("tenant %d did %d, its jobs %d, by %d:%s; they were%s", k, grown, did, f.host.Config.Quantum, toldJobs(left), toldJobs(queue.Queue))
		}
	}
}

// wantInTime: no job that is due is still there.
func (f *fairCourse) wantInTime() {
	f.Helper()
	for _, x := range f.host.Tenants {
		for _, j := range x.Queue {
			if w := f.watches[j.Conn][j.Seq]; w.due > 0 && w.due <= f.host.Now {
				f.Errorf("at %d there is a job that was due at %d:%s\n%s", f.host.Now, w.due, toldJobs([]impl.Job{j}), toldHost(f.host))
			}
		}
	}
}

func (f *fairCourse) tick() {
	f.Helper()
	before := f.host
	got := happened{}
	got.host, got.sent, got.code = impl.HostTick(f.host)
	f.goOn("tick", got)
	f.wantTurnKept(before)
	f.wantInTime()
}

func (f *fairCourse) bytes(k int, text string) {
	f.Helper()
	got := happened{}
	got.host, got.sent, got.code = impl.HostBytes(f.host, k, text)
	f.goOn("bytes", got)
}

// begin closes a connection, if it is open, and opens it anew; what was said there is held against what was promised.
func (f *fairCourse) begin(k int) {
	f.Helper()
	f.wantAnswered(k)
	f.host, _ = impl.HostClose(f.host, k)
	f.host, _ = impl.HostOpen(f.host, k)
	f.first[k], f.dialogs[k] = f.host.Conns[k].Next, dialog{}
}

func (f *fairCourse) wantAnswered(k int) {
	f.Helper()
	replies, whole := repliesRead(f.dialogs[k].out)
	if !whole {
		f.Errorf("%q has other things than replies", f.dialogs[k].out)
	}
	for i, r := range replies {
		w, found := f.watches[k][f.first[k]+i]
		text := reply(r.status, r.body)
		if r.closes {
			text = lastReply(r.status, r.body)
		}
		right, _ := impl.RightReply(w.source, w.path, text)
		switch {
		case !found:
			f.counts["answered at once"]++
		case right && w.due > 0:
			f.counts["right as promised"]++
		case right:
			f.counts["right"]++
		case r.status == 504 && r.body == "late" && w.due == 0:
			f.counts["late"]++
		default:
			f.Errorf("%q of %q was due at %d, and is answered by %q", w.path, w.source, w.due, text)
		}
	}
	f.watches[k] = map[int]watch{}
}

// Hosts by chance, busy and idle ones: each job that the theorem says something of is answered by when it says, as if nothing else was there; the others are answered so, or late.
func TestFairnessByChance(t *testing.T) {
	t.Parallel()
	g := &gardener{Rand: rand.New(rand.NewSource(71))}
	counts := map[string]int{}
	for range 120 {
		f := g.newFairCourse(t, counts)
		for k := range 4 {
			f.begin(k)
		}
		busy := 2 + g.Intn(20)
		for range 80 {
			switch k := g.Intn(4); {
			case g.Intn(busy) == 0:
				f.bytes(k, f.hostText())
			case g.Intn(40) == 0 || !f.host.Conns[k].Open:
				f.begin(k)
			default:
				f.tick()
			}
			if t.Failed() {
				return
			}
		}
		for k := range 4 {
			f.wantAnswered(k)
		}
	}
	for what, least := range map[string]int{"promised": 500, "not promised": 200, "right as promised": 300, "right": 50, "late": 100, "answered at once": 300} {
		if counts[what] < least {
			t.Errorf("only %d times %q, not %d: %v", counts[what], what, least, counts)
		}
	}
}

// speech is what goes into a connection, tick by tick.
type speech []string

func (g *gardener) talkTo(name string, ticks int) speech {
	list := make(speech, ticks)
	for range 1 + g.Intn(12) {
		path := "/" + name + []string{"/a", "/t", "/s", "/r", "/b/c", "/", "", "/" + strings.Repeat("z", g.Intn(20))}[g.Intn(8)]
		list[g.Intn(ticks)] += requestOf(path, false)
	}
	return list
}

// heardBack has all that came out of each connection of a host, behind the speeches that are not nil; a connection takes what it has room for.
func heardBack(t *testing.T, h impl.Host, speeches []speech) [4]string {
	t.Helper()
	var waiting, heard [4]string
	hear := func(next impl.Host, sent []impl.Sent, code int) {
		t.Helper()
		if code != impl.OK {
			t.Fatalf("an event has the code %d", code)
		}
		h = next
		for _, out := range sent {
			heard[out.Conn] += out.Bytes
		}
	}
	for k := range speeches {
		h, _ = impl.HostOpen(h, k)
	}
	for tick := 0; tick < len(speeches[0]) || waiting != [4]string{} || jobsOfHost(h) > 0; tick++ {
		for k, said := range speeches {
			if tick < len(said) {
				waiting[k] += said[tick]
			}
			room, _ := impl.RoomOf(h.Conns[k])
			piece := waiting[k][:min(room, len(waiting[k]))]
			waiting[k] = waiting[k][len(piece):]
			hear(impl.HostBytes(h, k, piece))
		}
		hear(impl.HostTick(h))
	}
	return heard
}

func jobsOfHost(h impl.Host) int {
	count := 0
	for _, x := range h.Tenants {
		count += len(x.Queue)
	}
	return count
}

// onlySpeech has but one of the speeches; the others say nothing.
func onlySpeech(speeches []speech, k int) []speech {
	list := make([]speech, len(speeches))
	for i, said := range speeches {
		list[i] = make(speech, len(said))
	}
	list[k] = speeches[k]
	return list
}

// Each tenant is talked to on a connection of its own: what it answers there is the same with other tenants there, with others that say nothing, and without them; but for what is late, or shed.
func TestAnswersDoNotHangOnOthers(t *testing.T) {
	t.Parallel()
	g := &gardener{Rand: rand.New(rand.NewSource(72))}
	counts := map[string]int{}
	for range 30 {
		names := busyNames()[:2+g.Intn(3)]
		var sources []string
		var speeches []speech
		for _, name := range names {
			sources = append(sources, strings.TrimLeft(g.hostSource(), "# "))
			speeches = append(speeches, g.talkTo(name, 40))
		}
		c := impl.Config{Room: 1 + g.Intn(4), Quantum: 1 + g.Intn(60), Wait: 1 + g.Intn([]int{4, 40, 150}[g.Intn(3)])}
		h, _ := impl.NewHost(c, names, sources)
		all := heardBack(t, h, speeches)
		for k, name := range names {
			quiet := heardBack(t, h, onlySpeech(speeches, k))
			without, _ := impl.NewHost(c, []string{name}, []string{sources[k]})
			alone := heardBack(t, without, speeches[k:k+1])
			wantSameAnswers(t, counts, sources[k], speeches[k], all[k], quiet[k], alone[0])
		}
		if t.Failed() {
			return
		}
	}
	for what, least := range map[string]int{"alike": 250, "late or shed": 100, "wholly alike": 15} {
		if counts[what] < least {
			t.Errorf("only %d times %q, not %d: %v", counts[what], what, least, counts)
		}
	}
}

// wantSameAnswers: of the same requests all have replies; those that are neither late nor shed are alike, and right.
func wantSameAnswers(t *testing.T, counts map[string]int, source string, said speech, texts ...string) {
	t.Helper()
	asked := talkWanted(strings.Join(said, ""), true).heard
	spared := true
	for _, text := range texts {
		replies, whole := repliesRead(text)
		if !whole || len(replies) != len(asked) {
			t.Errorf("%d requests of %q are answered by %q", len(asked), source, text)
			return
		}
		for i, r := range replies {
			_, path, _ := splitWanted(asked[i].request.Path)
			right, _ := impl.RightReply(source, path, reply(r.status, r.body))
			switch {
			case r.status == 504 && r.body == "late" || r.status == 503 && r.body == "full":
				spared = false
				counts["late or shed"]++
			case right && !r.closes:
				counts["alike"]++
			default:
				t.Errorf("%q of %q is answered by %+v", path, source, r)
			}
		}
	}
	if !spared {
		return
	}
	counts["wholly alike"]++
	for _, text := range texts[1:] {
		if text != texts[0] {
			t.Errorf("%q is answered by %q, and by %q", source, texts[0], text)
		}
	}
}

// Sources by chance, each held against what is reckoned of it.
func TestAnswersByChance(t *testing.T) {
	t.Parallel()
	g := &gardener{Rand: rand.New(rand.NewSource(73))}
	counts := map[int]int{}
	for i := range 1200 {
		source := g.rootWritten(g.tended(3+i%40, i%4))
		switch i % 6 {
		case 0:
			source = "let x=1;let y=2;" + g.typed(2) + g.typed(1) + "return x+y;function f(x){let y=3;" + g.typed(1) + "return x+1;}function g(x,y){try{" + g.typed(0) + "}catch(e){return f(e);}return f(x)*y;}"
		case 1:
			source = g.spoiltText(source)
		}
		told := wantJudged(t, source, g.word("/ /a 0 abcdefgh /s"))
		if counts[told.answer.Status]++; told.answerCode != impl.OK {
			counts[-told.answerCode]++
		}
		if t.Failed() {
			return
		}
	}
	for status, least := range map[int]int{200: 200, 500: 200, 504: 3} {
		if counts[status] < least {
			t.Errorf("only %d of the answers were %d: %v", counts[status], status, counts)
		}
	}
}

func FuzzOracle(f *testing.F) {
	f.Add(quickSource, "/a", "HTTP/1.1 200 OK\r\nContent-Length: 2\r\n\r\n/a", 2, 40, 12, 3, 15, 10)
	f.Add(mixedSource, "/s", "", 4, 1000, 1000, 4, 1000000, 1000000)
	f.Add("throw path;", "\xff", "x", 0, 1, 1, 5, -1, 0)
	f.Add("let = 1;", "/", "HTTP/1.1 500 Internal Server Error\r\nContent-Length: 4\r\n\r\nform", 1, 1, 1, 1, 0, 0)
	f.Fuzz(func(t *testing.T, source, path, text string, room, quantum, wait, tenants, ahead, cost int) {
		told := wantJudged(t, source, path)
		right, code := rightReplyWanted(told, text)
		wantRightReply(t, source, path, text, right, code)
		ticks := wantTicksFor(t, impl.Config{Room: room, Quantum: quantum, Wait: wait}, tenants, ahead, cost)
		if told.answerCode == impl.OK && told.costCode == impl.OK && told.cost > 0 && ticks > 0 && quantum <= 1000 {
			wantAsPromised(t, source, path, told, 1+tenants%4, quantum)
		}
	})
}

// wantAsPromised has a host of tenants that spin but for one, and just as much time as it takes.
func wantAsPromised(t *testing.T, source, path string, told judged, tenants, quantum int) {
	t.Helper()
	c := impl.Config{Room: 1, Quantum: quantum, Wait: 1}
	ticks := wantTicksFor(t, c, tenants, 0, told.cost)
	if !pathForm.MatchString("/one"+path) || !strings.HasPrefix(path, "/") || ticks > 60 {
		return
	}
	c.Wait = ticks + 1
	h := fairHost(t, c, tenants, 0, tenants-1, source, []string{path})
	_, text := ticksUntil(t, h, 1, ticks)
	wantRightReply(t, source, path, text, true, impl.OK)
}
