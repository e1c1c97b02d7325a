package tests

import (
	"math/rand"
	"slices"
	"testing"

	"loop.example/g00370/impl"
)

// auditor has a plain host audited behind each act; what the audit tells is held against what went in and came out.
type auditor struct {
	*theater
	was  audited
	came map[int]int // of each job that was there, by its Id, when it was seen first
}

func (g *gardener) newAuditor(t *testing.T, counts map[string]int) *auditor {
	t.Helper()
	a := &auditor{theater: g.newTheater(t, counts), came: map[int]int{}}
	a.was = wantAudit(t, a.host)
	return a
}

// next is an act as a theater has them, with more requests in one text, more of them in pieces, and more connections that close or end in the middle.
func (a *auditor) next() impl.Act {
	k := a.Intn(4)
	if !a.host.Conns[k].Open && a.Intn(3) == 0 {
		return opens(k)
	}
	switch a.Intn(12) {
	case 0:
		return asks(k, a.plainPath(), a.plainPath(), a.plainPath())
	case 1:
		return says(k, requestOf(a.plainPath(), true)+"rest")
	case 2:
		if len(a.host.Conns[k].Slots) > 0 && a.Intn(3) == 0 {
			return shuts(k)
		}
	case 3:
		if text := a.coming[k]; len(text) > 1 {
			return says(k, text[:1+a.Intn(min(len(text)-1, 400))])
		}
	}
	return a.act()
}

func (a *auditor) does(x impl.Act) {
	a.Helper()
	code, slots := len(a.codes), 0
	if x.Conn >= 0 && x.Conn < 4 {
		slots = len(a.host.Conns[x.Conn].Slots)
	}
	a.do(x)
	a.look(x.Kind == impl.AcTick && a.codes[code] == impl.OK)
	if x.Kind == impl.AcClose && a.codes[code] == impl.OK && slots > 0 {
		a.counts["closed in the middle"]++
	}
}

// look asks the audit for what the promises say.
func (a *auditor) look(ticked bool) {
	a.Helper()
	got := wantAudit(a.T, a.host)
	if !got.hold || got.oldest >= a.host.Config.Wait || got.oldest != a.longest() {
		a.Errorf("the audit tells %+v, the longest wait is %d:\n%s", got, a.longest(), toldHost(a.host))
	}
	if ran := a.grown(got.fuel); ran > 1 || ran > 0 && !ticked {
		a.Errorf("the Fuel was %v, and is %v; a tick %v", a.was.fuel, got.fuel, ticked)
	}
	for k, count := range got.pending {
		if want := a.unanswered(k); count != want {
			a.Errorf("on %d there wait %d requests, PendingOf is %d:\n%s", k, want, count, toldHost(a.host))
		}
		a.counts["pending"] += count
	}
	if got.oldest == a.host.Config.Wait-1 {
		a.counts["nearly late"]++
	}
	a.was = got
}

// longest goes by when the jobs were seen first.
func (a *auditor) longest() int {
	most := 0
	for _, x := range a.host.Tenants {
		for _, j := range x.Queue {
			if _, known := a.came[j.Id]; !known {
				a.came[j.Id] = a.host.Now
			}
			most = max(most, a.host.Now-a.came[j.Id])
		}
	}
	return most
}

// grown is how many tenants have had more instructions; one that has had fewer, or more than a quantum, counts for all.
func (a *auditor) grown(fuel []int) int {
	count := 0
	for k, n := range fuel {
		switch more := n - a.was.fuel[k]; {
		case more < 0 || more > a.host.Config.Quantum:
			return len(fuel)
		case more > 0:
			count++
		}
	}
	return count
}

// unanswered is how many requests of a connection were read, and are not answered yet, be it by a reply that waits for those ahead of it.
func (a *auditor) unanswered(k int) int {
	c := a.host.Conns[k]
	if !c.Open {
		return 0
	}
	replies, _ := repliesRead(a.dialogs[k].out)
	count := c.Next - a.first[k] - len(replies)
	for _, s := range c.Slots {
		if s.Ready {
			count--
		}
	}
	return count
}

// ticksToClear is as long as it may take, if nothing more comes: of each connection the first request is answered within Wait, then the next one is the first.
func ticksToClear(h impl.Host) int {
	most := 0
	for _, c := range h.Conns {
		most = max(most, len(c.Slots)+len(c.In)/len("GET / HTTP/1.1\r\n\r\n"))
	}
	return most * h.Config.Wait
}

// clear lets ticks pass until nothing waits, and some more.
func (a *auditor) clear() {
	a.Helper()
	left := ticksToClear(a.host)
	for a.was.pending != [4]int{} && !a.Failed() {
		if left == 0 {
			a.Errorf("there is still something that waits:\n%s", toldHost(a.host))
			return
		}
		left--
		a.counts["ticks behind the script"]++
		a.does(impl.Act{Kind: 4})
	}
	end := a.was
	for range a.Intn(2 * a.host.Config.Wait) {
		a.does(impl.Act{Kind: 4})
	}
	wantAuditIs(a.T, "in the end", a.host, audited{hold: true, fuel: end.fuel})
	for k, x := range a.host.Tenants {
		if len(x.Queue) > 0 {
			a.Errorf("in the end tenant %d has%s", k, toldJobs(x.Queue))
		}
	}
}

// Scripts by chance on a plain host: promise 15, and what promises 12, 14 and 17 say of it, behind each act.
func TestAuditsOfScriptsByChance(t *testing.T) {
	t.Parallel()
	g := &gardener{Rand: rand.New(rand.NewSource(91))}
	counts := map[string]int{}
	for range 40 {
		a := g.newAuditor(t, counts)
		for range []int{120, 120, g.Intn(121)}[g.Intn(3)] {
			a.does(a.next())
			if t.Failed() {
				return
			}
		}
		wantAuditIs(t, "the script as a whole", actsRun(a.acts).host, a.was)
		if a.was.pending != [4]int{} {
			counts["waits behind the script"]++
		}
		if a.clear(); t.Failed() {
			return
		}
	}
	for what, least := range map[string]int{
		"open ok": 300, "bytes ok": 600, "bytes full": 25, "bytes shut": 300, "close ok": 70, "tick ok": 1500, " form": 30, "shut": 150,
		"pending": 6000, "closed in the middle": 50, "nearly late": 200, "waits behind the script": 20, "ticks behind the script": 150, "replies that wait": 6000, "one right": 90, "two late": 35, "two shed": 30, "spin shed": 30,
	} {
		if counts[what] < least {
			t.Errorf("only %d times %q, not %d: %v", counts[what], what, least, counts)
		}
	}
}

// Hosts of any tenants and any Config, with events by chance.
func TestAuditsOfHostsByChance(t *testing.T) {
	t.Parallel()
	g := &gardener{Rand: rand.New(rand.NewSource(92))}
	counts := map[string]int{}
	for range 60 {
		c := g.newCourse(t, map[string]int{})
		for k := range 4 {
			c.host, _ = impl.HostOpen(c.host, k)
		}
		was := wantAudit(t, c.host)
		for range 60 {
			before := c.host
			c.event()
			got := wantAudit(t, c.host)
			if !got.hold || got.oldest >= c.host.Config.Wait || c.host.Now == before.Now && !slices.Equal(got.fuel, was.fuel) {
				t.Errorf("the audit tells %+v, it told %+v:\n%s", got, was, toldHost(c.host))
			}
			if t.Failed() {
				return
			}
			was = got
			counts["jobs"] += jobsOfHost(c.host)
		}
		for left := ticksToClear(c.host); left > 0 && jobsOfHost(c.host) > 0; left-- {
			c.tick()
		}
		wantAuditIs(t, "in the end", c.host, audited{hold: true, fuel: fuelsOf(c.host)})
		if t.Failed() {
			return
		}
	}
	if counts["jobs"] < 4000 {
		t.Errorf("there were few jobs: %v", counts)
	}
}

func fuelsOf(h impl.Host) []int {
	var list []int
	for _, x := range h.Tenants {
		list = append(list, x.Fuel)
	}
	return list
}

// shuffled has the jobs of a right host with other Ids and other times, any that may be.
func (g *gardener) shuffled(h impl.Host) impl.Host {
	h = cloneHost(h)
	h.Ids += g.Intn(5)
	ids := g.Perm(h.Ids)
	if g.Intn(3) > 0 {
		slices.Sort(ids[:min(len(ids), jobsOfHost(h))])
	}
	for _, x := range h.Tenants {
		since := 0
		for k := range x.Queue {
			j := &x.Queue[k]
			j.Id, ids = ids[0], ids[1:]
			from := max(since, h.Now-h.Config.Wait+1, 0)
			j.Since = from + g.Intn(h.Now-from+1)
			if g.Intn(4) > 0 {
				since = j.Since
			}
		}
	}
	return h
}

// Right hosts whose jobs stand any way.
func TestAuditsOfShuffledJobsByChance(t *testing.T) {
	t.Parallel()
	g := &gardener{Rand: rand.New(rand.NewSource(93))}
	holds := map[bool]int{}
	for range 40 {
		c := g.newCourse(t, map[string]int{})
		c.host.Config.Room, c.host.Config.Wait = 4, 1+g.Intn(30)
		for k := range 4 {
			c.host, _ = impl.HostOpen(c.host, k)
		}
		for range 25 {
			if c.event(); t.Failed() {
				return
			}
			if jobsOfHost(c.host) < 2 {
				continue
			}
			h := g.shuffled(c.host)
			if !impl.HostOK(h) {
				t.Fatalf("a shuffled host is not right:\n%s", toldHost(h))
			}
			given := cloneHost(h)
			holds[wantAudit(t, h).hold]++
			if !sameHost(h, given) {
				t.Errorf("the audit changed its host:\n%s\nwas\n%s", toldHost(h), toldHost(given))
			}
		}
	}
	if holds[true] < 100 || holds[false] < 100 {
		t.Errorf("of shuffled jobs there hold %v", holds)
	}
}

func FuzzAudit(f *testing.F) {
	f.Add("\x01\x02\x04\x04\x42\x81\x82\x84\x03\x00", requestsOf("/one/a", "/two", "/spin"), 0, 1, 0, 0, 0, int64(1))
	f.Add("\x01\x41\x81\xc1\x02\x42\x82\xc2\x04\x04\x04\x04\x04\x04\x04", "GET /two HTTP/1.1\r\n\r\nGET /spin", 3, 2, 2, 1, 1, int64(2))
	f.Add("\x01\x02\x04\x02", "junk\r\n\r\n", -1, 4, 4, 9, 3, int64(3))
	f.Fuzz(func(t *testing.T, kinds, text string, k, at, number, field, more int, seed int64) {
		var acts []impl.Act
		for _, b := range []byte(kinds[:min(len(kinds), 120)]) {
			a := impl.Act{Kind: int(b) % 6, Conn: int(b >> 6), Bytes: text}
			if a.Kind == 5 {
				a = asks(a.Conn, "/spin/"+string('a'+rune(b>>3)%26), "/two")
			}
			acts = append(acts, a)
		}
		h, _, _, _ := impl.ActsRun(acts)
		if got := wantAudit(t, h); !got.hold || got.oldest >= 12 {
			t.Errorf("behind a script the audit tells %+v", got)
		}
		wantPendingOf(t, h, k)
		g := &gardener{Rand: rand.New(rand.NewSource(seed))}
		wantAudit(t, g.shuffled(h))
		h = cloneHost(h)
		x := &h.Tenants[at&3]
		x.Fuel += more
		if len(x.Queue) > 0 {
			j := &x.Queue[(number&1)*(len(x.Queue)-1)]
			*[]*int{&j.Id, &j.Since, &j.Seq, &j.Conn}[field&3] += more
		}
		if wantHostOK(t, h) {
			wantAudit(t, h)
			wantPendingOf(t, h, number)
		}
	})
}
