package tests

import (
	"math/rand"
	"regexp"
	"slices"
	"strconv"
	"strings"
	"testing"

	"loop.example/g00370/impl"
)

// dialog is all that went into a connection, and came out of it, since it was opened: what a host promises is asked of this alone.
type dialog struct {
	in, out string
	shut    bool
}

type replyRead struct {
	status int
	body   string
	closes bool
}

var replyHead = regexp.MustCompile(`^HTTP/1\.1 ([0-9]{3}) [A-Za-z ]+\r\nContent-Length: ([0-9]+)\r\n(Connection: close\r\n)?\r\n`)

// repliesRead takes a text apart; the bool says whether it has replies alone.
func repliesRead(text string) ([]replyRead, bool) {
	var list []replyRead
	for text != "" {
		head := replyHead.FindStringSubmatch(text)
		if head == nil {
			return list, false
		}
		status, _ := strconv.Atoi(head[1])
		size, _ := strconv.Atoi(head[2])
		text = text[len(head[0]):]
		if size > len(text) {
			return list, false
		}
		list = append(list, replyRead{status, text[:size], head[3] != ""})
		text = text[size:]
	}
	return list, true
}

// mayBeAnswered: a tenant's request means what its source does, unless it is late or shed.
func mayBeAnswered(h impl.Host, request heard, r replyRead) bool {
	if request.code != impl.OK {
		return r.status == map[int]int{impl.ErrForm: 400, impl.ErrMethod: 501, impl.ErrLong: 431}[request.code] && r.body == codeTable()[request.code].word
	}
	name, path, _ := splitWanted(request.request.Path)
	at := slices.IndexFunc(h.Tenants, func(x impl.Tenant) bool { return x.Name == name })
	switch {
	case at < 0:
		return r.status == 404 && r.body == "none"
	case h.Tenants[at].State == impl.TeFailed:
		return r.status == 500 && r.body == "form"
	case r.status == 503:
		return r.body == "full"
	case r.status == 504:
		return r.body == "late"
	}
	meant, code := impl.EvalSource(h.Tenants[at].Source, path)
	return code == impl.OK && r.status == map[int]int{impl.MaDone: 200, impl.MaThrew: 500}[meant.State] && r.body == textWanted(meant.Value)
}

// wantDialog: each reply is one to the request of its number, and the last one of a connection that ends closes it, and no other.
func wantDialog(t *testing.T, h impl.Host, d dialog) (asked, answered int) {
	t.Helper()
	read := talkWanted(d.in, true)
	ends := read.conn.Ending
	replies, whole := repliesRead(d.out)
	if !whole || len(replies) > len(read.heard) {
		t.Errorf("%q is answered by %q", d.in, d.out)
		return
	}
	for k, r := range replies {
		last := ends && k == len(read.heard)-1
		if !mayBeAnswered(h, read.heard[k], r) || r.closes != last {
			t.Errorf("request %d, %+v, is answered by %+v", k, read.heard[k], r)
		}
	}
	if all := ends && len(replies) == len(read.heard); d.shut != all {
		t.Errorf("%q is answered by %q, closed %v", d.in, d.out, d.shut)
	}
	return len(read.heard), len(replies)
}

// course is a host by chance, with the dialogs of its connections.
type course struct {
	*gardener
	*testing.T
	host    impl.Host
	dialogs [4]dialog
	coming  [4]string // what is still to go into each connection
	passed  []int     // of each tenant, how many turns of others there were while it had jobs
	counts  map[string]int
}

func (g *gardener) hostSource() string {
	switch g.Intn(9) {
	case 0:
		return wrongSource
	case 1:
		return spinsSource
	case 2, 3:
		return mixedSource
	case 4:
		return throwsSoon
	case 5:
		return "let x = 0; while (x < " + g.word("2 5 20 60") + ") { x = x + 1; } return path + '.';"
	}
	return g.word("# ") + []string{quickSource, endsSource, "return len(path);", ""}[g.Intn(4)]
}

func (g *gardener) newCourse(t *testing.T, counts map[string]int) *course {
	t.Helper()
	c := impl.Config{Room: 1 + g.Intn(4), Quantum: 1 + g.Intn([]int{4, 30, 200}[g.Intn(3)]), Wait: 1 + g.Intn([]int{3, 10, 30}[g.Intn(3)])}
	names := []string{"one", "two", "three", "four"}
	g.Shuffle(4, func(i, j int) { names[i], names[j] = names[j], names[i] })
	names = names[:1+g.Intn(4)]
	var sources []string
	for range names {
		sources = append(sources, strings.TrimLeft(g.hostSource(), "# "))
	}
	h, code := wantNewHost(t, c, names, sources)
	if code != impl.OK {
		t.Fatalf("NewHost: %d", code)
	}
	return &course{gardener: g, T: t, host: h, passed: make([]int, len(names)), counts: counts}
}

func (g *gardener) hostRequest() string {
	path := "/" + g.word("one two three four one two three none") + []string{"/a", "/t", "/s", "/r", "/b/c", "/", ""}[g.Intn(7)]
	switch g.Intn(50) {
	case 0:
		return g.head()
	case 1:
		return g.spoiltText(requestOf(path, false))
	case 2:
		return requestOf(path, true)
	case 3:
		return g.word("junk PUT") + " / HTTP/1.1\r\n\r\n"
	case 4:
		return strings.Repeat("x", 121)
	}
	return "GET " + path + " HTTP/1.1\r\n\r\n"
}

func (g *gardener) hostText() string {
	text := ""
	for range 1 + g.Intn(8) {
		text += g.hostRequest()
	}
	return text
}

// take goes on with what an event has answered.
func (c *course) take(what string, got happened) {
	c.Helper()
	c.counts[what+" "+codeTable()[got.code].word]++
	for _, out := range got.sent {
		d := &c.dialogs[out.Conn]
		d.out += out.Bytes
		d.shut = d.shut || out.Shut
		if out.Shut {
			c.counts["shut"]++
		}
	}
	conns := []int{}
	for _, out := range got.sent {
		conns = append(conns, out.Conn)
	}
	if !slices.IsSorted(conns) || len(slices.Compact(slices.Clone(conns))) != len(conns) {
		c.Errorf("%s: sent%s", what, toldSent(got.sent))
	}
	if got.code != impl.OK && (len(got.sent) > 0 || !sameHost(got.host, c.host)) {
		c.Errorf("%s: code %d, the host is another one", what, got.code)
	}
	if !impl.HostOK(got.host) || !rightHost(got.host) {
		c.Errorf("%s: the host is not right any more:\n%s", what, toldHost(got.host))
	}
	wantNoneLate(c.T, got.host)
	c.host = got.host
}

func (c *course) event() {
	c.Helper()
	k := c.Intn(1 + c.Intn(4))
	switch c.Intn(12) {
	case 0, 1:
		next, code := wantHostOpen(c.T, c.host, k)
		if code == impl.OK {
			c.end(k)
		}
		c.take("open", happened{host: next, code: code})
	case 2:
		if c.Intn(3) > 0 {
			return
		}
		next, code := wantHostClose(c.T, c.host, k)
		if code == impl.OK {
			c.end(k)
		}
		c.take("close", happened{host: next, code: code})
	case 3, 4, 5, 6, 7:
		c.coming[k] += c.hostText()
		text := c.coming[k][:c.Intn(min(len(c.coming[k]), 420)+1)]
		got := wantHostBytes(c.T, c.host, k, text)
		if got.code == impl.OK {
			c.dialogs[k].in += text
			c.coming[k] = c.coming[k][len(text):]
		}
		c.take("bytes", got)
	default:
		c.tick()
	}
}

func (c *course) tick() {
	c.Helper()
	before := c.host
	c.take("tick", wantHostTick(c.T, c.host))
	c.wantOneTurn(before)
}

// wantOneTurn: behind a tick at most one tenant has run, and none that waits was passed over for a whole round.
func (c *course) wantOneTurn(before impl.Host) {
	c.Helper()
	ran := -1
	for k, x := range c.host.Tenants {
		grown := x.Fuel - before.Tenants[k].Fuel
		if grown < 0 || grown > c.host.Config.Quantum || grown > 0 && ran >= 0 {
			c.Errorf("in a tick the tenants come from %s to %s", toldHost(before), toldHost(c.host))
		}
		if grown > 0 {
			ran = k
		}
	}
	for k, x := range before.Tenants {
		stay, _, _ := expireWanted(x, c.host.Now, c.host.Config.Wait)
		if c.passed[k]++; ran < 0 || k == ran || len(stay.Queue) == 0 {
			c.passed[k] = 0
		}
		if c.passed[k] >= len(c.host.Tenants) {
			c.Errorf("tenant %d has waited for %d turns of others", k, c.passed[k])
		}
	}
}

// end asks what there was to say, and begins anew.
func (c *course) end(k int) {
	c.Helper()
	wantDialog(c.T, c.host, c.dialogs[k])
	replies, _ := repliesRead(c.dialogs[k].out)
	for _, r := range replies {
		c.counts[strconv.Itoa(r.status)]++
	}
	c.dialogs[k], c.coming[k] = dialog{}, ""
}

// Hosts to which all kinds of things happen, each held against what is reckoned, and all that went in against all that came out.
func TestHostsByChance(t *testing.T) {
	t.Parallel()
	g := &gardener{Rand: rand.New(rand.NewSource(61))}
	counts := map[string]int{}
	for range 150 {
		c := g.newCourse(t, counts)
		for range 70 {
			c.event()
			if t.Failed() {
				return
			}
		}
		if g.Intn(5) == 0 {
			wantHostAnswers(t, c.host)
		}
		// Behind the last bytes all that was asked is answered: what has a slot, within Wait ticks, and what waits for one behind it.
		for range 22 * c.host.Config.Wait {
			c.tick()
			if !slices.ContainsFunc(c.host.Conns, func(n impl.Conn) bool { return len(n.Slots) > 0 }) {
				break
			}
		}
		for k, d := range c.dialogs {
			if asked, answered := wantDialog(t, c.host, d); c.host.Conns[k].Open && asked != answered {
				t.Errorf("connection %d has %d requests, and %d replies", k, asked, answered)
			}
			c.end(k)
		}
		if t.Failed() {
			return
		}
	}
	for what, least := range map[string]int{
		"open ok": 300, "open twice": 300, "close ok": 50, "close shut": 50, "bytes ok": 1000, "bytes full": 50, "bytes shut": 500, "tick ok": 2000, "shut": 200,
		"200": 300, "400": 50, "404": 300, "431": 5, "500": 100, "501": 10, "503": 100, "504": 100,
	} {
		if counts[what] < least {
			t.Errorf("only %d times %q, not %d: %v", counts[what], what, least, counts)
		}
	}
}

// A text that is cut by chance makes the same jobs as a whole one, and the same is sent.
func TestBytesOfHostsByChance(t *testing.T) {
	t.Parallel()
	g := &gardener{Rand: rand.New(rand.NewSource(62))}
	for range 150 {
		c := g.newCourse(t, map[string]int{})
		c.host, _ = impl.HostOpen(c.host, 1)
		text := g.hostText()
		if len(text) > 400 {
			continue
		}
		whole := wantHostBytes(t, c.host, 1, text)
		for _, most := range []int{3, 30, 200} {
			wantPiecesAlike(t, c.host, whole, g.pieces(text, most))
		}
		if t.Failed() {
			return
		}
	}
}

// spoiltHost changes one thing of a host.
func (g *gardener) spoiltHost(h impl.Host) impl.Host {
	h = cloneHost(h)
	numbers := append(oddNumbers(), 4, 5, 10, 999, 1000, 1001, 50000, 50001, 99999, 100000, 100001)
	number := numbers[g.Intn(len(numbers))]
	i, k := g.Intn(len(h.Tenants)), g.Intn(4)
	switch x, c := &h.Tenants[i], &h.Conns[k]; g.Intn(14) {
	case 0:
		*[]*int{&h.Config.Room, &h.Config.Quantum, &h.Config.Wait, &h.Turn, &h.Now, &h.Ids}[g.Intn(6)] = number
	case 1:
		*[]*int{&h.Config.Room, &h.Config.Quantum, &h.Config.Wait, &h.Turn, &h.Now, &h.Ids}[g.Intn(6)] += g.Intn(5) - 2
	case 2:
		*x = g.spoiltTenant(*x)
	case 3, 4:
		if len(x.Queue) > 0 {
			j := &x.Queue[g.Intn(len(x.Queue))]
			*[]*int{&j.Id, &j.Conn, &j.Seq, &j.Since}[g.Intn(4)] += g.Intn(5) - 2
		}
	case 5:
		if len(x.Queue) > 0 {
			x.Queue = slices.Delete(x.Queue, 0, 1)
		}
	case 6:
		*c = impl.Conn{Open: g.Intn(2) == 0, Ending: g.Intn(4) == 0, Next: c.Next}
	case 7:
		c.Next += g.Intn(5) - 2
	case 8:
		c.Slots = append(c.Slots, g.anySlot())
	case 9:
		if len(c.Slots) > 0 {
			at := g.Intn(len(c.Slots))
			c.Slots[at].Ready = !c.Slots[at].Ready
			c.Slots[at].Text = []string{"", "[x]"}[g.Intn(2)]
		}
	case 10:
		c.In, c.Ending = g.hostText(), g.Intn(4) == 0
	case 11:
		h.Tenants = slices.Delete(h.Tenants, i, i+1)
	case 12:
		h.Tenants = append(h.Tenants, newTenant(g.word("one two five"), quickSource))
	default:
		*[]*int{&h.Now, &h.Ids}[g.Intn(2)] += 1 + g.Intn(9)
	}
	return h
}

func newTenant(name, source string) impl.Tenant {
	x, _ := impl.MakeTenant(name, source)
	return x
}

func TestSpoiltHostsByChance(t *testing.T) {
	t.Parallel()
	g := &gardener{Rand: rand.New(rand.NewSource(63))}
	right, wrong := 0, 0
	for range 60 {
		c := g.newCourse(t, map[string]int{})
		for range 4 {
			c.host, _ = impl.HostOpen(c.host, g.Intn(4))
		}
		for range 12 {
			for range 6 {
				c.event()
			}
			h := g.spoiltHost(c.host)
			if len(h.Tenants) > 0 && g.Intn(3) == 0 {
				h = g.spoiltHost(h)
			}
			if rightHost(h) {
				right++
			} else {
				wrong++
			}
			wantHostOK(t, h)
			wantHostTick(t, h)
			wantTurnOf(t, h)
			k := g.Intn(6) - 1
			wantHostOpen(t, h, k)
			wantHostClose(t, h, k)
			wantHostBytes(t, h, k, g.hostText())
			wantConnWord(t, h, k)
			wantTenantAt(t, h, g.word("one two five"))
			wantPendingOf(t, h, k)
			wantAudit(t, h)
			wantActDo(t, h, impl.Act{Kind: g.Intn(6), Conn: k, Bytes: g.hostText()})
			if t.Failed() {
				return
			}
		}
	}
	if right < 150 || wrong < 250 {
		t.Errorf("%d hosts were right, %d wrong", right, wrong)
	}
}

func FuzzHosts(f *testing.F) {
	f.Add("one", quickSource, "two", mixedSource, 2, 40, 12, "GET /one/a HTTP/1.1\r\n\r\nGET /two/s HTTP/1.1\r\n\r\n", "otbbtct", int64(1))
	f.Add("bad", wrongSource, "one", spinsSource, 1, 5, 1, lastRequest+"rest", "ottbtbb", int64(2))
	f.Add("a", "", "a", "", 4, 1000, 1000, "junk\r\n\r\n", "obtobt", int64(3))
	f.Fuzz(func(t *testing.T, name, source, other, otherSource string, room, quantum, wait int, text, events string, seed int64) {
		h, _ := wantNewHost(t, impl.Config{Room: room, Quantum: quantum, Wait: wait}, []string{name, other}, []string{source, otherSource})
		g := &gardener{Rand: rand.New(rand.NewSource(seed))}
		for _, e := range []byte(events[:min(len(events), 40)]) {
			k, next := int(e>>4)%4, impl.Host{}
			switch e % 4 {
			case 0:
				next = wantHostTick(t, h).host
			case 1:
				next = wantHostBytes(t, h, k, text).host
			case 2:
				next = wantHostBytes(t, h, k, requestOf("/"+name, false)+requestOf("/"+other+"/a", false)).host
			default:
				next, _ = wantHostOpen(t, h, k)
				if e%8 == 7 {
					next, _ = wantHostClose(t, h, k)
				}
			}
			if impl.HostOK(next) {
				h = next
			}
		}
		if impl.HostOK(h) {
			spoilt := g.spoiltHost(h)
			wantHostOK(t, spoilt)
			wantHostTick(t, spoilt)
			wantHostBytes(t, spoilt, 0, text)
		}
	})
}
