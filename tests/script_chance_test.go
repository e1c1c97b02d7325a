package tests

import (
	"math/rand"
	"slices"
	"strings"
	"testing"

	"loop.example/g00370/impl"
)

// theater is a plain host to which acts are done by chance; it is asked for its promises behind each of them.
type theater struct {
	*fairCourse
	acts  []impl.Act
	sent  []impl.Sent
	codes []int
	told  []replyRead // all replies, of all connections
}

// jobPlace is where a job came from.
type jobPlace struct{ conn, seq int }

func (g *gardener) newTheater(t *testing.T, counts map[string]int) *theater {
	t.Helper()
	f := &fairCourse{course: &course{gardener: g, T: t, host: impl.PlainHost(), passed: make([]int, 4), counts: counts}, costs: map[[2]string]judged{}}
	for k := range f.watches {
		f.watches[k] = map[int]watch{}
	}
	return &theater{fairCourse: f}
}

func (g *gardener) plainPath() string {
	name := g.word("one one two two bad spin spin none onetwo One")
	rest := []string{"", "/", "/a", "/ab", "/abc", "//", "/one/two", "/a.b-c_D9"}[g.Intn(8)]
	if g.Intn(4) == 0 {
		rest = g.path()
	}
	path := "/" + name + rest
	return path[:min(len(path), 40)]
}

// plainText has requests, whole ones or not, and what is none.
func (g *gardener) plainText() string {
	text := ""
	for range 1 + g.Intn(1+g.Intn(9)) {
		switch request := requestOf(g.plainPath(), g.Intn(25) == 0); g.Intn(60) {
		case 0:
			text += g.spoiltText(request)
		case 1:
			text += g.word("junk PUT") + " / HTTP/1.1\r\n\r\n"
		case 2:
			text += strings.Repeat("x", 121)
		case 3:
			text += g.head()
		default:
			text += request
		}
	}
	return text
}

// say has the next bytes for a connection: a whole text, or what is left of one, or a piece of it; one that is not open is mostly opened first.
func (p *theater) say(k int) impl.Act {
	if !p.host.Conns[k].Open && p.Intn(4) > 0 {
		return opens(k)
	}
	if p.coming[k] == "" || p.Intn(4) == 0 {
		p.coming[k] += p.plainText()
	}
	size := len(p.coming[k])
	if p.Intn(2) == 0 {
		size = p.Intn(size + 1)
	}
	return says(k, p.coming[k][:size])
}

func (p *theater) act() impl.Act {
	k := p.Intn(4)
	switch p.Intn(40) {
	case 0, 1, 2, 3:
		return opens(k)
	case 4:
		return shuts(k)
	case 8:
		return impl.Act{Kind: oddNumbers()[p.Intn(len(oddNumbers()))], Conn: p.Intn(8) - 2, Bytes: p.plainText()}
	case 9:
		return impl.Act{Kind: 1 + p.Intn(3), Conn: []int{-1, 4, 5, 1 << 32}[p.Intn(4)], Bytes: p.plainText()}
	case 10:
		return says(k, longText[:[]int{400, 401, 65536, 65537}[p.Intn(4)]])
	case 11, 12, 13, 14, 15, 16, 17, 18, 19, 20:
		return p.say(k)
	case 21, 22:
		return asks(k, p.plainPath())
	}
	return impl.Act{Kind: 4, Conn: p.Intn(9) - 3}
}

func (p *theater) do(a impl.Act) {
	p.Helper()
	before := p.host
	got := wantActDo(p.T, p.host, a)
	p.acts, p.sent, p.codes = append(p.acts, a), append(p.sent, got.sent...), append(p.codes, got.code)
	done := got.code == impl.OK
	if done && (a.Kind == impl.AcOpen || a.Kind == impl.AcClose) {
		p.wantAllAnswered(a.Conn)
		p.dialogs[a.Conn], p.coming[a.Conn], p.first[a.Conn] = dialog{}, "", before.Conns[a.Conn].Next
	}
	if done && a.Kind == impl.AcBytes {
		p.dialogs[a.Conn].in += a.Bytes
		p.coming[a.Conn] = strings.TrimPrefix(p.coming[a.Conn], a.Bytes)
	}
	p.goOn(map[int]string{1: "open", 2: "bytes", 3: "close", 4: "tick"}[a.Kind], got)
	if done && a.Kind == impl.AcTick {
		p.wantTurnKept(before)
		p.wantInTime()
		p.wantOneTurn(before)
	}
	p.wantOrder(before)
	for k := range 4 {
		p.wantEachOnce(k)
	}
}

func placesOf(queue []impl.Job) []jobPlace {
	var list []jobPlace
	for _, j := range queue {
		list = append(list, jobPlace{j.Conn, j.Seq})
	}
	return list
}

// wantOrder: the jobs that stay stand as they stood, and those that came stand behind them, as their requests came.
func (p *theater) wantOrder(before impl.Host) {
	p.Helper()
	for i, x := range p.host.Tenants {
		old, now := placesOf(before.Tenants[i].Queue), placesOf(x.Queue)
		stay := slices.DeleteFunc(slices.Clone(old), func(at jobPlace) bool { return !slices.Contains(now, at) })
		if len(now) < len(stay) || !slices.Equal(now[:len(stay)], stay) {
			p.Errorf("tenant %d has the jobs of %v, it had those of %v", i, now, old)
		}
		for k := 1; k < len(x.Queue); k++ {
			a, b := x.Queue[k-1], x.Queue[k]
			if a.Id >= b.Id || a.Since > b.Since || a.Conn == b.Conn && a.Seq >= b.Seq {
				p.Errorf("tenant %d has its jobs in another order:%s", i, toldJobs(x.Queue))
			}
		}
		p.counts["jobs beside each other"] += max(0, len(now)-1)
	}
}

// wantEachOnce: of an open connection each request that was read has one reply, or one job, or a reply that waits for those ahead of it; of one that closed by itself all have replies, and of one that was closed there is no job.
func (p *theater) wantEachOnce(k int) {
	p.Helper()
	d, c := p.dialogs[k], p.host.Conns[k]
	replies, whole := repliesRead(d.out)
	heard := talkWanted(d.in, true).heard
	read := c.Next - p.first[k]
	if !whole || read > len(heard) || len(replies)+len(c.Slots) != read {
		p.Errorf("connection %d has read %d of %d requests, %d slots, and the replies %q", k, read, len(heard), len(c.Slots), d.out)
		return
	}
	for i, r := range replies {
		if !mayBeAnswered(p.host, heard[i], r) {
			p.Errorf("connection %d: request %d, %+v, is answered by %+v", k, i, heard[i], r)
		}
	}
	jobs := map[int]string{}
	for _, x := range p.host.Tenants {
		for _, j := range x.Queue {
			if j.Conn == k {
				jobs[j.Seq] += "/" + x.Name + j.Path + " "
			}
		}
	}
	for i, s := range c.Slots {
		request := heard[len(replies)+i]
		name, path, _ := splitWanted(request.request.Path)
		want := "/" + name + path + " "
		if s.Ready {
			want = ""
		}
		if s.Seq != p.first[k]+len(replies)+i || i == 0 && s.Ready || jobs[s.Seq] != want {
			p.Errorf("connection %d: slot %d is %+v, its job %q, not %q", k, i, s, jobs[s.Seq], want)
		}
		delete(jobs, s.Seq)
		p.counts[map[bool]string{true: "replies that wait", false: "requests that wait"}[s.Ready]]++
	}
	if len(jobs) > 0 || !c.Open && len(c.Slots) > 0 {
		p.Errorf("connection %d has the jobs %v beside its slots, %s", k, jobs, toldConn(c))
	}
}

// wantAllAnswered goes through all that was said on a connection before it is opened or closed: each reply is the right one, late, or shed.
func (p *theater) wantAllAnswered(k int) {
	p.Helper()
	wantDialog(p.T, p.host, p.dialogs[k])
	p.wantAnswered(k) // against AnswerOf, and in time as promised
	replies, _ := repliesRead(p.dialogs[k].out)
	heard := talkWanted(p.dialogs[k].in, true).heard
	for i, r := range replies {
		p.told = append(p.told, r)
		p.wantRight(heard[i], r)
	}
}

// wantRight: a tenant's request is answered as AnswerOf says, or late, or shed.
func (p *theater) wantRight(request heard, r replyRead) {
	p.Helper()
	name, path, _ := splitWanted(request.request.Path)
	source, found := map[string]string{"one": plainOne, "two": plainTwo, "bad": plainBad, "spin": plainSpin}[name]
	if !found || request.code != impl.OK {
		p.counts["of no tenant"]++
		return
	}
	a, code := impl.AnswerOf(source, path)
	right, _ := impl.RightReply(source, path, reply(r.status, r.body))
	shed := r.status == 503 && r.body == "full" && name != "bad"
	late := r.status == 504 && r.body == "late" && name != "bad"
	switch {
	case code != impl.OK, right != (r.status == a.Status && r.body == a.Body), !right && !shed && !late:
		p.Errorf("%q of %s is answered by %+v; AnswerOf says %+v", path, name, r, a)
	case right:
		p.counts[name+" right"]++
	case shed:
		p.counts[name+" shed"]++
	default:
		p.counts[name+" late"]++
	}
}

// end holds the script as a whole against its acts one by one, and what was sent against its count.
func (p *theater) end() {
	p.Helper()
	var outs [4]string
	for k := range 4 {
		p.wantAllAnswered(k)
	}
	got := actsRun(p.acts)
	wantActed(p.T, "ActsRun", got, acted{p.host, p.sent, p.codes, impl.OK})
	for _, o := range got.sent {
		outs[o.Conn] += o.Bytes
	}
	for k, want := range outs {
		if text := wantSentTo(p.T, got.sent, k); text != want {
			p.Errorf("SentTo of %d is %q, not %q", k, text, want)
		}
	}
	went := map[int]int{}
	for _, r := range p.told {
		went[r.status]++
	}
	count := 0
	for status := range statusWords() {
		n := wantCount(p.T, got.sent, status)
		if n != went[status] {
			p.Errorf("%d replies of the status %d, but %d went out", n, status, went[status])
		}
		count += n
	}
	if count != len(p.told) {
		p.Errorf("%d replies are counted, but %d went out", count, len(p.told))
	}
}

// Scripts by chance on a plain host: promise 14, and what promises 12 and 13 say of it, behind each act; ActsRun, SentTo and CountStatus behind all of them.
func TestScriptsByChance(t *testing.T) {
	t.Parallel()
	g := &gardener{Rand: rand.New(rand.NewSource(81))}
	counts := map[string]int{}
	for range 70 {
		p := g.newTheater(t, counts)
		for range []int{120, 120, g.Intn(121)}[g.Intn(3)] {
			p.do(p.act())
			if t.Failed() {
				return
			}
		}
		if p.end(); t.Failed() {
			return
		}
		if g.Intn(15) == 0 {
			wantHostAnswers(t, p.host)
		}
	}
	for what, least := range map[string]int{
		"open ok": 300, "open twice": 250, "open range": 30, "bytes ok": 800, "bytes full": 50, "bytes shut": 200, "bytes range": 30, "bytes long": 15, "close ok": 60, "close shut": 20, "close range": 30, "tick ok": 2000, " form": 60,
		"one right": 150, "one shed": 10, "two right": 25, "two late": 60, "two shed": 50, "bad right": 90, "spin right": 90, "spin shed": 40, "of no tenant": 350,
		"promised": 200, "right as promised": 150, "shut": 120, "jobs beside each other": 2000, "replies that wait": 5500, "requests that wait": 6500,
	} {
		if counts[what] < least {
			t.Errorf("only %d times %q, not %d: %v", counts[what], what, least, counts)
		}
	}
}

// one is in time, whatever else is asked: its two jobs take two turns of each of the four at most, and 8 ticks are fewer than Wait.
func TestOneIsInTime(t *testing.T) {
	t.Parallel()
	g := &gardener{Rand: rand.New(rand.NewSource(82))}
	counts := map[string]int{}
	for range 80 {
		var acts []impl.Act
		for k := range 4 {
			acts = append(acts, opens(k))
		}
		for len(acts) < 100 {
			switch k := g.Intn(4); g.Intn(5) {
			case 0:
				acts = append(acts, asks(k, "/one"+[]string{"", "/a", "/ab", "/abc", "/abcd"}[g.Intn(5)]))
			case 1:
				acts = append(acts, asks(k, g.plainPath()))
			case 2:
				acts = append(acts, asks(k, "/spin/"+g.word("x y"), "/two"))
			default:
				acts = append(acts, impl.Act{Kind: 4})
			}
		}
		acts = append(acts, ticks(20)...)
		got := actsRun(acts)
		for k := range 4 {
			talked := ""
			for i, a := range acts {
				if a.Kind == 2 && a.Conn == k && got.codes[i] == impl.OK {
					talked += a.Bytes
				}
			}
			replies, _ := repliesRead(wantSentTo(t, got.sent, k))
			for i, r := range replies {
				request := talkWanted(talked, true).heard[i].request.Path
				name, path, _ := splitWanted(request)
				if name == "one" && r.status != 503 {
					counts["one"]++
					wantRightReply(t, plainOne, path, reply(r.status, r.body), true, impl.OK)
				}
			}
		}
		if t.Failed() {
			return
		}
	}
	if counts["one"] < 500 {
		t.Errorf("one was asked too seldom: %v", counts)
	}
}

// Texts that are cut by chance into acts leave the same host as a whole one, and the same is sent.
func TestCutScriptsByChance(t *testing.T) {
	t.Parallel()
	g := &gardener{Rand: rand.New(rand.NewSource(83))}
	for range 200 {
		text := g.plainText()
		if len(text) > 400 {
			continue
		}
		k := g.Intn(4)
		whole := actsRun(append([]impl.Act{opens(k), says(k, text)}, ticks(30)...))
		pieces := g.pieces(text, 1+g.Intn(60))
		if len(pieces) > 80 {
			continue
		}
		acts := []impl.Act{opens(k)}
		for _, piece := range pieces {
			acts = append(acts, says(k, piece))
		}
		cut := actsRun(append(acts, ticks(30)...))
		wantHost(t, "in pieces", cut.host, cut.code, whole.host, whole.code)
		if a, b := wantSentTo(t, cut.sent, k), wantSentTo(t, whole.sent, k); a != b {
			t.Errorf("%q is answered by %q, in pieces by %q", text, b, a)
		}
		if t.Failed() {
			return
		}
	}
}

// Lists by chance of what was sent.
func TestSentByChance(t *testing.T) {
	t.Parallel()
	g := &gardener{Rand: rand.New(rand.NewSource(84))}
	for range 4000 {
		var list []impl.Sent
		for range g.Intn(6) {
			text := ""
			for range g.Intn(6) {
				text += []string{"HTTP/1.1 ", "200 ", "404 ", " ", "HTTP/1.1 200 ", "OK", g.bytes(3), reply(504, "late")}[g.Intn(8)]
			}
			list = append(list, impl.Sent{Conn: g.Intn(6) - 1, Bytes: text, Shut: g.Intn(4) == 0})
		}
		wantSentTo(t, list, g.Intn(7)-1)
		for _, status := range []int{200, 404, 504, 201} {
			wantCount(t, list, status)
		}
	}
}

func FuzzScripts(f *testing.F) {
	f.Add("\x01\x02\x04\x04\x42\x81\x82\x84\x03\x00", requestsOf("/one/a", "/two", "/none"), requestOf("/spin", true), 0, 9, 200)
	f.Add("\x01\x41\x81\xc1\x02\x42\x82\xc2\x04\x04\x04\x04\x04\x04\x04\x04\x04\x04\x04\x04\x04", "GET /two HTTP/1.1\r\n\r\nGET /bad", "junk\r\n\r\n", 1, -1, 504)
	f.Add("\x01\x0a\x12\x1a\x04", "HTTP/1.1 200 OK", "HTTP/1.1 404 ", 2, 4, 404)
	f.Fuzz(func(t *testing.T, kinds, text, other string, k, kind, status int) {
		var acts []impl.Act
		for _, b := range []byte(kinds[:min(len(kinds), 125)]) {
			a := impl.Act{Kind: int(b) % 8, Conn: int(b >> 6), Bytes: []string{text, other}[int(b>>3)%2]}
			switch a.Kind {
			case 6:
				a.Kind, a.Bytes = 2, requestOf("/one/"+string('a'+rune(b>>6)), false)
			case 7:
				a.Kind, a.Conn = kind, k
			}
			acts = append(acts, a)
		}
		got := wantActsRun(t, acts)
		wantSentTo(t, got.sent, k)
		wantCount(t, got.sent, status)
		list := []impl.Sent{{Conn: k, Bytes: text}, {Conn: kind, Bytes: other}, {Conn: k, Bytes: other + text}}
		wantSentTo(t, list, k)
		wantCount(t, list, status)
		if got.code != impl.OK {
			return
		}
		if !impl.HostOK(got.host) {
			t.Errorf("the host is not right any more:\n%s", toldHost(got.host))
		}
		wantActDo(t, got.host, impl.Act{Kind: kind, Conn: k, Bytes: text})
	})
}
