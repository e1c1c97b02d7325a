package tests

import (
	"math"
	"runtime"
	"slices"
	"strings"
	"testing"
	"time"

	"loop.example/g00370/impl"
)

func TestScriptConstantsAreTheDocuments(t *testing.T) {
	got := []int{impl.MaxActs, impl.AcOpen, impl.AcBytes, impl.AcClose, impl.AcTick}
	if !slices.Equal(got, []int{120, 1, 2, 3, 4}) {
		t.Errorf("the constants are %v", got)
	}
}

func TestPlainHost(t *testing.T) {
	h := impl.PlainHost()
	wantHost(t, "PlainHost", h, impl.OK, plainWanted(), impl.OK)
	if !impl.HostOK(h) || h.Config != (impl.Config{Room: 2, Quantum: 40, Wait: 12}) || h.Turn != 0 || h.Now != 0 || h.Ids != 0 {
		t.Errorf("PlainHost is %s", toldHost(h))
	}
	for k, source := range []string{plainOne, plainTwo, plainBad, plainSpin} {
		x := h.Tenants[k]
		p, code := impl.CompileSource(source)
		state := map[bool]int{true: impl.TeReady, false: impl.TeFailed}[code == impl.OK]
		if x.Name != plainNames()[k] || x.Source != source || x.State != state || len(x.Queue) != 0 || x.Fuel != 0 || len(x.Program.Funcs) != len(p.Funcs) {
			t.Errorf("tenant %d is %s", k, toldTenant(x))
		}
	}
	s := scene{t, h}
	s.words("shut shut shut shut")
	if failed := h.Tenants[2]; failed.State != impl.TeFailed || h.Tenants[0].State != impl.TeReady || h.Tenants[1].State != impl.TeReady || h.Tenants[3].State != impl.TeReady {
		t.Errorf("the states are others: %s", toldHost(h))
	}
	wantHostAnswers(t, h)
}

// What the plain tenants answer by themselves, whatever the path.
func TestWhatPlainTenantsAnswer(t *testing.T) {
	for size := 1; size <= 40; size++ {
		for _, path := range []string{"/" + strings.Repeat("p", size-1), strings.Repeat("/", size)} {
			for source, want := range map[string]impl.Answer{
				plainOne:  {Status: 200, Body: "end" + path},
				plainTwo:  {Status: 200, Body: "210"},
				plainBad:  {Status: 500, Body: "form"},
				plainSpin: {Status: 504, Body: "late", Late: true},
			} {
				if a, code := impl.AnswerOf(source, path); a != want || code != impl.OK {
					t.Errorf("AnswerOf of %q, %q = %+v, %d", source, path, a, code)
				}
			}
		}
	}
}

// played is a script that is told step by step.
type played struct {
	*scene
	acts  []impl.Act
	sent  []impl.Sent
	codes []int
}

func newPlayed(t *testing.T) *played {
	t.Helper()
	return &played{scene: &scene{t, impl.PlainHost()}}
}

// does has a code and what is sent for an act; a host that has a code is as it was.
func (p *played) does(a impl.Act, code int, want ...impl.Sent) {
	p.Helper()
	got := wantActDo(p.T, p.host, a)
	if got.code != code || !slices.Equal(got.sent, want) {
		p.Errorf("ActDo of %s: code %d, sent%s; want %d,%s", toldAct(a), got.code, toldSent(got.sent), code, toldSent(want))
	}
	if code != impl.OK && !sameHost(got.host, p.host) {
		p.Errorf("ActDo of %s has the code %d, but the host is\n%s; it was\n%s", toldAct(a), code, toldHost(got.host), toldHost(p.host))
	}
	p.host = got.host
	p.acts, p.sent, p.codes = append(p.acts, a), append(p.sent, got.sent...), append(p.codes, code)
}

// ticks goes on so many times with nothing sent.
func (p *played) ticks(count int) {
	p.Helper()
	for range count {
		p.does(impl.Act{Kind: 4}, impl.OK)
	}
}

// ends has the same from ActsRun.
func (p *played) ends() {
	p.Helper()
	got := wantActsRun(p.T, p.acts)
	wantActed(p.T, "ActsRun", got, acted{p.host, p.sent, p.codes, impl.OK})
}

func TestAScriptByHand(t *testing.T) {
	p := newPlayed(t)
	tick := impl.Act{Kind: 4}
	p.does(asks(0, "/one/a"), impl.ErrShut)
	p.does(opens(0), impl.OK)
	p.does(opens(0), impl.ErrTwice)
	p.does(opens(2), impl.OK)
	p.words("idle shut idle shut")
	// Behind spin all wait, but what is answered at once on another connection.
	p.does(asks(0, "/spin/x", "/two", "/one/a", "/none", "/bad"), impl.OK)
	p.does(asks(2, "/none"), impl.OK, out(2, reply(404, "none")))
	p.does(asks(2, "/bad/path"), impl.OK, out(2, reply(500, "form")))
	p.does(asks(2, "/spin/2", "/spin/3"), impl.OK)
	p.jobs(1, 1, 0, 2)
	p.words("waiting shut waiting shut")
	p.does(opens(4), impl.ErrRange)
	p.does(impl.Act{Kind: 9, Conn: 9}, impl.ErrForm)
	p.does(says(1, "x"), impl.ErrShut)
	p.does(says(0, longText[:401]), impl.ErrFull)
	p.does(says(0, longText), impl.ErrLong)
	p.does(shuts(3), impl.ErrShut)
	// one is over in a turn, then two and spin take turns.
	p.ticks(1)
	p.jobs(0, 1, 0, 2)
	p.ticks(2)
	if x := p.host.Tenants; x[1].Fuel != 40 || x[3].Fuel != 40 || p.host.Now != 3 {
		t.Errorf("the host is %s", toldHost(p.host))
	}
	p.does(shuts(2), impl.OK)
	p.jobs(0, 1, 0, 1)
	p.does(shuts(2), impl.ErrShut)
	p.does(opens(2), impl.OK)
	p.does(says(2, "GET /one/b HT"), impl.OK)
	p.does(says(2, "TP/1.1\r\nConnection: close\r\n\r\nwhat is behind"), impl.OK)
	p.words("waiting shut ending shut")
	p.does(asks(2, "/one"), impl.ErrShut)
	p.does(opens(2), impl.ErrTwice)
	p.does(impl.Act{Kind: 4, Conn: 77, Bytes: "nothing"}, impl.OK, outAndShut(2, lastReply(200, "end/b")))
	p.ticks(7)
	// At Wait both are late, and all behind them goes, too.
	p.does(tick, impl.OK, out(0, reply(504, "late"), reply(504, "late"), reply(200, "end/a"), reply(404, "none"), reply(500, "form")))
	p.jobs(0, 0, 0, 0)
	p.words("idle shut shut shut")
	p.does(opens(2), impl.OK)
	p.does(says(2, "junk\r\n\r\n"), impl.OK, outAndShut(2, lastReply(400, "form")))
	p.does(opens(2), impl.OK)
	p.does(says(2, "PUT / HTTP/1.1\r\n\r\n"), impl.OK, outAndShut(2, lastReply(501, "method")))
	p.does(opens(2), impl.OK)
	p.does(says(2, longText[:121]), impl.OK, outAndShut(2, lastReply(431, "long")))
	p.does(asks(0, "/one/1", "/one/2", "/one/3"), impl.OK)
	p.does(tick, impl.OK, out(0, reply(200, "end/1")))
	p.does(tick, impl.OK, out(0, reply(200, "end/2"), reply(503, "full")))
	p.does(asks(0, "/two/2"), impl.OK)
	p.ticks(6)
	p.does(tick, impl.OK, out(0, reply(200, "210")))
	p.ends()
	for status, want := range map[int]int{200: 5, 400: 1, 404: 2, 431: 1, 500: 2, 501: 1, 503: 1, 504: 2} {
		if got := wantCount(t, p.sent, status); got != want {
			t.Errorf("%d replies have the status %d, not %d", got, status, want)
		}
	}
	for k, want := range []string{
		reply(504, "late") + reply(504, "late") + reply(200, "end/a") + reply(404, "none") + reply(500, "form") + reply(200, "end/1") + reply(200, "end/2") + reply(503, "full") + reply(200, "210"),
		"",
		reply(404, "none") + reply(500, "form") + lastReply(200, "end/b") + lastReply(400, "form") + lastReply(501, "method") + lastReply(431, "long"),
		"",
	} {
		if got := wantSentTo(t, p.sent, k); got != want {
			t.Errorf("to %d was sent %q, not %q", k, got, want)
		}
	}
}

// How the plain tenants share their turns: two is in time by itself, and beside one; beside spin it is late.
func TestPlainTenantsByHand(t *testing.T) {
	tick := impl.Act{Kind: 4}
	for _, c := range []struct {
		others string
		ticks  int // until two is answered
		right  bool
	}{{"", 7, true}, {"/one/a", 8, true}, {"/one/a /one/b", 9, true}, {"/bad", 7, true}, {"/spin", 12, false}, {"/spin /spin", 12, false}, {"/one /spin", 12, false}} {
		p := newPlayed(t)
		p.does(opens(1), impl.OK)
		p.does(opens(0), impl.OK)
		p.does(asks(1, "/two/t"), impl.OK)
		others := requestsOf(strings.Fields(c.others)...)
		var at []int
		for k, a := range append([]impl.Act{says(0, others)}, ticks(14)...) {
			got := wantActDo(t, p.host, a)
			for _, o := range got.sent {
				if o.Conn == 1 {
					at = append(at, k)
					right, _ := impl.RightReply(plainTwo, "/t", o.Bytes)
					if right != c.right || !right && o.Bytes != reply(504, "late") {
						t.Errorf("beside %q it is answered by %q", c.others, o.Bytes)
					}
				}
			}
			p.host = got.host
		}
		if !slices.Equal(at, []int{c.ticks}) {
			t.Errorf("beside %q it is answered at %v, not at %d", c.others, at, c.ticks)
		}
	}
	// A third job of a tenant is shed, as long as two wait; spin is late at the twelfth tick.
	p := newPlayed(t)
	p.does(opens(3), impl.OK)
	p.does(asks(3, "/spin/1", "/spin/2", "/spin/3", "/one", "/one", "/one", "/one"), impl.OK)
	p.jobs(2, 0, 0, 2)
	p.does(asks(3, "/none"), impl.OK)
	p.ticks(11)
	p.does(tick, impl.OK, out(3, reply(504, "late"), reply(504, "late"), reply(503, "full"), reply(200, "end/"), reply(200, "end/"), reply(503, "full")))
	// Only now there is a slot for the last ones.
	p.jobs(1, 0, 0, 0)
	p.does(tick, impl.OK, out(3, reply(200, "end/"), reply(404, "none")))
	p.ends()
}

// madeHosts are right ones, in which each code comes up somewhere.
func madeHosts(t *testing.T) map[string]impl.Host {
	t.Helper()
	list := map[string]impl.Host{"plain": impl.PlainHost(), "busy": busyHost(t), "idle": idleHost(t)}
	opened := newPlayed(t)
	for k := range 4 {
		opened.does(opens(k), impl.OK)
	}
	list["open"] = opened.host
	opened.does(asks(1, "/spin", "/one", "/two", "/none"), impl.OK)
	opened.does(says(2, requestOf("/spin/a", false)+requestOf("/one", true)), impl.OK)
	opened.does(says(3, longText[:120]), impl.OK)
	list["at work"] = opened.host
	opened.ticks(11)
	list["late"] = opened.host
	last := cloneHost(impl.PlainHost())
	last.Now, last.Ids, last.Conns[0].Open = 50000, 100000, true
	last.Conns[1] = impl.Conn{Open: true, Next: 100000}
	list["the last"] = last
	return list
}

// Each act on each host, right or not: the code that comes first, and the host as it was with it.
func TestCodesOfActs(t *testing.T) {
	hosts := madeHosts(t)
	texts := []string{"", "x", requestsOf("/one", "/none"), longText[:400], longText[:401], longText[:65536], longText}
	kinds := append(oddNumbers(), 10, 40, 1<<32+2, 2-1<<32, 1<<62)
	for name, h := range hosts {
		for _, kind := range kinds {
			for _, k := range placesToAsk() {
				for _, text := range texts {
					a := impl.Act{Kind: kind, Conn: k, Bytes: text}
					got := wantActDo(t, h, a)
					other := kind < 1 || kind > 4
					switch {
					case other && got.code != impl.ErrForm, !other && kind != 4 && (k < 0 || k > 3) && got.code != impl.ErrRange:
						t.Errorf("%s, %s: %d", name, toldAct(a), got.code)
					case got.code != impl.OK && (!sameHost(got.host, h) || len(got.sent) > 0):
						t.Errorf("%s, %s has the code %d, sent%s, the host is\n%s", name, toldAct(a), got.code, toldSent(got.sent), toldHost(got.host))
					}
					if t.Failed() {
						return
					}
				}
			}
		}
	}
}

// A tick has no connection, and no bytes: they may be any, and it is the same.
func TestTicksAreTicks(t *testing.T) {
	for name, h := range madeHosts(t) {
		var want happened
		want.host, want.sent, want.code = impl.HostTick(h)
		if name == "the last" && want.code != impl.ErrMany {
			t.Errorf("HostTick: %d", want.code)
		}
		for _, k := range placesToAsk() {
			for _, text := range []string{"", "x", requestOf("/one", false), longText} {
				a := impl.Act{Kind: 4, Conn: k, Bytes: text}
				wantHappened(t, name+", "+toldAct(a), wantActDo(t, h, a), want)
			}
		}
	}
}

// What opens or closes has no use for Bytes.
func TestBytesOfOtherActs(t *testing.T) {
	for name, h := range madeHosts(t) {
		for k := range 4 {
			for _, a := range []impl.Act{opens(k), shuts(k)} {
				want := wantActDo(t, h, a)
				for _, text := range []string{"x", requestOf("/one", false), longText} {
					a.Bytes = text
					wantHappened(t, name+", "+toldAct(a), wantActDo(t, h, a), want)
				}
			}
		}
	}
}

// The codes of HostOpen, HostBytes and HostClose by hand, with the host as it was.
func TestWhatActsAreRefused(t *testing.T) {
	p := newPlayed(t)
	p.does(shuts(0), impl.ErrShut)
	p.does(says(0, ""), impl.ErrShut)
	p.does(says(0, longText[:401]), impl.ErrShut) // ConnTake names it first
	p.does(says(0, longText[:65536]), impl.ErrShut)
	p.does(says(0, longText), impl.ErrLong) // HostBytes has it ahead of all
	p.does(says(4, longText), impl.ErrRange)
	p.does(says(-1, ""), impl.ErrRange)
	p.does(opens(-1), impl.ErrRange)
	p.does(shuts(4), impl.ErrRange)
	p.does(opens(0), impl.OK)
	p.does(opens(0), impl.ErrTwice)
	p.does(says(0, longText[:401]), impl.ErrFull)
	p.does(says(0, longText[:65536]), impl.ErrFull)
	p.does(says(0, longText), impl.ErrLong)
	p.does(says(0, longText[:100]), impl.OK)
	p.does(says(0, longText[:301]), impl.ErrFull)
	p.does(says(0, ""), impl.OK)
	p.does(shuts(0), impl.OK)
	p.does(opens(0), impl.OK)
	p.does(says(0, requestOf("/spin", true)+longText[:300]), impl.OK)
	p.does(says(0, ""), impl.ErrShut)
	p.does(says(0, longText[:401]), impl.ErrShut)
	p.does(says(0, longText), impl.ErrLong)
	p.does(opens(0), impl.ErrTwice)
	p.does(impl.Act{}, impl.ErrForm)
	p.does(impl.Act{Kind: 5, Conn: 5, Bytes: longText}, impl.ErrForm)
	p.does(impl.Act{Kind: -1, Conn: -1}, impl.ErrForm)
	p.does(impl.Act{Kind: math.MinInt, Conn: math.MaxInt}, impl.ErrForm)
	p.ends()
	p.host.Now, p.host.Tenants[3].Queue[0].Since = 50000, 50000
	p.does(impl.Act{Kind: 4}, impl.ErrMany)
	p.does(impl.Act{Kind: 4, Conn: 9}, impl.ErrMany)
	p.does(shuts(0), impl.OK)
	p.does(impl.Act{Kind: 4, Conn: -9}, impl.ErrMany)
}

func TestScriptsOfNoActs(t *testing.T) {
	for _, acts := range [][]impl.Act{nil, {}, make([]impl.Act, 0, 9)} {
		got := wantActsRun(t, acts)
		wantActed(t, "ActsRun of nothing", got, acted{host: impl.PlainHost()})
	}
}

func TestHowManyActs(t *testing.T) {
	faults := slices.Repeat([]impl.Act{{}}, 5000)
	both := slices.Repeat([]impl.Act{opens(0), shuts(0), {Kind: 7}, {Kind: 4}}, 1250)
	talk := append([]impl.Act{opens(0), opens(1)}, slices.Repeat([]impl.Act{asks(0, "/one/a"), asks(1, "/two"), {Kind: 4}, {Kind: 4}}, 1250)...)
	for _, acts := range [][]impl.Act{faults, both, talk, ticks(5000), slices.Repeat([]impl.Act{says(0, longText)}, 5000)} {
		for _, count := range []int{1, 2, 119, 120, 121, 122, 500, 4095, 4096, 4097, 5000} {
			got := wantActsRun(t, acts[:count])
			want := map[bool]int{true: impl.OK, false: impl.ErrMany}[count <= 120]
			if count > 4096 {
				want = impl.ErrLong
			}
			if got.code != want || want == impl.OK && len(got.codes) != count || want != impl.OK && len(got.codes) > 0 {
				t.Errorf("ActsRun of %d acts: %d codes, %d", count, len(got.codes), got.code)
			}
		}
	}
	got := wantActsRun(t, ticks(120))
	if got.host.Now != 120 || slices.Max(got.codes) != impl.OK {
		t.Errorf("behind 120 ticks: %s", toldHost(got.host))
	}
}

// A fault among the acts is no fault of the script: the others are done, and each has its own code.
func TestFaultsAmongActs(t *testing.T) {
	faults := []impl.Act{{}, {Kind: 5}, opens(9), says(3, "x"), says(0, longText), shuts(2), opens(0), {Kind: math.MinInt, Conn: -1}}
	acts := []impl.Act{opens(0)}
	for k, a := range faults {
		acts = append(acts, a, asks(0, "/one/"+strings.Repeat("a", k+1)), a, impl.Act{Kind: 4}, a)
	}
	got := wantActsRun(t, acts)
	codes := []int{impl.ErrForm, impl.ErrForm, impl.ErrRange, impl.ErrShut, impl.ErrLong, impl.ErrShut, impl.ErrTwice, impl.ErrForm}
	want, text := []int{impl.OK}, ""
	for k, code := range codes {
		want = append(want, code, impl.OK, code, impl.OK, code)
		text += reply(200, "end/"+strings.Repeat("a", k+1))
	}
	if !slices.Equal(got.codes, want) || wantSentTo(t, got.sent, 0) != text {
		t.Errorf("codes %v, sent%s", got.codes, toldSent(got.sent))
	}
}

// What is sent stands in the order in which it was sent: act by act, connection by connection.
func TestOrderOfWhatIsSent(t *testing.T) {
	p := newPlayed(t)
	for _, k := range []int{3, 1, 0, 2} {
		p.does(opens(k), impl.OK)
	}
	p.does(asks(2, "/none"), impl.OK, out(2, reply(404, "none")))
	p.does(asks(0, "/none"), impl.OK, out(0, reply(404, "none")))
	p.does(asks(3, "/spin"), impl.OK)
	p.does(asks(1, "/spin"), impl.OK)
	p.does(asks(2, "/none", "/bad"), impl.OK, out(2, reply(404, "none"), reply(500, "form")))
	p.ticks(11)
	p.does(impl.Act{Kind: 4}, impl.OK, out(1, reply(504, "late")), out(3, reply(504, "late")))
	p.does(asks(0, "/bad"), impl.OK, out(0, reply(500, "form")))
	p.ends()
	var conns []int
	for _, o := range p.sent {
		conns = append(conns, o.Conn)
	}
	if !slices.Equal(conns, []int{2, 0, 2, 1, 3, 0}) {
		t.Errorf("sent%s", toldSent(p.sent))
	}
}

// As much as a script can send: an act may send to a connection, or a tick to all four, and each is told with all its replies.
func TestMuchIsSent(t *testing.T) {
	acts := []impl.Act{opens(0), opens(1), opens(2), opens(3)}
	for k := range 116 {
		acts = append(acts, says(k%4, strings.Repeat("GET /none HTTP/1.1\r\n\r\n", 18)))
	}
	got := wantActsRun(t, acts)
	want := slices.Repeat([]impl.Sent{out(0, strings.Repeat(reply(404, "none"), 18))}, 116)
	for k := range want {
		want[k].Conn = k % 4
	}
	if !slices.Equal(got.sent, want) {
		t.Errorf("sent %d times%.700s", len(got.sent), toldSent(got.sent))
	}
	if count := wantCount(t, got.sent, 404); count != 116*18 {
		t.Errorf("there are %d replies", count)
	}
	for k := range 4 {
		if text := wantSentTo(t, got.sent, k); text != strings.Repeat(reply(404, "none"), 29*18) {
			t.Errorf("to %d were sent %d bytes", k, len(text))
		}
	}
	// All four are sent to at once, where what all wait for is late: two of spin, two of two beside it.
	acts = acts[:4]
	for range 6 {
		acts = append(acts, asks(0, "/spin"), asks(1, "/spin"), asks(2, "/two"), asks(3, "/two"))
		acts = append(acts, ticks(12)...)
	}
	got = wantActsRun(t, acts)
	if len(got.sent) != 24 || wantCount(t, got.sent, 504) != 24 || got.host.Now != 72 {
		t.Errorf("sent%s", toldSent(got.sent))
	}
}

// What a script leaves does not come up in the next one.
func TestScriptsBeginAnew(t *testing.T) {
	first := []impl.Act{opens(0), asks(0, "/one", "/spin"), {Kind: 4}}
	want := wantActsRun(t, first)
	for range 3 {
		wantActsRun(t, []impl.Act{opens(1), asks(1, "/two", "/spin"), {Kind: 4}, {Kind: 4}, shuts(1)})
		wantActed(t, "once more", wantActsRun(t, first), want)
		wantHost(t, "PlainHost", impl.PlainHost(), impl.OK, plainWanted(), impl.OK)
	}
}

// The goroutine that does the acts has ended when the answer is there.
func TestNoGoroutineIsLeft(t *testing.T) {
	ahead := runtime.NumGoroutine()
	h := impl.PlainHost()
	for range 300 {
		impl.ActsRun([]impl.Act{opens(0), asks(0, "/one"), {}, {Kind: 4}})
		impl.ActsRun(nil)
		impl.ActDo(h, opens(0))
		impl.ActDo(h, impl.Act{})
		impl.ActDo(impl.Host{}, opens(0))
	}
	for range 100 {
		if runtime.NumGoroutine() <= ahead+50 {
			return
		}
		time.Sleep(10 * time.Millisecond)
	}
	t.Errorf("there were %d goroutines, there are %d", ahead, runtime.NumGoroutine())
}
