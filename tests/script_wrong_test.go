package tests

import (
	"fmt"
	"math"
	"slices"
	"strings"
	"testing"

	"loop.example/g00370/impl"
)

// A host that is not right is not answered, be the act one that can't be done on any host: nothing is told but ErrBad.
func TestActsOnHostsThatAreWrong(t *testing.T) {
	right := busyHost(t)
	wrong := []impl.Host{{}, {Config: right.Config}, {Conns: right.Conns, Tenants: right.Tenants}}
	for _, spoil := range []func(h *impl.Host){
		func(h *impl.Host) { h.Ids = 0 }, func(h *impl.Host) { h.Now = -1 }, func(h *impl.Host) { h.Turn = 4 }, func(h *impl.Host) { h.Config.Wait = 1001 },
		func(h *impl.Host) { h.Conns = h.Conns[:3] }, func(h *impl.Host) { h.Tenants[2].Source = "" }, func(h *impl.Host) { h.Conns[2].Slots = nil },
	} {
		h := cloneHost(right)
		spoil(&h)
		wrong = append(wrong, h)
	}
	plain := impl.PlainHost()
	plain.Tenants[3].State = impl.TeFailed
	for _, h := range append(wrong, plain) {
		wantNothingOfHost(t, "a wrong host", h)
		for _, kind := range append(oddNumbers(), 5) {
			for _, k := range placesToAsk() {
				for _, text := range []string{"", "x", longText} {
					a := impl.Act{Kind: kind, Conn: k, Bytes: text}
					got := wantActDo(t, h, a)
					wantHappened(t, toldAct(a), got, happened{code: impl.ErrBad})
				}
			}
		}
	}
}

// Acts with another number in one place.
func TestActsWithOtherNumbers(t *testing.T) {
	numbers := append(oddNumbers(), 5, 6, 119, 120, 121, 1<<32+2, 1<<32+3, 3-1<<32, 1<<62)
	for _, n := range numbers {
		acts := []impl.Act{opens(0), opens(n), {Kind: n}, {Kind: n, Conn: 1}, says(n, "GET /one HT"), {Kind: n, Conn: n, Bytes: "x"}, shuts(n), {Kind: 4, Conn: n}}
		wantActsRun(t, acts)
		slices.Reverse(acts)
		wantActsRun(t, acts)
	}
}

// scriptsToLookAt have all kinds of acts; they leave hosts with all kinds of jobs and slots.
func scriptsToLookAt() [][]impl.Act {
	talk := []impl.Act{opens(0), opens(1), opens(2), asks(0, "/two/x", "/none", "/one/abc", "/spin"), {Kind: 4}, {Kind: 4}, asks(1, "/one/abc", "/two"), says(2, requestOf("/spin/a", true)+"rest"), {Kind: 4}, says(1, "GET /on")}
	return [][]impl.Act{nil, talk[:1], talk[:4], talk[:6], talk, append(slices.Clone(talk), shuts(0), shuts(0), impl.Act{}, opens(9), says(3, longText)), slices.Concat(talk, ticks(20)), slices.Repeat(talk, 13), slices.Repeat(talk, 500)}
}

// withActsBehind has something behind the end of the list.
func withActsBehind(acts []impl.Act) []impl.Act {
	room := append(slices.Clone(acts), impl.Act{Kind: 1, Conn: 3, Bytes: "behind"}, impl.Act{Kind: 4})
	return room[:len(acts)]
}

// Neither the acts, nor what stands behind their end is written into; what is answered shares nothing with itself, or with another answer.
func TestScriptsShareNothing(t *testing.T) {
	for which, acts := range scriptsToLookAt() {
		acts = withActsBehind(acts)
		before := slices.Clone(acts[:cap(acts)])
		got, again := wantActsRun(t, acts), wantActsRun(t, acts)
		if !slices.Equal(acts[:cap(acts)], before) {
			t.Errorf("ActsRun wrote into script %d", which)
		}
		list := slices.Concat(hostSpans(got.host, got.sent), hostSpans(again.host, again.sent), []span{spanOf(acts), spanOf(got.codes), spanOf(again.codes)})
		wantApart(t, fmt.Sprint("script ", which), slices.DeleteFunc(list, func(s span) bool { return s.from == s.to }))
		// What is written into one is not to be seen in the other, nor in a third one.
		clear(got.codes[:cap(got.codes)])
		clear(got.sent[:cap(got.sent)])
		clear(got.host.Conns[:cap(got.host.Conns)])
		clear(got.host.Tenants[:cap(got.host.Tenants)])
		wantActed(t, fmt.Sprint("script ", which), wantActsRun(t, acts), again)
	}
	first, second := impl.PlainHost(), impl.PlainHost()
	wantApart(t, "PlainHost", slices.Concat(hostSpans(first, nil), hostSpans(second, nil)))
	clear(first.Tenants[0].Program.Funcs[1].Code)
	clear(first.Tenants)
	wantHost(t, "PlainHost", second, impl.OK, plainWanted(), impl.OK)
	wantHost(t, "PlainHost", impl.PlainHost(), impl.OK, plainWanted(), impl.OK)
}

// Neither a list of what was sent, nor what stands behind its end is written into.
func TestSentListsAreLeft(t *testing.T) {
	room := append(sentOf(1, reply(200, "a"), "x", reply(404, "b")), impl.Sent{Conn: 1, Bytes: "HTTP/1.1 200 behind"}, impl.Sent{Conn: 2, Bytes: longText})
	before := slices.Clone(room)
	for size := range 4 {
		wantAllSent(t, room[:size])
		if text, code := impl.SentTo(room[:size], 1); code != impl.OK || strings.Contains(text, "behind") {
			t.Errorf("SentTo of %d = %q, %d", size, text, code)
		}
		if !slices.Equal(room, before) {
			t.Fatalf("with %d a call wrote into%s", size, toldSent(room))
		}
	}
}

// Texts that were handed in may become others: what was answered stays as it is.
func TestScriptTextsAreTheirOwn(t *testing.T) {
	text, spoil := loose(requestsOf("/one/a", "/none", "/spin/b") + "GET /on")
	acts := []impl.Act{opens(0), says(0, text)}
	opened, _, _ := impl.ActDo(impl.PlainHost(), acts[0])
	did, sent, code := impl.ActDo(opened, acts[1])
	run := acted{}
	run.host, run.sent, run.codes, run.code = impl.ActsRun(acts)
	spoil()
	same := []impl.Act{opens(0), says(0, requestsOf("/one/a", "/none", "/spin/b")+"GET /on")}
	want := actsWanted(same)
	wantActed(t, "ActsRun", run, want)
	wantHappened(t, "ActDo", happened{did, sent, code}, happened{want.host, want.sent, want.code})
	// Those of a host that is handed in, too.
	in, spoilIn := loose("GET /on")
	path, spoilPath := loose("/a")
	given := cloneHost(want.host)
	given.Conns[0].In, given.Tenants[0].Queue[0].Path = in, path
	var answers []happened
	list := []impl.Act{{}, opens(9), opens(0), says(3, ""), says(0, longText), says(0, "e HTTP/1.1\r\n\r\n"), opens(1)}
	for _, a := range list {
		got := happened{}
		got.host, got.sent, got.code = impl.ActDo(given, a)
		answers = append(answers, got)
	}
	spoilIn()
	spoilPath()
	for k, a := range list {
		wantHappened(t, "ActDo of "+toldAct(a), answers[k], actWanted(want.host, a))
	}
	// A text of one alone is new memory, too.
	for _, all := range [][]string{{"HTTP/1.1 200 OK"}, {"", "x"}, {"x", "", "y"}} {
		var sent []impl.Sent
		var spoils []func()
		for _, text := range all {
			own, spoil := loose(text)
			sent, spoils = append(sent, impl.Sent{Conn: 2, Bytes: own}), append(spoils, spoil)
		}
		text, code := impl.SentTo(sent, 2)
		for _, spoil := range spoils {
			spoil()
		}
		if text != strings.Join(all, "") || code != impl.OK {
			t.Errorf("SentTo of %q = %q, %d", all, text, code)
		}
	}
}

// Lists and texts of any length end.
func TestGreatScripts(t *testing.T) {
	great := strings.Repeat("GET /one HTTP/1.1\r\n\r\n", 1<<20)
	got := wantActsRun(t, []impl.Act{opens(0), says(0, great), {Kind: 9, Bytes: great}, {Kind: 4, Bytes: great}, opens(0), shuts(0)})
	if !slices.Equal(got.codes, []int{impl.OK, impl.ErrLong, impl.ErrForm, impl.OK, impl.ErrTwice, impl.OK}) {
		t.Errorf("the codes are %v", got.codes)
	}
	wantActsRun(t, make([]impl.Act, 1<<20))
	wantSentTo(t, make([]impl.Sent, 1<<20), 0)
	wantCount(t, make([]impl.Sent, 1<<20), 200)
	wantSentTo(t, sentOf(0, "x", great), 0)
	wantCount(t, sentOf(0, "x", great), 200)
}

// scriptCalls are calls of chapter 14, ordinary and wrong ones.
func scriptCalls() []func() string {
	calls := []func() string{func() string { return fmt.Sprint(impl.PlainHost()) }}
	for _, acts := range scriptsToLookAt() {
		calls = append(calls, func() string { return fmt.Sprint(impl.ActsRun(acts)) })
		h, sent, _, _ := impl.ActsRun(acts)
		wrong := h
		wrong.Turn = -1
		for _, a := range someActs() {
			calls = append(calls, func() string { return fmt.Sprint(impl.ActDo(h, a)) }, func() string { return fmt.Sprint(impl.ActDo(wrong, a)) })
		}
		for _, list := range [][]impl.Sent{sent, slices.Repeat(sent, 200), append(sentOf(1, longText[:4001]), sent...)} {
			for _, n := range []int{-1, 0, 1, 2, 4, 200, 404, 500, 504, math.MaxInt} {
				calls = append(calls, func() string { return fmt.Sprint(impl.SentTo(list, n)) }, func() string { return fmt.Sprint(impl.CountStatus(list, n)) })
			}
		}
	}
	return calls
}
