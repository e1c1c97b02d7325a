package tests

import (
	"fmt"
	"slices"
	"strings"
	"testing"

	"loop.example/g00370/impl"
)

// This is chapter 14 reckoned once more, on the reckoning of chapter 12.

const (
	plainOne  = "function f(a) { if (a < 1) { return 'end'; } return f(a - 1); } return f(len(path) % 4) + path;"
	plainTwo  = "let x = 0; let y = 0; while (x < 20) { x = x + 1; y = y + x; } return y;"
	plainBad  = "let = 1;"
	plainSpin = "let x = 0; while (true) { x = (x + 1) % 100; } return x;"
)

func plainNames() []string { return []string{"one", "two", "bad", "spin"} }

func plainWanted() impl.Host {
	h, _ := newHostWanted(impl.Config{Room: 2, Quantum: 40, Wait: 12}, plainNames(), []string{plainOne, plainTwo, plainBad, plainSpin})
	return h
}

func opens(k int) impl.Act { return impl.Act{Kind: 1, Conn: k} }

func says(k int, text string) impl.Act { return impl.Act{Kind: 2, Conn: k, Bytes: text} }

func asks(k int, paths ...string) impl.Act { return says(k, requestsOf(paths...)) }

func shuts(k int) impl.Act { return impl.Act{Kind: 3, Conn: k} }

func ticks(count int) []impl.Act { return slices.Repeat([]impl.Act{{Kind: 4}}, count) }

// someActs are of each kind, right and wrong ones.
func someActs() []impl.Act {
	return []impl.Act{
		{Kind: 4}, {Kind: 4, Conn: -1, Bytes: "x"}, {}, {Kind: 5, Conn: 1}, {Kind: -1, Conn: 9},
		opens(0), opens(3), opens(4), shuts(1), shuts(2), shuts(-1),
		says(0, ""), asks(1, "/one", "/none", "/two/b", "/bad"), says(2, requestOf("/three/c", true)+"rest"), says(3, longText[:401]), says(0, longText), says(4, longText),
	}
}

// toldAct is brief, so that a failed test stays readable.
func toldAct(a impl.Act) string {
	return fmt.Sprintf("{kind %d conn %d, %d bytes %.60q}", a.Kind, a.Conn, len(a.Bytes), a.Bytes)
}

func actWanted(h impl.Host, a impl.Act) happened {
	asItWas := func(code int) happened { return happened{host: h, code: code} }
	switch {
	case !rightHost(h):
		return happened{code: impl.ErrBad}
	case a.Kind == 4:
		return tickWanted(h)
	case a.Kind < 1 || a.Kind > 3:
		return asItWas(impl.ErrForm)
	case a.Conn < 0 || a.Conn > 3:
		return asItWas(impl.ErrRange)
	}
	var got happened
	switch a.Kind {
	case 1:
		got.host, got.code = hostOpenWanted(h, a.Conn)
	case 2:
		got = hostBytesWanted(h, a.Conn, a.Bytes)
	case 3:
		got.host, got.code = hostCloseWanted(h, a.Conn)
	}
	if got.code != impl.OK {
		return asItWas(got.code)
	}
	return got
}

// acted is what a script answers.
type acted struct {
	host  impl.Host
	sent  []impl.Sent
	codes []int
	code  int
}

func actsWanted(acts []impl.Act) acted {
	switch {
	case len(acts) > 4096:
		return acted{code: impl.ErrLong}
	case len(acts) > 120:
		return acted{code: impl.ErrMany}
	}
	got := acted{host: plainWanted()}
	for _, a := range acts {
		did := actWanted(got.host, a)
		got.host, got.sent, got.codes = did.host, joined(got.sent, did.sent...), joined(got.codes, did.code)
	}
	return got
}

func sentToWanted(list []impl.Sent, k int) (string, int) {
	if len(list) > 4096 {
		return "", impl.ErrLong
	}
	text := ""
	for _, out := range list {
		if len(list) > 500 || len(out.Bytes) > 4000 {
			return "", impl.ErrBad
		}
		if out.Conn == k {
			text += out.Bytes
		}
	}
	return text, impl.OK
}

// countWanted goes place by place.
func countWanted(list []impl.Sent, status int) (int, int) {
	_, known := statusWords()[status]
	switch {
	case len(list) > 4096:
		return 0, impl.ErrLong
	case len(list) > 500 || !known:
		return 0, impl.ErrRange
	case slices.ContainsFunc(list, func(out impl.Sent) bool { return len(out.Bytes) > 4000 }):
		return 0, impl.ErrBad
	}
	count, head := 0, fmt.Sprintf("HTTP/1.1 %d ", status)
	for _, out := range list {
		for at := range out.Bytes {
			if strings.HasPrefix(out.Bytes[at:], head) {
				count++
			}
		}
	}
	return count, impl.OK
}

func wantActDo(t *testing.T, h impl.Host, a impl.Act) happened {
	t.Helper()
	got := happened{}
	got.host, got.sent, got.code = impl.ActDo(h, a)
	wantHappened(t, "ActDo of "+toldAct(a), got, actWanted(h, a))
	return got
}

func wantActed(t *testing.T, what string, got, want acted) {
	t.Helper()
	wantHost(t, what, got.host, got.code, want.host, want.code)
	if !slices.Equal(got.sent, want.sent) {
		t.Errorf("%s: sent%s; want%s", what, toldSent(got.sent), toldSent(want.sent))
	}
	if !slices.Equal(got.codes, want.codes) {
		t.Errorf("%s: the codes %v; want %v", what, got.codes, want.codes)
	}
}

func actsRun(acts []impl.Act) (got acted) {
	got.host, got.sent, got.codes, got.code = impl.ActsRun(acts)
	return got
}

func wantActsRun(t *testing.T, acts []impl.Act) acted {
	t.Helper()
	got := actsRun(acts)
	wantActed(t, fmt.Sprint("ActsRun of ", len(acts), " acts"), got, actsWanted(acts))
	return got
}

func wantSentTo(t *testing.T, list []impl.Sent, k int) string {
	t.Helper()
	got, code := impl.SentTo(list, k)
	if want, wantCode := sentToWanted(list, k); got != want || code != wantCode {
		t.Errorf("SentTo of %d, to %d = %d bytes %.200q, %d; want %d bytes %.200q, %d", len(list), k, len(got), got, code, len(want), want, wantCode)
	}
	return got
}

func wantCount(t *testing.T, list []impl.Sent, status int) int {
	t.Helper()
	got, code := impl.CountStatus(list, status)
	if want, wantCode := countWanted(list, status); got != want || code != wantCode {
		t.Errorf("CountStatus of %d, of %d = %d, %d; want %d, %d:%.700s", len(list), status, got, code, want, wantCode, toldSent(list[:min(len(list), 9)]))
	}
	return got
}
