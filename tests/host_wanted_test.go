package tests

import (
	"fmt"
	"maps"
	"math"
	"slices"
	"strings"
	"testing"

	"loop.example/g00370/impl"
)

// This is chapter 12 reckoned once more: each step answers another host, and none is written into.

func rightConfig(c impl.Config) bool {
	return numbersWithin(1, 4, c.Room) && numbersWithin(1, 1000, c.Quantum, c.Wait)
}

// rightHost is HostOK of the tests' own.
func rightHost(h impl.Host) bool {
	if !rightConfig(h.Config) || len(h.Tenants) < 1 || len(h.Tenants) > 4 || len(h.Conns) != 4 {
		return false
	}
	if !numbersWithin(0, len(h.Tenants)-1, h.Turn) || !numbersWithin(0, 50000, h.Now) || !numbersWithin(0, 100000, h.Ids) {
		return false
	}
	names, ids, asked, waits := map[string]int{}, map[int]int{}, map[[2]int]int{}, map[[2]int]int{}
	for _, x := range h.Tenants {
		if !rightTenant(x) || len(x.Queue) > h.Config.Room {
			return false
		}
		names[x.Name]++
		for _, j := range x.Queue {
			if j.Id >= h.Ids || j.Since > h.Now || j.Since+h.Config.Wait <= h.Now {
				return false
			}
			ids[j.Id]++
			asked[[2]int{j.Conn, j.Seq}]++
		}
	}
	for k, c := range h.Conns {
		if !rightConn(c) {
			return false
		}
		for _, s := range c.Slots {
			if !s.Ready {
				waits[[2]int{k, s.Seq}]++
			}
		}
	}
	return len(names) == len(h.Tenants) && len(ids) == len(asked) && maps.Equal(asked, waits)
}

// happened is what an event answers.
type happened struct {
	host impl.Host
	sent []impl.Sent
	code int
}

func withTenantAt(h impl.Host, k int, x impl.Tenant) impl.Host {
	h.Tenants = slices.Concat(h.Tenants[:k], []impl.Tenant{x}, h.Tenants[k+1:])
	return h
}

func withConnAt(h impl.Host, k int, c impl.Conn) impl.Host {
	h.Conns = slices.Concat(h.Conns[:k], []impl.Conn{c}, h.Conns[k+1:])
	return h
}

func newHostWanted(c impl.Config, names, sources []string) (impl.Host, int) {
	switch {
	case len(names) > 4096 || len(sources) > 4096:
		return impl.Host{}, impl.ErrLong
	case !rightConfig(c):
		return impl.Host{}, impl.ErrBad
	case len(names) < 1 || len(names) > 4 || len(names) != len(sources):
		return impl.Host{}, impl.ErrCount
	}
	h := impl.Host{Config: c, Conns: make([]impl.Conn, 4)}
	for k := range names {
		x, code := tenantWanted(names[k], sources[k])
		switch {
		case code != impl.OK:
			return impl.Host{}, impl.ErrRange
		case slices.Contains(names[:k], names[k]):
			return impl.Host{}, impl.ErrTwice
		}
		h.Tenants = joined(h.Tenants, x)
	}
	return h, impl.OK
}

// hostFault is the code that comes ahead of what a call says of its own.
func hostFault(h impl.Host, k int) int {
	switch {
	case !rightHost(h):
		return impl.ErrBad
	case k < 0 || k > 3:
		return impl.ErrRange
	}
	return impl.OK
}

func hostOpenWanted(h impl.Host, k int) (impl.Host, int) {
	if code := hostFault(h, k); code != impl.OK {
		return impl.Host{}, code
	}
	if h.Conns[k].Open {
		return h, impl.ErrTwice
	}
	return withConnAt(h, k, impl.Conn{Open: true, Next: h.Conns[k].Next}), impl.OK
}

func hostCloseWanted(h impl.Host, k int) (impl.Host, int) {
	if code := hostFault(h, k); code != impl.OK {
		return impl.Host{}, code
	}
	if !h.Conns[k].Open {
		return h, impl.ErrShut
	}
	h = withConnAt(h, k, impl.Conn{Next: h.Conns[k].Next})
	for i, x := range h.Tenants {
		rest, _ := dropWanted(x, k)
		h = withTenantAt(h, i, rest)
	}
	return h, impl.OK
}

// isLast: the number is the last one of a connection that ends.
func isLast(c impl.Conn, seq int) bool { return c.Ending && seq+1 == c.Next }

func repliedWanted(h impl.Host, k, seq, status int, body string, closes bool) impl.Host {
	text, _ := replyWanted(status, body, closes)
	c, _ := madeReadyWanted(h.Conns[k], seq, text)
	return withConnAt(h, k, c)
}

func routedWanted(h impl.Host, k, seq int, r impl.Request) impl.Host {
	name, path, _ := splitWanted(r.Path)
	at := slices.IndexFunc(h.Tenants, func(x impl.Tenant) bool { return x.Name == name })
	switch {
	case at < 0:
		return repliedWanted(h, k, seq, 404, "none", r.Close)
	case h.Tenants[at].State == impl.TeFailed:
		return repliedWanted(h, k, seq, 500, "form", r.Close)
	case len(h.Tenants[at].Queue) == h.Config.Room || h.Ids == 100000:
		return repliedWanted(h, k, seq, 503, "full", r.Close)
	}
	x := h.Tenants[at]
	x.Queue = joined(x.Queue, impl.Job{Id: h.Ids, Conn: k, Seq: seq, Path: path, Since: h.Now})
	h.Ids++
	return withTenantAt(h, at, x)
}

func requestsRead(h impl.Host, k int) impl.Host {
	for {
		got := nextRequestWanted(h.Conns[k])
		h = withConnAt(h, k, got.conn)
		if got.code != impl.OK {
			return h
		}
		h = routedWanted(h, k, got.seq, got.request)
	}
}

func sentWanted(h impl.Host) happened {
	var list []impl.Sent
	for k := range h.Conns {
		c, text, closes, _ := flushWanted(h.Conns[k])
		out := impl.Sent{Conn: k, Bytes: text, Shut: closes}
		h = withConnAt(h, k, c)
		for text != "" {
			h = requestsRead(h, k)
			c, text, closes, _ = flushWanted(h.Conns[k])
			out.Bytes, out.Shut = out.Bytes+text, out.Shut || closes
			h = withConnAt(h, k, c)
		}
		if out.Bytes != "" || out.Shut {
			list = append(list, out)
		}
	}
	return happened{h, list, impl.OK}
}

func hostBytesWanted(h impl.Host, k int, text string) happened {
	if len(text) > 65536 {
		return happened{code: impl.ErrLong}
	}
	if code := hostFault(h, k); code != impl.OK {
		return happened{code: code}
	}
	c, code := takenWanted(h.Conns[k], text)
	if code != impl.OK {
		return happened{host: h, code: code}
	}
	return sentWanted(requestsRead(withConnAt(h, k, c), k))
}

// turnIs is the tenant that would run; -1 without one.
func turnIs(h impl.Host) int {
	for k := h.Turn; k < h.Turn+len(h.Tenants); k++ {
		if at := k % len(h.Tenants); len(h.Tenants[at].Queue) > 0 {
			return at
		}
	}
	return -1
}

func tickWanted(h impl.Host) happened {
	switch {
	case !rightHost(h):
		return happened{code: impl.ErrBad}
	case h.Now == 50000:
		return happened{host: h, code: impl.ErrMany}
	}
	h.Now++
	for i, x := range h.Tenants {
		rest, late, _ := expireWanted(x, h.Now, h.Config.Wait)
		h = withTenantAt(h, i, rest)
		for _, j := range late {
			h = repliedWanted(h, j.Conn, j.Seq, 504, "late", isLast(h.Conns[j.Conn], j.Seq))
		}
	}
	if at := turnIs(h); at >= 0 {
		x, over, _ := turnWanted(h.Tenants[at], h.Config.Quantum)
		h = withTenantAt(h, at, x)
		h.Turn = (at + 1) % len(h.Tenants)
		for _, j := range over {
			status, body, _ := jobReplyWanted(j)
			h = repliedWanted(h, j.Conn, j.Seq, status, body, isLast(h.Conns[j.Conn], j.Seq))
		}
	}
	return sentWanted(h)
}

func turnOfWanted(h impl.Host) (int, int) {
	switch {
	case !rightHost(h):
		return 0, impl.ErrBad
	case turnIs(h) < 0:
		return 0, impl.ErrNone
	}
	return turnIs(h), impl.OK
}

func tenantAtWanted(h impl.Host, name string) (impl.Tenant, int) {
	switch {
	case len(name) > 65536:
		return impl.Tenant{}, impl.ErrLong
	case !rightHost(h):
		return impl.Tenant{}, impl.ErrBad
	}
	for _, x := range h.Tenants {
		if x.Name == name {
			return x, impl.OK
		}
	}
	return impl.Tenant{}, impl.ErrNone
}

func connWordWanted(h impl.Host, k int) (string, int) {
	if code := hostFault(h, k); code != impl.OK {
		return "", code
	}
	c := h.Conns[k]
	switch {
	case c.Open && !c.Ending && len(c.Slots) == 0:
		return "idle", impl.OK
	case c.Open && !c.Ending:
		return "waiting", impl.OK
	case c.Open:
		return "ending", impl.OK
	}
	return "shut", impl.OK
}

func sameHost(a, b impl.Host) bool {
	return a.Config == b.Config && a.Turn == b.Turn && a.Now == b.Now && a.Ids == b.Ids && slices.EqualFunc(a.Tenants, b.Tenants, sameTenant) && slices.EqualFunc(a.Conns, b.Conns, sameConn)
}

// cloneHost leaves room behind each list, so that what is written there can be seen.
func cloneHost(h impl.Host) impl.Host {
	h.Tenants = append(make([]impl.Tenant, 0, len(h.Tenants)+2), h.Tenants...)
	for k := range h.Tenants {
		h.Tenants[k] = cloneTenant(h.Tenants[k])
	}
	h.Conns = append(make([]impl.Conn, 0, len(h.Conns)+2), h.Conns...)
	for k := range h.Conns {
		h.Conns[k] = cloneConn(h.Conns[k])
	}
	return h
}

// toldHost is brief, so that a failed test stays readable.
func toldHost(h impl.Host) string {
	var told strings.Builder
	fmt.Fprintf(&told, "%+v, turn %d, now %d, ids %d, %d tenants, %d connections", h.Config, h.Turn, h.Now, h.Ids, len(h.Tenants), len(h.Conns))
	for _, x := range h.Tenants[:min(len(h.Tenants), 5)] {
		told.WriteString("\n  " + toldTenant(x))
	}
	for _, c := range h.Conns[:min(len(h.Conns), 5)] {
		told.WriteString("\n  " + toldConn(c))
	}
	return told.String()
}

func toldSent(list []impl.Sent) string {
	var told strings.Builder
	for _, out := range list {
		fmt.Fprintf(&told, " <%d %.700q shut %v>", out.Conn, out.Bytes, out.Shut)
	}
	return told.String()
}

func wantHost(t *testing.T, what string, got impl.Host, code int, want impl.Host, wantCode int) {
	t.Helper()
	if !sameHost(got, want) || code != wantCode {
		t.Errorf("%.100s:\n%s\ncode %d; want\n%s\ncode %d", what, toldHost(got), code, toldHost(want), wantCode)
	}
}

func wantHappened(t *testing.T, what string, got, want happened) {
	t.Helper()
	wantHost(t, what, got.host, got.code, want.host, want.code)
	if !slices.Equal(got.sent, want.sent) {
		t.Errorf("%.100s: sent%s; want%s", what, toldSent(got.sent), toldSent(want.sent))
	}
}

func wantNewHost(t *testing.T, c impl.Config, names, sources []string) (impl.Host, int) {
	t.Helper()
	got, code := impl.NewHost(c, names, sources)
	want, wantCode := newHostWanted(c, names, sources)
	wantHost(t, fmt.Sprintf("NewHost of %+v, %d names %.60q, %d sources", c, len(names), names[:min(len(names), 5)], len(sources)), got, code, want, wantCode)
	return got, code
}

func wantHostOpen(t *testing.T, h impl.Host, k int) (impl.Host, int) {
	t.Helper()
	got, code := impl.HostOpen(h, k)
	want, wantCode := hostOpenWanted(h, k)
	wantHost(t, fmt.Sprintf("HostOpen of %d", k), got, code, want, wantCode)
	return got, code
}

func wantHostClose(t *testing.T, h impl.Host, k int) (impl.Host, int) {
	t.Helper()
	got, code := impl.HostClose(h, k)
	want, wantCode := hostCloseWanted(h, k)
	wantHost(t, fmt.Sprintf("HostClose of %d", k), got, code, want, wantCode)
	return got, code
}

func wantHostBytes(t *testing.T, h impl.Host, k int, text string) happened {
	t.Helper()
	got := happened{}
	got.host, got.sent, got.code = impl.HostBytes(h, k, text)
	wantHappened(t, fmt.Sprintf("HostBytes of %d, %d bytes %.60q", k, len(text), text), got, hostBytesWanted(h, k, text))
	return got
}

func wantHostTick(t *testing.T, h impl.Host) happened {
	t.Helper()
	got := happened{}
	got.host, got.sent, got.code = impl.HostTick(h)
	wantHappened(t, fmt.Sprintf("HostTick at %d", h.Now), got, tickWanted(h))
	return got
}

func wantTurnOf(t *testing.T, h impl.Host) int {
	t.Helper()
	got, code := impl.TurnOf(h)
	if want, wantCode := turnOfWanted(h); got != want || code != wantCode {
		t.Errorf("TurnOf = %d, %d; want %d, %d:\n%s", got, code, want, wantCode, toldHost(h))
	}
	return got
}

func wantTenantAt(t *testing.T, h impl.Host, name string) {
	t.Helper()
	got, code := impl.TenantAt(h, name)
	want, wantCode := tenantAtWanted(h, name)
	wantTenant(t, fmt.Sprintf("TenantAt of %.40q", name), got, code, want, wantCode)
}

func wantConnWord(t *testing.T, h impl.Host, k int) string {
	t.Helper()
	got, code := impl.ConnWord(h, k)
	if want, wantCode := connWordWanted(h, k); got != want || code != wantCode {
		t.Errorf("ConnWord of %d = %q, %d; want %q, %d:\n%s", k, got, code, want, wantCode, toldHost(h))
	}
	return got
}

// placesToAsk are the connections that there are, one beyond each end, and others.
func placesToAsk() []int {
	return []int{0, 1, 2, 3, -1, 4, 5, 100000, 1 << 32, math.MinInt, math.MaxInt}
}

// wantHostOK says whether the two agree, so that no more is asked of a host of which they do not.
func wantHostOK(t *testing.T, h impl.Host) bool {
	t.Helper()
	right := rightHost(h)
	if impl.HostOK(h) != right {
		t.Errorf("HostOK = %v of\n%s", !right, toldHost(h))
		return false
	}
	return true
}

// wantHostAnswers holds all calls of a host, right or not, against what is reckoned here.
func wantHostAnswers(t *testing.T, h impl.Host) {
	t.Helper()
	given := cloneHost(h)
	if !wantHostOK(t, h) {
		return
	}
	for _, k := range placesToAsk() {
		wantHostOpen(t, h, k)
		wantHostClose(t, h, k)
		wantConnWord(t, h, k)
		wantPendingOf(t, h, k)
		for _, text := range []string{"", "x", "/a HTTP/1.1\r\n\r\n", requestOf("/one/a", false), longText} {
			wantHostBytes(t, h, k, text)
		}
	}
	for k := range 4 {
		for _, text := range []string{requestsOf("/one", "/none", "/two/b"), requestOf("/three/c", true) + "rest", "PUT / HTTP/1.1\r\n\r\n", longText[:400], longText[:401], longText[:65536]} {
			wantHostBytes(t, h, k, text)
		}
	}
	wantHostTick(t, h)
	for _, a := range someActs() {
		wantActDo(t, h, a)
	}
	wantTurnOf(t, h)
	wantAudit(t, h)
	for _, name := range []string{"one", "two", "three", "four", "bad", "none", "", "One", "one ", "\xff", longText[:65536], longText} {
		wantTenantAt(t, h, name)
	}
	if !sameHost(h, given) {
		t.Errorf("a call changed its host:\n%s\nwas\n%s", toldHost(h), toldHost(given))
	}
}
