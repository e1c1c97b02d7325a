package tests

import (
	"fmt"
	"math"
	"slices"
	"strings"
	"testing"

	"loop.example/g00370/impl"
)

// sentOf has the texts of one connection.
func sentOf(k int, texts ...string) []impl.Sent {
	var list []impl.Sent
	for _, text := range texts {
		list = append(list, impl.Sent{Conn: k, Bytes: text})
	}
	return list
}

// wantAllSent asks for all connections, and all statuses.
func wantAllSent(t *testing.T, list []impl.Sent) {
	t.Helper()
	before := slices.Clone(list)
	for _, k := range placesToAsk() {
		wantSentTo(t, list, k)
	}
	for status := range statusWords() {
		wantCount(t, list, status)
	}
	for _, status := range []int{0, -1, 20, 201, 505, 2000, 200200, math.MinInt, math.MaxInt} {
		wantCount(t, list, status)
	}
	if !slices.Equal(list, before) {
		t.Errorf("a call changed its list: %s", toldSent(list))
	}
}

func TestNothingSent(t *testing.T) {
	for _, list := range [][]impl.Sent{nil, {}, {{}}, {{Shut: true}}, {{Conn: 1}, {Conn: 2, Shut: true}}} {
		wantAllSent(t, list)
		for _, k := range placesToAsk() {
			if text, code := impl.SentTo(list, k); text != "" || code != impl.OK {
				t.Errorf("SentTo of nothing = %q, %d", text, code)
			}
		}
		for status := range statusWords() {
			if count, code := impl.CountStatus(list, status); count != 0 || code != impl.OK {
				t.Errorf("CountStatus of nothing = %d, %d", count, code)
			}
		}
	}
}

// A Conn may be any number: it is only held against the one that is asked for.
func TestSentToAnyConnection(t *testing.T) {
	places := append(placesToAsk(), oddNumbers()...)
	slices.Sort(places)
	places = slices.Compact(places)
	var list []impl.Sent
	for round := range 3 {
		for _, k := range places {
			list = append(list, impl.Sent{Conn: k, Bytes: fmt.Sprintf("[%d %d]", k, round), Shut: round == 1})
		}
	}
	for _, k := range places {
		if got, want := wantSentTo(t, list, k), fmt.Sprintf("[%d 0][%d 1][%d 2]", k, k, k); got != want {
			t.Errorf("SentTo of %d = %q", k, got)
		}
	}
	for _, k := range []int{77, -77, 1 << 40} {
		if got := wantSentTo(t, list, k); got != "" {
			t.Errorf("SentTo of %d = %q", k, got)
		}
	}
	for _, text := range []string{"\x00", "\xff\xfe", "\xc3", "ä", "\r\n", " "} {
		if got := wantSentTo(t, sentOf(2, text, "", text), 2); got != text+text {
			t.Errorf("SentTo of %q = %q", text, got)
		}
	}
}

func TestWhereStatusesStand(t *testing.T) {
	for _, c := range []struct {
		texts []string
		want  int
	}{
		{[]string{"HTTP/1.1 200 "}, 1},
		{[]string{"HTTP/1.1 200 OK"}, 1},
		{[]string{"HTTP/1.1 200 HTTP/1.1 200 "}, 2},
		{[]string{"HTTP/1.1 200 HTTP/1.1 200 HTTP/1.1 200"}, 2},
		{[]string{"HTTP/1.1 HTTP/1.1 200 "}, 1},
		{[]string{"HHTTP/1.1 200  "}, 1},
		{[]string{"x\x00\xffHTTP/1.1 200 \xff"}, 1},
		{[]string{"HTTP/1.1 200 ", "HTTP/1.1 200 "}, 2},
		{[]string{strings.Repeat("HTTP/1.1 200 ", 307)}, 307},
		{[]string{reply(200, "a") + reply(404, "b") + lastReply(200, "c"), reply(200, "d"), reply(500, "e")}, 3},
		{[]string{reply(200, "HTTP/1.1 200 OK")}, 2}, // places are counted, be they within a body
		// Almost.
		{[]string{""}, 0},
		{[]string{"HTTP/1.1 200"}, 0},
		{[]string{"HTTP/1.1 200\r\n"}, 0},
		{[]string{"HTTP/1.1 200\t"}, 0},
		{[]string{"HTTP/1.1  200 "}, 0},
		{[]string{"HTTP/1.1 2000 "}, 0},
		{[]string{"HTTP/1.1 0200 "}, 0},
		{[]string{"HTTP/1.1 20 0 "}, 0},
		{[]string{"HTTP/1.0 200 "}, 0},
		{[]string{"HTTP/1.10 200 "}, 0},
		{[]string{"http/1.1 200 "}, 0},
		{[]string{"TTP/1.1 200 "}, 0},
		{[]string{"HTTP/1.1200 "}, 0},
		{[]string{"HTTP/1x1 200 "}, 0},
		{[]string{"HTTP/1.1 404 OK 200 "}, 0},
		// What begins in one and ends in the next one stands nowhere.
		{[]string{"HTTP/1.1 200", " "}, 0},
		{[]string{"HTTP/1.1 ", "200 "}, 0},
		{[]string{"H", "TTP/1.1 200 "}, 0},
		{[]string{"HTTP/1.1 2", "", "00 OK"}, 0},
		{[]string{"HTTP/1.1 200 HTTP/1.1 2", "00 HTTP/1.1 200 "}, 2},
	} {
		for _, conns := range [][]int{{0, 0, 0}, {0, 1, 2}, {3, 3, -1}} {
			var list []impl.Sent
			for k, text := range c.texts {
				list = append(list, impl.Sent{Conn: conns[k], Bytes: text, Shut: k == 1})
			}
			if got := wantCount(t, list, 200); got != c.want {
				t.Errorf("CountStatus of%s = %d, want %d", toldSent(list), got, c.want)
			}
			wantAllSent(t, list)
		}
	}
}

func TestStatusesThatAreCounted(t *testing.T) {
	var all []string
	for status := range 1000 {
		all = append(all, fmt.Sprintf("HTTP/1.1 %d ", status))
	}
	var list []impl.Sent
	for some := range slices.Chunk(all, 250) {
		list = append(list, impl.Sent{Bytes: strings.Join(some, "")})
	}
	for status := range statusWords() {
		own := slices.Concat(list, sentOf(status, all[status]+all[status]))
		if got := wantCount(t, own, status); got != 3 {
			t.Errorf("%d stands at %d places", status, got)
		}
	}
	for _, status := range otherStatuses() {
		for _, list := range [][]impl.Sent{nil, list, sentOf(0, fmt.Sprintf("HTTP/1.1 %d ", status)), sentOf(1, "HTTP/1.1  ")} {
			if count, code := impl.CountStatus(list, status); count != 0 || code != impl.ErrRange {
				t.Errorf("CountStatus of %d = %d, %d", status, count, code)
			}
		}
	}
}

// Each bound at its edge, and which code comes first.
func TestBoundsOfWhatWasSent(t *testing.T) {
	head := "HTTP/1.1 404 "
	full := head + longText[:4000-len(head)]
	for _, c := range []struct {
		what          string
		list          []impl.Sent
		sentTo, count int
	}{
		{"500", make([]impl.Sent, 500), impl.OK, impl.OK},
		{"501", make([]impl.Sent, 501), impl.ErrBad, impl.ErrRange},
		{"4096", make([]impl.Sent, 4096), impl.ErrBad, impl.ErrRange},
		{"4097", make([]impl.Sent, 4097), impl.ErrLong, impl.ErrLong},
		{"100000", make([]impl.Sent, 100000), impl.ErrLong, impl.ErrLong},
		{"4000 bytes", sentOf(0, full), impl.OK, impl.OK},
		{"4001 bytes", sentOf(0, full+"x"), impl.ErrBad, impl.ErrBad},
		{"4001 bytes of another", sentOf(1, full+"x"), impl.ErrBad, impl.ErrBad},
		{"4001 bytes of none", sentOf(-5, full+"x"), impl.ErrBad, impl.ErrBad},
		{"a text that is too long", sentOf(0, longText), impl.ErrBad, impl.ErrBad},
		{"4001 bytes ahead", append(sentOf(2, longText[:4001]), sentOf(0, full, full)...), impl.ErrBad, impl.ErrBad},
		{"4001 bytes between", append(sentOf(0, full, longText[:4001]), sentOf(0, full)...), impl.ErrBad, impl.ErrBad},
		{"4001 bytes behind", append(sentOf(0, full, full), sentOf(3, longText[:4001])...), impl.ErrBad, impl.ErrBad},
		{"4001 bytes in all", sentOf(0, full, "x"), impl.OK, impl.OK},
		{"500 of 4000 bytes", slices.Repeat(sentOf(0, full), 500), impl.OK, impl.OK},
		{"499 of 4000 bytes, one of 4001", append(slices.Repeat(sentOf(0, full), 499), sentOf(0, full+"x")...), impl.ErrBad, impl.ErrBad},
		{"500 of 4001 bytes", slices.Repeat(sentOf(0, full+"x"), 500), impl.ErrBad, impl.ErrBad},
		{"501 of 4000 bytes", slices.Repeat(sentOf(0, full), 501), impl.ErrBad, impl.ErrRange},
		{"501 of 4001 bytes", slices.Repeat(sentOf(0, full+"x"), 501), impl.ErrBad, impl.ErrRange},
		{"4097 of 4001 bytes", slices.Repeat(sentOf(0, full+"x"), 4097), impl.ErrLong, impl.ErrLong},
	} {
		for _, k := range []int{0, 1, -1, 7} {
			if text, code := impl.SentTo(c.list, k); code != c.sentTo || code != impl.OK && text != "" {
				t.Errorf("SentTo of %s, to %d = %d bytes, %d; want %d", c.what, k, len(text), code, c.sentTo)
			}
			wantSentTo(t, c.list, k)
		}
		if count, code := impl.CountStatus(c.list, 404); code != c.count || code != impl.OK && count != 0 {
			t.Errorf("CountStatus of %s = %d, %d; want %d", c.what, count, code, c.count)
		}
		wantCount(t, c.list, 404)
		// Another status comes ahead of the bytes, but behind a list that is too long.
		other := impl.ErrRange
		if len(c.list) > 4096 {
			other = impl.ErrLong
		}
		for _, status := range []int{0, 201, -404, math.MaxInt} {
			if count, code := impl.CountStatus(c.list, status); count != 0 || code != other {
				t.Errorf("CountStatus of %s, of %d = %d, %d; want %d", c.what, status, count, code, other)
			}
		}
	}
	if text := wantSentTo(t, slices.Repeat(sentOf(0, full), 500), 0); text != strings.Repeat(full, 500) {
		t.Errorf("500 of 4000 bytes make %d bytes", len(text))
	}
	if count := wantCount(t, slices.Repeat(sentOf(0, full), 500), 404); count != 500 {
		t.Errorf("500 of 4000 bytes have %d", count)
	}
}

// All short lists of pieces of a reply's head.
func TestAllShortSentLists(t *testing.T) {
	pieces := []string{"", "HTTP/1.1 ", "200", " ", "404 ", "HTTP/1.1 200 ", "HTTP/1.1 404 N"}
	for _, a := range pieces {
		for _, b := range pieces {
			for _, c := range pieces {
				wantAllSent(t, []impl.Sent{{Conn: 1, Bytes: a + b}, {Conn: 2, Bytes: c}})
				wantAllSent(t, []impl.Sent{{Conn: 1, Bytes: a}, {Conn: 1, Bytes: b + c}, {Conn: 3, Bytes: c + a}})
				if t.Failed() {
					return
				}
			}
		}
	}
}
