package tests

import (
	"fmt"
	"slices"
	"strings"
	"testing"

	"loop.example/g00370/impl"
)

const (
	shortRequest = "GET / HTTP/1.1\r\n\r\n"
	lastRequest  = "GET /last HTTP/1.1\r\nConnection: close\r\n\r\n"
)

// heard is what was read from a connection: a request, or the code of what is none, and its number.
type heard struct {
	request   impl.Request
	seq, code int
}

// talk is a connection with all that was read from it, and sent on it.
type talk struct {
	conn   impl.Conn
	heard  []heard
	sent   string
	closed bool
}

// answerOf is the reply that the tests give to a request of that number.
func answerOf(seq int) string { return fmt.Sprintf("[%d]", seq) }

// manyTurns is more than any talk here has: a test of a connection that goes on without end shall fail, and not go on.
const manyTurns = 2000

// read reads as long as there are requests, and tells the code that ended it.
func (k *talk) read() int {
	for len(k.heard) < manyTurns {
		next, r, seq, code := impl.ConnNext(k.conn)
		k.conn = next
		switch code {
		case impl.ErrMore, impl.ErrFull, impl.ErrShut, impl.ErrBad:
			return code
		}
		k.heard = append(k.heard, heard{r, seq, code})
	}
	return impl.ErrMany
}

// answer makes all replies ready, and sends them.
func (k *talk) answer() {
	waiting, _ := impl.WaitingOf(k.conn)
	for _, seq := range waiting {
		k.conn, _ = impl.ConnReady(k.conn, seq, answerOf(seq))
	}
	next, text, closes, _ := impl.ConnFlush(k.conn)
	k.conn, k.sent, k.closed = next, k.sent+text, k.closed || closes
}

func (k *talk) take(t *testing.T, piece string) {
	t.Helper()
	next, code := impl.ConnTake(k.conn, piece)
	if want := map[bool]int{true: impl.OK, false: impl.ErrShut}[listens(k.conn)]; code != want {
		t.Fatalf("ConnTake of %q: %d, want %d", piece, code, want)
	}
	k.conn = next
}

// readPieces takes piece by piece, and reads what there is behind each.
func readPieces(t *testing.T, pieces ...string) talk {
	t.Helper()
	k := talk{conn: impl.OpenConn()}
	for _, piece := range pieces {
		k.take(t, piece)
		k.read()
	}
	return k
}

// answerPieces answers all, too, so that there are always slots.
func answerPieces(t *testing.T, pieces ...string) talk {
	t.Helper()
	k := talk{conn: impl.OpenConn()}
	for _, piece := range pieces {
		k.take(t, piece)
		code := impl.ErrFull
		for turn := 0; code == impl.ErrFull && turn < manyTurns; turn++ {
			code = k.read()
			k.answer()
		}
	}
	return k
}

func wantSameTalk(t *testing.T, what string, got, want talk) {
	t.Helper()
	if !sameConn(got.conn, want.conn) || !slices.Equal(got.heard, want.heard) || got.sent != want.sent || got.closed != want.closed {
		t.Errorf("%s:\n%s, %v, %.100q, %v; want\n%s, %v, %.100q, %v", what, toldConn(got.conn), got.heard, got.sent, got.closed, toldConn(want.conn), want.heard, want.sent, want.closed)
	}
}

// talkWanted goes through the whole text at once, with a connection that has no bounds.
func talkWanted(text string, answered bool) talk {
	k := talk{conn: impl.Conn{Open: true}}
	for {
		read := requestWanted(text)
		if read.code == impl.ErrMore || !answered && k.conn.Next == 6 {
			k.conn.In = text
			return k
		}
		slot := impl.Slot{Seq: k.conn.Next}
		k.heard = append(k.heard, heard{read.request, slot.Seq, read.code})
		k.sent += answerOf(slot.Seq)
		if read.code != impl.OK {
			k.sent = strings.TrimSuffix(k.sent, answerOf(slot.Seq))
			status := map[int]int{impl.ErrForm: 400, impl.ErrMethod: 501, impl.ErrLong: 431}[read.code]
			slot.Ready = true
			slot.Text, _ = replyWanted(status, codeTable()[read.code].word, true)
			k.sent += slot.Text
		}
		k.conn.Slots = append(k.conn.Slots, slot)
		k.conn.Next++
		if read.code != impl.OK || read.request.Close {
			k.conn.Ending = true
			return k
		}
		text = text[read.size:]
	}
}

// readWanted: nothing was answered.
func readWanted(text string) talk {
	k := talkWanted(text, false)
	k.sent = ""
	return k
}

// answeredWanted: all was answered.
func answeredWanted(text string) talk {
	k := talkWanted(text, true)
	k.conn.Slots = nil
	if k.conn.Ending {
		k.conn, k.closed = impl.Conn{Next: k.conn.Next}, true
	}
	return k
}

// cutInPieces has pieces of that many bytes, and what is left.
func cutInPieces(text string, size int) []string {
	var pieces []string
	for part := range slices.Chunk([]byte(text), size) {
		pieces = append(pieces, string(part))
	}
	return pieces
}

// requestOf is a request of a path, written as RequestText has it.
func requestOf(path string, closes bool) string {
	text, _ := requestTextWanted(impl.Request{Path: path, Close: closes})
	return text
}

// requestsOf has one request of each path.
func requestsOf(paths ...string) string {
	text := ""
	for _, path := range paths {
		text += requestOf(path, false)
	}
	return text
}

// withRequests has requests of the paths /0, /1 and so on, each of them read, and none answered.
func withRequests(t *testing.T, count int) impl.Conn {
	t.Helper()
	c := impl.OpenConn()
	for k := range count {
		c, _ = wantTaken(t, c, fmt.Sprintf("GET /%d HTTP/1.1\r\n\r\n", k))
		got := wantNextRequest(t, c)
		if got.code != impl.OK || got.seq != k || got.request.Path != fmt.Sprintf("/%d", k) {
			t.Fatalf("request %d is %+v", k, got)
		}
		c = got.conn
	}
	return c
}

// endingWith is one that is Ending, with that many slots.
func endingWith(t *testing.T, count int) impl.Conn {
	t.Helper()
	c := withRequests(t, count-1)
	c, _ = wantTaken(t, c, lastRequest)
	return wantNextRequest(t, c).conn
}

// readied makes the replies of those numbers ready.
func readied(t *testing.T, c impl.Conn, seqs ...int) impl.Conn {
	t.Helper()
	for _, seq := range seqs {
		next, code := wantMadeReady(t, c, seq, answerOf(seq))
		if code != impl.OK {
			t.Fatalf("ConnReady of %d: %d", seq, code)
		}
		c = next
	}
	return c
}

func TestConnConstantsAreTheDocuments(t *testing.T) {
	if impl.MaxConns != 4 || impl.MaxWaits != 6 || impl.MaxBytes != 400 {
		t.Errorf("they are %d %d %d", impl.MaxConns, impl.MaxWaits, impl.MaxBytes)
	}
}

func TestAConnectionThatIsOpened(t *testing.T) {
	c := impl.OpenConn()
	wantConn(t, "OpenConn", c, impl.OK, impl.Conn{Open: true}, impl.OK)
	wantConnAnswers(t, c)
	if !impl.ConnOK(c) {
		t.Error("ConnOK of it is false")
	}
	if room, code := impl.RoomOf(c); room != 400 || code != impl.OK {
		t.Errorf("RoomOf = %d, %d", room, code)
	}
	next, r, seq, code := impl.ConnNext(c)
	wantConn(t, "ConnNext", next, code, c, impl.ErrMore)
	if r != (impl.Request{}) || seq != 0 {
		t.Errorf("ConnNext of nothing: %+v, %d", r, seq)
	}
}

// conversations are texts that a connection takes at once: of requests alone, with one that closes, with what is none.
func conversations() []string {
	fills := headOf(getLine, 120)
	whole := requestsOf("/one/a", "/two", "/")
	texts := []string{
		"", "GET", shortRequest, requestOf("/one/a", false), requestsOf("/a", "/b"), whole, whole + "GET /ne", strings.Repeat(shortRequest, 6), strings.Repeat(shortRequest, 6) + "GET", strings.Repeat(shortRequest, 7), strings.Repeat(shortRequest, 22), strings.Repeat(shortRequest, 6) + "junk\r\n\r\n",
		fills, fills + fills + fills, fills + shortRequest + fills, fills + fills + fills + strings.Repeat("x", 40), shortRequest + strings.Repeat("x", 120),
		lastRequest, lastRequest + "rest", lastRequest + shortRequest, lastRequest + lastRequest, lastRequest + "junk\r\n\r\n", shortRequest + lastRequest, whole + lastRequest + whole, requestOf("/one/a", true) + strings.Repeat("x", 200), strings.Repeat(shortRequest, 5) + lastRequest + "x", strings.Repeat(shortRequest, 6) + lastRequest,
		withLines("a: b", "CONNECTION:  Close ", "c: d") + "behind", withLines("connection: keep", "connection: close") + shortRequest,
	}
	for _, fault := range slices.Concat(wrongHeads(), []string{strings.Repeat("x", 121), strings.Repeat("\r\n", 70), getLine + strings.Repeat("y: z\r\n", 30)}) {
		texts = append(texts, fault, fault+"rest", shortRequest+fault, requestsOf("/one/a", "/two")+fault+shortRequest, lastRequest+fault, fault+lastRequest)
	}
	return slices.DeleteFunc(texts, func(s string) bool { return len(s) > 400 })
}

func TestOneAndMoreRequestsInOneText(t *testing.T) {
	k := readPieces(t, requestsOf("/one/a", "/two", "/")+"GET /ne")
	wantSameTalk(t, "three and a bit", k, talk{
		conn:  impl.Conn{Open: true, In: "GET /ne", Slots: []impl.Slot{{Seq: 0}, {Seq: 1}, {Seq: 2}}, Next: 3},
		heard: []heard{{request: impl.Request{Path: "/one/a"}}, {request: impl.Request{Path: "/two"}, seq: 1}, {request: impl.Request{Path: "/"}, seq: 2}},
	})
	for count := 1; count <= 22; count++ {
		k := readPieces(t, strings.Repeat(shortRequest, count))
		if want := min(count, 6); len(k.heard) != want || k.conn.Next != want || len(k.conn.In) != (count-want)*len(shortRequest) {
			t.Errorf("of %d requests: %s", count, toldConn(k.conn))
		}
		wantConnAnswers(t, k.conn)
		k = answerPieces(t, strings.Repeat(shortRequest, count))
		if len(k.heard) != count || k.conn.Next != count || k.conn.In != "" {
			t.Errorf("of %d requests, answered: %s", count, toldConn(k.conn))
		}
		wantConnAnswers(t, k.conn)
	}
	for _, text := range conversations() {
		wantSameTalk(t, text, readPieces(t, text), readWanted(text))
		wantSameTalk(t, text, answerPieces(t, text), answeredWanted(text))
	}
}

// However a text is cut, the same requests are read, with the same numbers, and the connection is the same in the end.
func TestConnectionsCutAtEveryPlace(t *testing.T) {
	t.Parallel()
	for _, text := range conversations() {
		read, answered := readWanted(text), answeredWanted(text)
		for cut := range len(text) + 1 {
			what := fmt.Sprintf("%q cut at %d", text, cut)
			wantSameTalk(t, what, readPieces(t, text[:cut], text[cut:]), read)
			wantSameTalk(t, what, answerPieces(t, text[:cut], text[cut:]), answered)
		}
		for size := 1; size <= len(text); size++ {
			what := fmt.Sprintf("%q in pieces of %d", text, size)
			wantSameTalk(t, what, readPieces(t, cutInPieces(text, size)...), read)
			wantSameTalk(t, what, answerPieces(t, cutInPieces(text, size)...), answered)
		}
		if t.Failed() {
			return
		}
	}
}

// Two cuts at all places of some texts, and an empty piece between.
func TestConnectionsCutAtEveryTwoPlaces(t *testing.T) {
	t.Parallel()
	for _, text := range []string{requestsOf("/a", "/b"), shortRequest + lastRequest + "rest", shortRequest + "PUT / HTTP/1.1\r\n\r\nGET", shortRequest + "x\r\n\r\n" + shortRequest, shortRequest + strings.Repeat("x", 122)} {
		read, answered := readWanted(text), answeredWanted(text)
		for first := range len(text) + 1 {
			for second := first; second <= len(text); second++ {
				what := fmt.Sprintf("%q cut at %d and %d", text, first, second)
				wantSameTalk(t, what, readPieces(t, text[:first], "", text[first:second], text[second:]), read)
				wantSameTalk(t, what, answerPieces(t, text[:first], text[first:second], "", text[second:]), answered)
			}
		}
		if t.Failed() {
			return
		}
	}
}

// Nothing is read until all has come: it is the same as if it was read bit by bit.
func TestConnectionsReadAtTheEndAlone(t *testing.T) {
	t.Parallel()
	for _, text := range conversations() {
		for _, size := range []int{1, 2, 7, 64, 400} {
			c := impl.OpenConn()
			for _, piece := range cutInPieces(text, size) {
				c, _ = wantTaken(t, c, piece)
			}
			wantConn(t, text, c, impl.OK, impl.Conn{Open: true, In: text}, impl.OK)
			k := talk{conn: c}
			k.read()
			wantSameTalk(t, text, k, readWanted(text))
		}
	}
}

// A long conversation goes over a connection in pieces of each size that it can always take.
func TestLongConversationsInPieces(t *testing.T) {
	t.Parallel()
	text := ""
	for k := range 40 {
		text += requestsOf(fmt.Sprintf("/one/%d", k), "/", "/two/"+strings.Repeat("b", k%30)) + headOf(getLine, 120-2*k)
	}
	for _, end := range []string{"", "GET /cut", lastRequest + shortRequest, "PUT / HTTP/1.1\r\n\r\n" + shortRequest, "junk\r\n\r\njunk", strings.Repeat("x", 130)} {
		want := answeredWanted(text + end)
		if len(want.heard) < 160 {
			t.Fatalf("%d requests", len(want.heard))
		}
		for size := 1; size <= 280; size++ {
			wantSameTalk(t, fmt.Sprintf("pieces of %d, and %.20q", size, end), answerPieces(t, cutInPieces(text+end, size)...), want)
			if t.Failed() {
				return
			}
		}
	}
}

// Numbers rise by one from 0 on, whatever was answered meanwhile, up to 99999.
func TestNumbersOverManyRequests(t *testing.T) {
	t.Parallel()
	c := impl.OpenConn()
	for n := range 100000 {
		c, _ = impl.ConnTake(c, shortRequest)
		next, r, seq, code := impl.ConnNext(c)
		if r.Path != "/" || seq != n || code != impl.OK || next.Next != n+1 || !next.Open || next.Ending {
			t.Fatalf("request %d: %+v, %d, %d, %s", n, r, seq, code, toldConn(next))
		}
		c = next
		for turn := 0; len(c.Slots) > (n+5)%6; turn++ {
			c, _ = impl.ConnReady(c, c.Slots[0].Seq, answerOf(c.Slots[0].Seq))
			text := ""
			c, text, _, _ = impl.ConnFlush(c)
			if !strings.HasPrefix(text, "[") || !c.Open || turn > 6 {
				t.Fatalf("ConnFlush behind request %d: %q, %s", n, text, toldConn(c))
			}
		}
	}
	// There is no number more: what comes is taken in, and waits.
	for _, text := range []string{"", "GET", shortRequest, lastRequest, "junk\r\n\r\n", strings.Repeat("x", 130)} {
		full, _ := wantTaken(t, c, text)
		next, r, seq, code := impl.ConnNext(full)
		wantConn(t, "ConnNext at the end of the numbers", next, code, full, impl.ErrFull)
		if r != (impl.Request{}) || seq != 0 || full.In != text || full.Next != 100000 {
			t.Errorf("ConnNext at the end of the numbers: %+v, %d, %s", r, seq, toldConn(full))
		}
		wantConnAnswers(t, full)
	}
}

// forEachOrder has all orders of the numbers below count.
func forEachOrder(count int, do func(order []int)) {
	var put func(order []int)
	put = func(order []int) {
		if len(order) == count {
			do(order)
			return
		}
		for n := range count {
			if !slices.Contains(order, n) {
				put(joined(order, n))
			}
		}
	}
	put(nil)
}

// sentBy is what has been sent when those numbers were made ready, in whatever order: the first replies, up to the first number that is missing.
func sentBy(numbers []int) string {
	sent := ""
	for n := 0; slices.Contains(numbers, n); n++ {
		sent += answerOf(n)
	}
	return sent
}

// Replies that are made ready in every order are sent in the order of their numbers, each as soon as those ahead of it have been.
func TestRepliesInEveryOrder(t *testing.T) {
	t.Parallel()
	for count := 1; count <= 6; count++ {
		open, ending := withRequests(t, count), endingWith(t, count)
		forEachOrder(count, func(order []int) {
			for _, first := range []impl.Conn{open, ending} {
				c, sent := first, ""
				for k, seq := range order {
					c = readied(t, c, seq)
					next, text, closes := wantFlushed(t, c)
					c, sent = next, sent+text
					if sent != sentBy(order[:k+1]) || closes != (first.Ending && k == count-1) || c.Open == closes {
						t.Fatalf("the order %v: %q was sent behind %d, closes %v", order, sent, k, closes)
					}
					if _, text, again := wantFlushed(t, c); text != "" || again {
						t.Fatalf("the order %v: %q is sent twice, closes %v", order, text, again)
					}
				}
				_, text, closes := wantFlushed(t, readied(t, first, order...))
				if text != sentBy(order) || closes != first.Ending {
					t.Fatalf("the order %v: %q at once, closes %v", order, text, closes)
				}
			}
		})
	}
}

// While replies wait, further requests are read: there is a slot as soon as a reply has gone.
func TestSlotsAreFreeWhenRepliesGo(t *testing.T) {
	c := withRequests(t, 6)
	c, _ = wantTaken(t, c, strings.Repeat(shortRequest, 8))
	for n := 6; n < 14; n++ {
		if got := wantNextRequest(t, c); got.code != impl.ErrFull || !sameConn(got.conn, c) {
			t.Fatalf("ConnNext with 6 slots: %d, %s", got.code, toldConn(got.conn))
		}
		c = readied(t, c, n-6)
		if got := wantNextRequest(t, c); got.code != impl.ErrFull {
			t.Fatalf("ConnNext with 6 slots, one of them Ready: %d", got.code)
		}
		next, text, closes := wantFlushed(t, c)
		got := wantNextRequest(t, next)
		if text != answerOf(n-6) || closes || got.code != impl.OK || got.seq != n || got.conn.Next != n+1 {
			t.Fatalf("request %d: %d, %d behind %q", n, got.seq, got.code, text)
		}
		c = got.conn
		if waiting := wantWaiting(t, c); !slices.Equal(waiting, []int{n - 5, n - 4, n - 3, n - 2, n - 1, n}) {
			t.Fatalf("WaitingOf behind request %d: %v", n, waiting)
		}
	}
}

// A request with Close is the last one: what stands behind it goes, and it closes when all is answered.
func TestWhatARequestWithCloseEnds(t *testing.T) {
	for ahead := range 6 {
		for _, behind := range append(someTails(), shortRequest, lastRequest, "junk\r\n\r\n") {
			c := withRequests(t, ahead)
			if len(lastRequest+behind) > 400 {
				continue
			}
			c, _ = wantTaken(t, c, lastRequest+behind)
			got := wantNextRequest(t, c)
			if got.code != impl.OK || got.seq != ahead || got.request != (impl.Request{Path: "/last", Close: true}) {
				t.Errorf("behind %d requests: %+v, %d, %d", ahead, got.request, got.seq, got.code)
			}
			want := impl.Conn{Open: true, Ending: true, Slots: joined(c.Slots, impl.Slot{Seq: ahead}), Next: ahead + 1}
			wantConn(t, "a request with Close", got.conn, impl.OK, want, impl.OK)
			wantNothingMore(t, got.conn)
			for seq := range ahead + 1 {
				got.conn = readied(t, got.conn, seq)
				next, text, closes := wantFlushed(t, got.conn)
				if text != answerOf(seq) || closes != (seq == ahead) {
					t.Errorf("%q is sent, closes %v; %d of %d", text, closes, seq, ahead)
				}
				got.conn = next
				wantNothingMore(t, got.conn)
			}
			wantConn(t, "closed", got.conn, impl.OK, impl.Conn{Next: ahead + 1}, impl.OK)
		}
	}
}

// wantNothingMore: neither bytes nor requests are taken, and the connection stays as it was.
func wantNothingMore(t *testing.T, c impl.Conn) {
	t.Helper()
	for _, text := range []string{"", "x", shortRequest, strings.Repeat("x", 400), strings.Repeat("x", 401), strings.Repeat("x", 65536)} {
		same, code := impl.ConnTake(c, text)
		wantConn(t, fmt.Sprintf("ConnTake of %d bytes", len(text)), same, code, c, impl.ErrShut)
	}
	same, r, seq, code := impl.ConnNext(c)
	wantConn(t, "ConnNext", same, code, c, impl.ErrShut)
	if room, roomCode := impl.RoomOf(c); r != (impl.Request{}) || seq != 0 || room != 0 || roomCode != impl.ErrShut {
		t.Errorf("%s: %+v, %d; room %d, %d", toldConn(c), r, seq, room, roomCode)
	}
	wantConnAnswers(t, c)
}

// faultsToRead are texts that are no request, with their codes and the replies, written out.
func faultsToRead() []struct {
	text, reply string
	code        int
} {
	const (
		form   = "HTTP/1.1 400 Bad Request\r\nContent-Length: 4\r\nConnection: close\r\n\r\nform"
		method = "HTTP/1.1 501 Not Implemented\r\nContent-Length: 6\r\nConnection: close\r\n\r\nmethod"
		long   = "HTTP/1.1 431 Request Header Fields Too Large\r\nContent-Length: 4\r\nConnection: close\r\n\r\nlong"
	)
	return []struct {
		text, reply string
		code        int
	}{
		{"junk\r\n\r\n", form, impl.ErrForm}, {"\r\n\r\n", form, impl.ErrForm}, {"GET x HTTP/1.1\r\n\r\n", form, impl.ErrForm}, {"GET / HTTP/1.0\r\n\r\n", form, impl.ErrForm}, {"PUT x HTTP/1.1\r\n\r\n", form, impl.ErrForm}, {withLines("x"), form, impl.ErrForm}, {withLines(":x"), form, impl.ErrForm}, {withLines("Content-Length: 1"), form, impl.ErrForm}, {withLines("transfer-encoding: x"), form, impl.ErrForm}, {withLines("connection: close", "x"), form, impl.ErrForm},
		{"PUT / HTTP/1.1\r\n\r\n", method, impl.ErrMethod}, {"get / HTTP/1.1\r\n\r\n", method, impl.ErrMethod}, {" / HTTP/1.1\r\n\r\n", method, impl.ErrMethod}, {"POST /a HTTP/1.1\r\nx\r\n\r\n", method, impl.ErrMethod}, {"HEAD / HTTP/1.1\r\nconnection: close\r\n\r\n", method, impl.ErrMethod},
		{headOf(getLine, 121), long, impl.ErrLong}, {headOf("PUT / HTTP/1.1\r\n", 122), long, impl.ErrLong}, {strings.Repeat("x", 121), long, impl.ErrLong}, {strings.Repeat("\x00", 400), long, impl.ErrLong}, {getLine + strings.Repeat("a: b\r\n", 20), long, impl.ErrLong}, {headOf(getLine, 400), long, impl.ErrLong},
	}
}

// What is no request has a number and a reply that closes; nothing is read behind it.
func TestWhatIsNoRequestEndsAConnection(t *testing.T) {
	for _, f := range faultsToRead() {
		for ahead := range 6 {
			for _, behind := range []string{"", "x", shortRequest, lastRequest} {
				if len(f.text+behind) > 400 {
					continue
				}
				c, _ := wantTaken(t, withRequests(t, ahead), f.text+behind)
				next, r, seq, code := impl.ConnNext(c)
				want := impl.Conn{Open: true, Ending: true, Slots: joined(c.Slots, impl.Slot{Seq: ahead, Ready: true, Text: f.reply}), Next: ahead + 1}
				wantConn(t, f.text, next, code, want, f.code)
				if r != (impl.Request{}) || seq != ahead || !impl.ConnOK(next) {
					t.Errorf("%.60q: the request %+v, number %d; want none, %d", f.text, r, seq, ahead)
				}
				wantNextRequest(t, c)
				wantNothingMore(t, next)
				wantFaultSentLast(t, next, f.reply)
			}
		}
	}
}

// wantFaultSentLast: the replies of the requests ahead are sent first, and the connection closes with the last one.
func wantFaultSentLast(t *testing.T, c impl.Conn, reply string) {
	t.Helper()
	last := len(c.Slots) - 1
	if same, code := impl.ConnReady(c, last, "another"); code != impl.ErrTwice || !sameConn(same, c) {
		t.Errorf("ConnReady of what is no request: %d, %s", code, toldConn(same))
	}
	if last > 0 {
		if same, text, closes := wantFlushed(t, c); text != "" || closes || !sameConn(same, c) {
			t.Errorf("%q is sent ahead of others, closes %v", text, closes)
		}
	}
	want := ""
	for seq := last - 1; seq >= 0; seq-- {
		c = readied(t, c, seq)
		want = answerOf(seq) + want
	}
	next, text, closes := wantFlushed(t, c)
	if text != want+reply || !closes {
		t.Errorf("%q is sent, closes %v", text, closes)
	}
	wantConn(t, "closed", next, impl.OK, impl.Conn{Next: last + 1}, impl.OK)
	wantNothingMore(t, next)
}

// As long as the empty line may still come, the connection is as it was.
func TestWhatConnectionsWaitFor(t *testing.T) {
	for _, text := range append(requestsToCut(), "junk\r\n\r\n", "PUT / HTTP/1.1\r\nx\r\n\r\n", withLines("content-length: 1"), strings.Repeat("x", 121)) {
		for ahead := range 6 {
			first := withRequests(t, ahead)
			for cut := range len(text) {
				c, _ := wantTaken(t, first, text[:cut])
				next, r, seq, code := impl.ConnNext(c)
				if code != impl.ErrMore || r != (impl.Request{}) || seq != 0 || !sameConn(next, c) || next.In != text[:cut] || next.Ending {
					t.Fatalf("ConnNext of %q: %+v, %d, %d, %s", text[:cut], r, seq, code, toldConn(next))
				}
			}
		}
	}
}

// Connections that are Ending, or closed, in every call.
func TestConnectionsThatEnd(t *testing.T) {
	waiting := endingWith(t, 3)
	behind := readied(t, waiting, 1, 2)
	ahead := readied(t, waiting, 0)
	ready := readied(t, waiting, 0, 1, 2)
	bare := impl.Conn{Open: true, Ending: true, Next: 3}
	shut := impl.Conn{Next: 3}
	for what, c := range map[string]struct {
		conn   impl.Conn
		sent   string
		closes bool
		after  impl.Conn
		waits  []int
	}{
		"slots that wait":       {waiting, "", false, waiting, []int{0, 1, 2}},
		"the first one waits":   {behind, "", false, behind, []int{0}},
		"the others wait":       {ahead, "[0]", false, impl.Conn{Open: true, Ending: true, Slots: []impl.Slot{{Seq: 1}, {Seq: 2}}, Next: 3}, []int{1, 2}},
		"all are ready":         {ready, "[0][1][2]", true, shut, nil},
		"none are there":        {bare, "", true, shut, nil},
		"none were ever there":  {impl.Conn{Open: true, Ending: true}, "", true, impl.Conn{}, nil},
		"closed":                {shut, "", false, shut, nil},
		"closed, and never was": {impl.Conn{}, "", false, impl.Conn{}, nil},
		"closed at the end":     {impl.Conn{Next: 100000}, "", false, impl.Conn{Next: 100000}, nil},
	} {
		if !impl.ConnOK(c.conn) {
			t.Errorf("%s: ConnOK is false", what)
		}
		wantNothingMore(t, c.conn)
		next, text, closes, code := impl.ConnFlush(c.conn)
		wantConn(t, what, next, code, c.after, impl.OK)
		if text != c.sent || closes != c.closes {
			t.Errorf("%s: %q, %v", what, text, closes)
		}
		if waits, code := impl.WaitingOf(c.conn); !slices.Equal(waits, c.waits) || code != impl.OK {
			t.Errorf("%s: WaitingOf = %v, %d", what, waits, code)
		}
		for seq := -1; seq <= 4; seq++ {
			wantReadyOnlyOf(t, what, c.conn, c.waits, seq)
		}
	}
	// One that is not Ending does not close, whether all is answered or nothing was asked.
	for _, c := range []impl.Conn{impl.OpenConn(), readied(t, withRequests(t, 3), 2, 1, 0), {Open: true, In: "GET", Next: 7}} {
		next, _, closes := wantFlushed(t, c)
		if want := (impl.Conn{Open: true, In: c.In, Next: c.Next}); closes || !sameConn(next, want) {
			t.Errorf("ConnFlush of %s closes %v: %s", toldConn(c), closes, toldConn(next))
		}
	}
}

// wantReadyOnlyOf: a reply is taken of those that wait alone.
func wantReadyOnlyOf(t *testing.T, what string, c impl.Conn, waits []int, seq int) {
	t.Helper()
	next, code := wantMadeReady(t, c, seq, "reply")
	want := impl.OK
	switch {
	case slices.Contains(seqsOf(c.Slots), seq) && !slices.Contains(waits, seq):
		want = impl.ErrTwice
	case !slices.Contains(waits, seq):
		want = impl.ErrNone
	}
	if code != want || code != impl.OK && !sameConn(next, c) {
		t.Errorf("%s: ConnReady of %d: %d, want %d, %s", what, seq, code, want, toldConn(next))
	}
}

// A connection takes in 400 bytes in all, and tells how many it still takes.
func TestHowManyBytesAConnectionTakes(t *testing.T) {
	for _, size := range []int{0, 1, 2, 199, 200, 399, 400} {
		c, code := wantTaken(t, impl.OpenConn(), strings.Repeat("a", size))
		if code != impl.OK || len(c.In) != size {
			t.Fatalf("ConnTake of %d bytes: %d", size, code)
		}
		if room, code := impl.RoomOf(c); room != 400-size || code != impl.OK {
			t.Errorf("RoomOf with %d bytes: %d, %d", size, room, code)
		}
		for _, more := range []int{0, 1, 400 - size} {
			next, code := impl.ConnTake(c, strings.Repeat("b", more))
			if size+more <= 400 {
				wantConn(t, "what fits in", next, code, impl.Conn{Open: true, In: strings.Repeat("a", size) + strings.Repeat("b", more)}, impl.OK)
			} else {
				wantConn(t, "what does not", next, code, c, impl.ErrFull)
			}
		}
		for _, more := range []int{401 - size, 402 - size, 401, 800, 65536} {
			same, code := impl.ConnTake(c, strings.Repeat("b", more))
			wantConn(t, fmt.Sprintf("%d bytes behind %d", more, size), same, code, c, impl.ErrFull)
		}
		for _, more := range []int{65537, 200000} {
			none, code := impl.ConnTake(c, strings.Repeat("b", more))
			wantConn(t, "too long", none, code, impl.Conn{}, impl.ErrLong)
		}
		wantConnAnswers(t, c)
	}
	// The requests that are read leave room behind.
	c, _ := wantTaken(t, impl.OpenConn(), strings.Repeat(shortRequest, 3))
	for k := 1; k <= 3; k++ {
		c = wantNextRequest(t, c).conn
		if room, _ := impl.RoomOf(c); room != 400-(3-k)*len(shortRequest) {
			t.Errorf("RoomOf behind %d of 3 requests: %d", k, room)
		}
	}
}

// A reply has 1 to 300 bytes, of any kind.
func TestHowLongRepliesMayBe(t *testing.T) {
	c := withRequests(t, 2)
	for size := range 310 {
		text := strings.Repeat("r", size)
		next, code := wantMadeReady(t, c, 1, text)
		if size < 1 || size > 300 {
			wantConn(t, fmt.Sprintf("%d bytes", size), next, code, impl.Conn{}, impl.ErrRange)
			continue
		}
		wantConn(t, fmt.Sprintf("%d bytes", size), next, code, impl.Conn{Open: true, Slots: []impl.Slot{{Seq: 0}, {Seq: 1, Ready: true, Text: text}}, Next: 2}, impl.OK)
	}
	for b := range 256 {
		text := string([]byte{byte(b)})
		next, sent, _ := wantFlushed(t, readied(t, c, 0))
		next, _ = wantMadeReady(t, next, 1, text)
		if _, last, _ := wantFlushed(t, next); last != text || sent != "[0]" {
			t.Errorf("the byte %d is sent as %q", b, last)
		}
	}
	whole := ""
	full := withRequests(t, 6)
	for seq := range 6 {
		text := strings.Repeat(fmt.Sprint(seq), 300)
		full, _ = wantMadeReady(t, full, seq, text)
		whole += text
	}
	if _, sent, _ := wantFlushed(t, full); sent != whole || len(sent) != 1800 {
		t.Errorf("six long replies are sent as %d bytes", len(sent))
	}
}
