package tests

import (
	"fmt"
	"math"
	"slices"
	"strings"
	"testing"

	"loop.example/g00370/impl"
)

// This is chapter 11 reckoned once more, on lists that are made anew at each step.

func seqsOf(slots []impl.Slot) []int {
	var seqs []int
	for _, s := range slots {
		seqs = append(seqs, s.Seq)
	}
	return seqs
}

func rightSlot(s impl.Slot) bool {
	return s.Ready && len(s.Text) >= 1 && len(s.Text) <= 300 || !s.Ready && s.Text == ""
}

// rightConn is ConnOK of the tests' own.
func rightConn(c impl.Conn) bool {
	switch {
	case !numbersWithin(0, 100000, c.Next):
		return false
	case !c.Open:
		return sameConn(c, impl.Conn{Next: c.Next})
	case len(c.In) > 400 || c.Ending && c.In != "" || len(c.Slots) > 6:
		return false
	case len(c.Slots) == 0:
		return true
	}
	seqs := seqsOf(c.Slots)
	rising := slices.Compact(slices.Sorted(slices.Values(seqs)))
	return slices.Equal(seqs, rising) && slices.Max(seqs) < c.Next && !slices.ContainsFunc(c.Slots, func(s impl.Slot) bool { return !rightSlot(s) })
}

// listens: it is Open, and not Ending.
func listens(c impl.Conn) bool { return c.Open && !c.Ending }

func takenWanted(c impl.Conn, text string) (impl.Conn, int) {
	switch {
	case len(text) > 65536:
		return impl.Conn{}, impl.ErrLong
	case !rightConn(c):
		return impl.Conn{}, impl.ErrBad
	case !listens(c):
		return c, impl.ErrShut
	case len(c.In)+len(text) > 400:
		return c, impl.ErrFull
	}
	c.In += text
	return c, impl.OK
}

// numberedRequest is what ConnNext answers.
type numberedRequest struct {
	conn    impl.Conn
	request impl.Request
	seq     int
	code    int
}

func nextRequestWanted(c impl.Conn) numberedRequest {
	switch {
	case !rightConn(c):
		return numberedRequest{code: impl.ErrBad}
	case !listens(c):
		return numberedRequest{conn: c, code: impl.ErrShut}
	case len(c.Slots) == 6 || c.Next == 100000:
		return numberedRequest{conn: c, code: impl.ErrFull}
	}
	read := requestWanted(c.In)
	if read.code == impl.ErrMore {
		return numberedRequest{conn: c, code: impl.ErrMore}
	}
	slot := impl.Slot{Seq: c.Next}
	after := impl.Conn{Open: true, In: c.In[read.size:], Next: c.Next + 1}
	if status := map[int]int{impl.ErrLong: 431, impl.ErrMethod: 501, impl.ErrForm: 400}[read.code]; status > 0 {
		slot.Ready = true
		slot.Text, _ = replyWanted(status, codeTable()[read.code].word, true)
	}
	if slot.Ready || read.request.Close {
		after.Ending, after.In = true, ""
	}
	after.Slots = joined(c.Slots, slot)
	return numberedRequest{after, read.request, c.Next, read.code}
}

func madeReadyWanted(c impl.Conn, seq int, text string) (impl.Conn, int) {
	at := slices.Index(seqsOf(c.Slots), seq)
	switch {
	case len(text) > 65536:
		return impl.Conn{}, impl.ErrLong
	case !rightConn(c):
		return impl.Conn{}, impl.ErrBad
	case len(text) < 1 || len(text) > 300:
		return impl.Conn{}, impl.ErrRange
	case at < 0:
		return c, impl.ErrNone
	case c.Slots[at].Ready:
		return c, impl.ErrTwice
	}
	c.Slots = slices.Concat(c.Slots[:at], []impl.Slot{{Seq: seq, Ready: true, Text: text}}, c.Slots[at+1:])
	return c, impl.OK
}

func flushWanted(c impl.Conn) (impl.Conn, string, bool, int) {
	if !rightConn(c) {
		return impl.Conn{}, "", false, impl.ErrBad
	}
	at := slices.IndexFunc(c.Slots, func(s impl.Slot) bool { return !s.Ready })
	if at < 0 {
		at = len(c.Slots)
	}
	text := ""
	for _, s := range c.Slots[:at] {
		text += s.Text
	}
	if c.Ending && at == len(c.Slots) {
		return impl.Conn{Next: c.Next}, text, true, impl.OK
	}
	c.Slots = slices.Clone(c.Slots[at:])
	return c, text, false, impl.OK
}

func waitingWanted(c impl.Conn) ([]int, int) {
	if !rightConn(c) {
		return nil, impl.ErrBad
	}
	return seqsOf(slices.DeleteFunc(slices.Clone(c.Slots), func(s impl.Slot) bool { return s.Ready })), impl.OK
}

func roomWanted(c impl.Conn) (int, int) {
	switch {
	case !rightConn(c):
		return 0, impl.ErrBad
	case !listens(c):
		return 0, impl.ErrShut
	}
	return 400 - len(c.In), impl.OK
}

func sameConn(a, b impl.Conn) bool {
	return a.Open == b.Open && a.Ending == b.Ending && a.In == b.In && a.Next == b.Next && slices.Equal(a.Slots, b.Slots)
}

// cloneConn leaves room behind the slots, so that what is written there can be seen.
func cloneConn(c impl.Conn) impl.Conn {
	c.Slots = append(make([]impl.Slot, 0, len(c.Slots)+2), c.Slots...)
	return c
}

// toldConn is brief, so that a failed test stays readable.
func toldConn(c impl.Conn) string {
	var told strings.Builder
	fmt.Fprintf(&told, "open %v, ending %v, in %d bytes %.60q, next %d, %d slots:", c.Open, c.Ending, len(c.In), c.In, c.Next, len(c.Slots))
	for _, s := range c.Slots[:min(len(c.Slots), 8)] {
		fmt.Fprintf(&told, " <%d %v %d bytes %.40q>", s.Seq, s.Ready, len(s.Text), s.Text)
	}
	return told.String()
}

func wantConn(t *testing.T, what string, got impl.Conn, code int, want impl.Conn, wantCode int) {
	t.Helper()
	if !sameConn(got, want) || code != wantCode {
		t.Errorf("%.100s:\n%s, %d; want\n%s, %d", what, toldConn(got), code, toldConn(want), wantCode)
	}
}

func wantTaken(t *testing.T, c impl.Conn, text string) (impl.Conn, int) {
	t.Helper()
	got, code := impl.ConnTake(c, text)
	want, wantCode := takenWanted(c, text)
	wantConn(t, fmt.Sprintf("ConnTake of %d bytes %.60q", len(text), text), got, code, want, wantCode)
	return got, code
}

func wantNextRequest(t *testing.T, c impl.Conn) numberedRequest {
	t.Helper()
	got := numberedRequest{}
	got.conn, got.request, got.seq, got.code = impl.ConnNext(c)
	want := nextRequestWanted(c)
	wantConn(t, "ConnNext", got.conn, got.code, want.conn, want.code)
	if got.request != want.request || got.seq != want.seq {
		t.Errorf("ConnNext of %s: %q %v, number %d; want %q %v, number %d", toldConn(c), got.request.Path, got.request.Close, got.seq, want.request.Path, want.request.Close, want.seq)
	}
	return got
}

func wantMadeReady(t *testing.T, c impl.Conn, seq int, text string) (impl.Conn, int) {
	t.Helper()
	got, code := impl.ConnReady(c, seq, text)
	want, wantCode := madeReadyWanted(c, seq, text)
	wantConn(t, fmt.Sprintf("ConnReady of %d with %d bytes %.40q", seq, len(text), text), got, code, want, wantCode)
	return got, code
}

func wantFlushed(t *testing.T, c impl.Conn) (impl.Conn, string, bool) {
	t.Helper()
	got, text, closes, code := impl.ConnFlush(c)
	want, wantText, wantCloses, wantCode := flushWanted(c)
	wantConn(t, "ConnFlush", got, code, want, wantCode)
	if text != wantText || closes != wantCloses {
		t.Errorf("ConnFlush of %s = %.200q, %v; want %.200q, %v", toldConn(c), text, closes, wantText, wantCloses)
	}
	return got, text, closes
}

func wantWaiting(t *testing.T, c impl.Conn) []int {
	t.Helper()
	got, code := impl.WaitingOf(c)
	want, wantCode := waitingWanted(c)
	if !slices.Equal(got, want) || code != wantCode {
		t.Errorf("WaitingOf of %s = %v, %d; want %v, %d", toldConn(c), got, code, want, wantCode)
	}
	return got
}

func wantRoom(t *testing.T, c impl.Conn) {
	t.Helper()
	got, code := impl.RoomOf(c)
	want, wantCode := roomWanted(c)
	if got != want || code != wantCode {
		t.Errorf("RoomOf of %s = %d, %d; want %d, %d", toldConn(c), got, code, want, wantCode)
	}
}

// longText has more bytes than a text may.
var longText = strings.Repeat("x", 65537)

// textsToTake has, of a connection, what just fits in, what is a byte too long, and others.
func textsToTake(c impl.Conn) []string {
	room := max(0, 400-len(c.In))
	return []string{"", "x", "\x00", getLine + emptyEnd, longText[:room], longText[:room+1], longText[:400], longText[:401], longText[:65536], longText}
}

// wantConnAnswers holds all calls of a connection, right or not, against what is reckoned here.
func wantConnAnswers(t *testing.T, c impl.Conn) {
	t.Helper()
	given := cloneConn(c)
	if right := rightConn(c); impl.ConnOK(c) != right {
		t.Errorf("ConnOK of %s = %v", toldConn(c), !right)
		return
	}
	for _, text := range textsToTake(c) {
		wantTaken(t, c, text)
	}
	wantNextRequest(t, c)
	for _, seq := range slices.Concat(seqsOf(c.Slots[:min(len(c.Slots), 7)]), []int{-1, 0, c.Next - 1, c.Next, 100000, 100001, math.MinInt, math.MaxInt}) {
		for _, size := range []int{0, 1, 300, 301, 65536, 65537} {
			wantMadeReady(t, c, seq, longText[:size])
		}
	}
	wantFlushed(t, c)
	wantWaiting(t, c)
	wantRoom(t, c)
	if !sameConn(c, given) {
		t.Errorf("a call changed its connection: %s, was %s", toldConn(c), toldConn(given))
	}
}
