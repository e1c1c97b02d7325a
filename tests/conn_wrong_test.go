package tests

import (
	"fmt"
	"math"
	"slices"
	"strings"
	"testing"

	"loop.example/g00370/impl"
)

// wantWrongConn: all calls of it are ErrBad, and nothing else is told.
func wantWrongConn(t *testing.T, what string, c impl.Conn) {
	t.Helper()
	if impl.ConnOK(c) || rightConn(c) {
		t.Errorf("ConnOK with %s: %s", what, toldConn(c))
	}
	wantConnAnswers(t, c)
	got, code := impl.ConnTake(c, "x")
	wantConn(t, what+", taken", got, code, impl.Conn{}, impl.ErrBad)
	got, r, seq, code := impl.ConnNext(c)
	wantConn(t, what+", next", got, code, impl.Conn{}, impl.ErrBad)
	if r != (impl.Request{}) || seq != 0 {
		t.Errorf("ConnNext with %s: %+v, %d", what, r, seq)
	}
	got, code = impl.ConnReady(c, 0, "x")
	wantConn(t, what+", ready", got, code, impl.Conn{}, impl.ErrBad)
	got, text, closes, code := impl.ConnFlush(c)
	wantConn(t, what+", flushed", got, code, impl.Conn{}, impl.ErrBad)
	if text != "" || closes {
		t.Errorf("ConnFlush with %s: %q, %v", what, text, closes)
	}
	if waits, code := impl.WaitingOf(c); len(waits) != 0 || code != impl.ErrBad {
		t.Errorf("WaitingOf with %s: %v, %d", what, waits, code)
	}
	if room, code := impl.RoomOf(c); room != 0 || code != impl.ErrBad {
		t.Errorf("RoomOf with %s: %d, %d", what, room, code)
	}
}

// busyConn has bytes, slots that are Ready and slots that are not; its numbers have gaps.
func busyConn() impl.Conn {
	return impl.Conn{Open: true, In: "GET /a HTTP/1.1\r\n\r\nGET", Next: 20, Slots: []impl.Slot{{Seq: 3, Ready: true, Text: "c"}, {Seq: 5}, {Seq: 11, Ready: true, Text: strings.Repeat("k", 300)}, {Seq: 19}}}
}

func slotsUpTo(count int) []impl.Slot {
	var slots []impl.Slot
	for seq := range count {
		slots = append(slots, impl.Slot{Seq: seq})
	}
	return slots
}

func TestConnectionsThatAreWrong(t *testing.T) {
	right := busyConn()
	wantConnAnswers(t, right)
	for what, spoil := range map[string]func(c *impl.Conn){
		"not Open, with bytes and slots":   func(c *impl.Conn) { c.Open = false },
		"not Open, with bytes":             func(c *impl.Conn) { c.Open, c.Slots = false, nil },
		"not Open, with slots":             func(c *impl.Conn) { c.Open, c.In = false, "" },
		"not Open, with a slot":            func(c *impl.Conn) { *c = impl.Conn{Next: 1, Slots: make([]impl.Slot, 1)} },
		"not Open, Ending":                 func(c *impl.Conn) { *c = impl.Conn{Ending: true} },
		"not Open, Ending, with a number":  func(c *impl.Conn) { *c = impl.Conn{Ending: true, Next: 5} },
		"not Open, Ending, with all":       func(c *impl.Conn) { c.Open, c.Ending = false, true },
		"not Open, a number below 0":       func(c *impl.Conn) { *c = impl.Conn{Next: -1} },
		"not Open, a number too great":     func(c *impl.Conn) { *c = impl.Conn{Next: 100001} },
		"Ending, with bytes":               func(c *impl.Conn) { c.Ending = true },
		"Ending, with a byte":              func(c *impl.Conn) { c.Ending, c.In = true, "\x00" },
		"Ending, with bytes, no slots":     func(c *impl.Conn) { c.Ending, c.Slots = true, nil },
		"401 bytes":                        func(c *impl.Conn) { c.In = strings.Repeat("x", 401) },
		"a great many bytes":               func(c *impl.Conn) { c.In = strings.Repeat("x", 1<<20) },
		"the slots in another order":       func(c *impl.Conn) { slices.Reverse(c.Slots) },
		"two slots in another order":       func(c *impl.Conn) { c.Slots[1], c.Slots[2] = c.Slots[2], c.Slots[1] },
		"the first two alike":              func(c *impl.Conn) { c.Slots[1].Seq = 3 },
		"the last two alike":               func(c *impl.Conn) { c.Slots[2].Seq = 19 },
		"the first one above the second":   func(c *impl.Conn) { c.Slots[0].Seq = 6 },
		"the last one below the others":    func(c *impl.Conn) { c.Slots[3].Seq = 0 },
		"a slot that is Next":              func(c *impl.Conn) { c.Slots[3].Seq = 20 },
		"a slot above Next":                func(c *impl.Conn) { c.Slots[3].Seq = 21 },
		"a greatest slot":                  func(c *impl.Conn) { c.Slots[3].Seq = math.MaxInt },
		"all slots above Next":             func(c *impl.Conn) { c.Next = 3 },
		"the last slot is Next":            func(c *impl.Conn) { c.Next = 19 },
		"Next 0 with slots":                func(c *impl.Conn) { c.Next = 0 },
		"Next below 0":                     func(c *impl.Conn) { c.Next = -1 },
		"Next below 0, with slots below":   func(c *impl.Conn) { c.Next, c.Slots = -1, []impl.Slot{{Seq: -2}} },
		"Next 100001":                      func(c *impl.Conn) { c.Next = 100001 },
		"Next 100001, the rest zero":       func(c *impl.Conn) { *c = impl.Conn{Open: true, Next: 100001} },
		"a greatest Next":                  func(c *impl.Conn) { c.Next = math.MaxInt },
		"a least Next":                     func(c *impl.Conn) { c.Next = math.MinInt },
		"the first is Ready without Text":  func(c *impl.Conn) { c.Slots[0].Text = "" },
		"another is Ready without Text":    func(c *impl.Conn) { c.Slots[3].Ready = true },
		"the first has Text, is not Ready": func(c *impl.Conn) { c.Slots[0].Ready = false },
		"another has Text, is not Ready":   func(c *impl.Conn) { c.Slots[3].Text = "x" },
		"a Text of 301 bytes":              func(c *impl.Conn) { c.Slots[2].Text += "k" },
		"a first Text of 301 bytes":        func(c *impl.Conn) { c.Slots[0].Text = strings.Repeat("x", 301) },
		"a great Text":                     func(c *impl.Conn) { c.Slots[2].Text = strings.Repeat("x", 1<<20) },
		"a great Text that is not Ready":   func(c *impl.Conn) { c.Slots[1].Text = strings.Repeat("x", 1<<20) },
		"seven slots":                      func(c *impl.Conn) { c.Slots = slotsUpTo(7) },
		"a great many slots":               func(c *impl.Conn) { c.Slots, c.Next = slotsUpTo(100000), 100000 },
		"a great many slots, all alike":    func(c *impl.Conn) { c.Slots = make([]impl.Slot, 1<<20) },
	} {
		c := cloneConn(right)
		spoil(&c)
		wantWrongConn(t, what, c)
	}
}

func TestConnectionsThatAreRight(t *testing.T) {
	right := busyConn()
	for what, change := range map[string]func(c *impl.Conn){
		"nothing else":               func(c *impl.Conn) {},
		"no bytes":                   func(c *impl.Conn) { c.In = "" },
		"400 bytes":                  func(c *impl.Conn) { c.In = strings.Repeat("\x00", 400) },
		"Ending":                     func(c *impl.Conn) { c.Ending, c.In = true, "" },
		"Ending, without slots":      func(c *impl.Conn) { *c = impl.Conn{Open: true, Ending: true} },
		"no slots":                   func(c *impl.Conn) { c.Slots = nil },
		"Next just above the slots":  func(c *impl.Conn) { c.Slots = c.Slots[:3]; c.Next = 12 },
		"Next 100000":                func(c *impl.Conn) { c.Next = 100000 },
		"the greatest slot":          func(c *impl.Conn) { c.Next, c.Slots[3].Seq = 100000, 99999 },
		"slots right behind another": func(c *impl.Conn) { c.Slots[1].Seq, c.Slots[2].Seq = 4, 5 },
		"slot 0":                     func(c *impl.Conn) { c.Slots[0].Seq = 0 },
		"six slots":                  func(c *impl.Conn) { c.Slots, c.Next = slotsUpTo(6), 6 },
		"six slots, and more":        func(c *impl.Conn) { c.Slots, c.Next = slotsUpTo(6), 100000 },
		"closed":                     func(c *impl.Conn) { *c = impl.Conn{} },
		"closed, with a number":      func(c *impl.Conn) { *c = impl.Conn{Next: 100000} },
		"any bytes":                  func(c *impl.Conn) { c.In, c.Slots[0].Text = "\xff\x00\r\n", "\xff\x00" },
	} {
		c := cloneConn(right)
		change(&c)
		if !impl.ConnOK(c) {
			t.Errorf("ConnOK with %s is false: %s", what, toldConn(c))
		}
		wantConnAnswers(t, c)
	}
}

// Next, and each slot's Seq, is put to each of some others.
func TestConnectionsWithOtherNumbers(t *testing.T) {
	numbers := append(oddNumbers(), 10, 11, 12, 18, 19, 21, 99999, 100000, 100001, -100000, 1<<32+5)
	for _, n := range numbers {
		for _, open := range []bool{false, true} {
			c := impl.Conn{Open: open, Next: n}
			if impl.ConnOK(c) != (n >= 0 && n <= 100000) {
				t.Errorf("ConnOK with Next %d, open %v", n, open)
			}
			wantConnAnswers(t, c)
		}
		c := busyConn()
		c.Next = n
		if impl.ConnOK(c) != (n > 19 && n <= 100000) {
			t.Errorf("ConnOK with Next %d and slot 19", n)
		}
		wantConnAnswers(t, c)
		for k := range busyConn().Slots {
			c := busyConn()
			c.Slots[k].Seq = n
			lower := k == 0 || n > c.Slots[k-1].Seq
			upper := k == 3 && n < 20 || k < 3 && n < c.Slots[k+1].Seq
			if impl.ConnOK(c) != (lower && upper) {
				t.Errorf("ConnOK with Seq %d at %d = %v", n, k, !(lower && upper))
			}
			wantConnAnswers(t, c)
		}
	}
}

// A slot is Ready with a Text of 1 to 300 bytes, or neither, at each place.
func TestConnectionsWithOtherTexts(t *testing.T) {
	for _, size := range []int{0, 1, 2, 255, 256, 299, 300, 301, 302, 556, 65536, 65537} {
		for _, ready := range []bool{false, true} {
			for k := range busyConn().Slots {
				c := busyConn()
				c.Slots[k].Ready, c.Slots[k].Text = ready, strings.Repeat("x", size)
				ok := ready && size >= 1 && size <= 300 || !ready && size == 0
				if impl.ConnOK(c) != ok {
					t.Errorf("ConnOK with a Text of %d bytes, ready %v, at %d = %v", size, ready, k, !ok)
				}
				wantConnAnswers(t, c)
			}
		}
	}
	for _, size := range []int{0, 1, 120, 121, 399, 400, 401, 402, 656, 65536, 65537} {
		for _, ending := range []bool{false, true} {
			c := impl.Conn{Open: true, Ending: ending, In: strings.Repeat("x", size)}
			if ok := size <= 400 && !ending || size == 0; impl.ConnOK(c) != ok {
				t.Errorf("ConnOK with %d bytes, ending %v = %v", size, ending, !ok)
			}
			wantConnAnswers(t, c)
		}
	}
	for count := range 10 {
		c := impl.Conn{Open: true, Slots: slotsUpTo(count), Next: 9}
		if impl.ConnOK(c) != (count <= 6) {
			t.Errorf("ConnOK with %d slots = %v", count, !impl.ConnOK(c))
		}
		wantConnAnswers(t, c)
	}
}

// Of several codes the first that the document names is told, with the connection, or with nothing.
func TestWhichCodeOfAConnectionComesFirst(t *testing.T) {
	long := strings.Repeat("x", 65537)
	wrong := impl.Conn{Ending: true}
	shut := impl.Conn{Next: 100000}
	ending := impl.Conn{Open: true, Ending: true, Next: 100000, Slots: slotsUpTo(6)}
	full := impl.Conn{Open: true, In: strings.Repeat("x", 400), Next: 6, Slots: slotsUpTo(6)}
	spent := impl.Conn{Open: true, In: "junk\r\n\r\n", Next: 100000}
	for what, c := range map[string]struct {
		conn  impl.Conn
		text  string
		code  int
		as    impl.Conn
		next  int
		ready int
	}{
		"a wrong one, a long text":        {wrong, long, impl.ErrLong, impl.Conn{}, impl.ErrBad, impl.ErrLong},
		"a closed one, a long text":       {shut, long, impl.ErrLong, impl.Conn{}, impl.ErrShut, impl.ErrLong},
		"an ending one, a long text":      {ending, long, impl.ErrLong, impl.Conn{}, impl.ErrShut, impl.ErrLong},
		"a full one, a long text":         {full, long, impl.ErrLong, impl.Conn{}, impl.ErrFull, impl.ErrLong},
		"a wrong one, no text":            {wrong, "", impl.ErrBad, impl.Conn{}, impl.ErrBad, impl.ErrBad},
		"a wrong one, a great text":       {wrong, long[:65536], impl.ErrBad, impl.Conn{}, impl.ErrBad, impl.ErrBad},
		"a closed one, a great text":      {shut, long[:65536], impl.ErrShut, shut, impl.ErrShut, impl.ErrRange},
		"a closed one, no text":           {shut, "", impl.ErrShut, shut, impl.ErrShut, impl.ErrRange},
		"a closed one, a text":            {shut, "x", impl.ErrShut, shut, impl.ErrShut, impl.ErrNone},
		"an ending one, a great text":     {ending, long[:65536], impl.ErrShut, ending, impl.ErrShut, impl.ErrRange},
		"an ending one with six slots":    {ending, "x", impl.ErrShut, ending, impl.ErrShut, impl.ErrNone},
		"a full one, a text":              {full, "x", impl.ErrFull, full, impl.ErrFull, impl.ErrNone},
		"one without a number more":       {spent, strings.Repeat("x", 393), impl.ErrFull, spent, impl.ErrFull, impl.ErrRange},
		"one without a number, a request": {spent, "x", impl.OK, impl.Conn{Open: true, In: spent.In + "x", Next: 100000}, impl.ErrFull, impl.ErrNone},
	} {
		got, code := impl.ConnTake(c.conn, c.text)
		wantConn(t, what, got, code, c.as, c.code)
		_, _, _, next := impl.ConnNext(c.conn)
		_, ready := impl.ConnReady(c.conn, 100000, c.text)
		if next != c.next || ready != c.ready {
			t.Errorf("%s: ConnNext %d, want %d; ConnReady %d, want %d", what, next, c.next, ready, c.ready)
		}
		wantConnAnswers(t, c.conn)
	}
	// Six slots, or no number more, come ahead of what there is to read, or is missing.
	for _, in := range []string{"", "GET", shortRequest, lastRequest, "junk\r\n\r\n", "PUT / HTTP/1.1\r\n\r\n", strings.Repeat("x", 121)} {
		for _, c := range []impl.Conn{{Open: true, In: in, Next: 6, Slots: slotsUpTo(6)}, {Open: true, In: in, Next: 100000}, {Open: true, In: in, Next: 100000, Slots: slotsUpTo(6)}} {
			same, r, seq, code := impl.ConnNext(c)
			wantConn(t, in, same, code, c, impl.ErrFull)
			if r != (impl.Request{}) || seq != 0 {
				t.Errorf("ConnNext of %s: %+v, %d", toldConn(c), r, seq)
			}
		}
		// One slot and one number less: all of it is read.
		c := impl.Conn{Open: true, In: in, Next: 99999, Slots: slotsUpTo(5)}
		got := wantNextRequest(t, c)
		if read := requestWanted(in); got.code != read.code || read.code != impl.ErrMore && (got.seq != 99999 || got.conn.Next != 100000 || len(got.conn.Slots) != 6) {
			t.Errorf("ConnNext of %s: %d, %d", toldConn(c), got.seq, got.code)
		}
	}
}

// A wrong reply is told ahead of a number that no slot has, and that ahead of one that is Ready.
func TestWhichSlotsAreMadeReady(t *testing.T) {
	c := busyConn()
	for _, seq := range append(oddNumbers(), 10, 11, 12, 18, 19, 21, 99999, 100000, 1<<32+5, 1<<32+19) {
		for _, size := range []int{0, 301, 65536} {
			none, code := impl.ConnReady(c, seq, strings.Repeat("x", size))
			wantConn(t, fmt.Sprintf("%d bytes for %d", size, seq), none, code, impl.Conn{}, impl.ErrRange)
		}
		none, code := impl.ConnReady(c, seq, strings.Repeat("x", 65537))
		wantConn(t, "too long", none, code, impl.Conn{}, impl.ErrLong)
		got, code := wantMadeReady(t, c, seq, "new")
		switch seq {
		case 5, 19:
			want := busyConn()
			want.Slots[map[int]int{5: 1, 19: 3}[seq]] = impl.Slot{Seq: seq, Ready: true, Text: "new"}
			wantConn(t, fmt.Sprint(seq), got, code, want, impl.OK)
		case 3, 11:
			wantConn(t, fmt.Sprint(seq), got, code, c, impl.ErrTwice)
		default:
			wantConn(t, fmt.Sprint(seq), got, code, c, impl.ErrNone)
		}
	}
	// A reply that is there stays, whatever comes behind it.
	c = readied(t, c, 5)
	for _, seq := range []int{3, 5, 11} {
		if same, code := impl.ConnReady(c, seq, "again"); code != impl.ErrTwice || !sameConn(same, c) {
			t.Errorf("ConnReady of %d again: %d, %s", seq, code, toldConn(same))
		}
	}
	c, sent, _ := wantFlushed(t, c)
	if sent != "c[5]"+strings.Repeat("k", 300) || !slices.Equal(seqsOf(c.Slots), []int{19}) || c.In != busyConn().In || c.Next != 20 {
		t.Errorf("%q is sent, %s", sent, toldConn(c))
	}
	// A number that was answered has no slot any more.
	for _, seq := range []int{3, 5, 11} {
		if same, code := impl.ConnReady(c, seq, "again"); code != impl.ErrNone || !sameConn(same, c) {
			t.Errorf("ConnReady of %d, which was sent: %d, %s", seq, code, toldConn(same))
		}
	}
}

// An empty list and nil are alike.
func TestConnectionsOfEmptyLists(t *testing.T) {
	for _, slots := range [][]impl.Slot{nil, {}, make([]impl.Slot, 0, 9)} {
		for _, c := range []impl.Conn{{}, {Next: 7}, {Open: true}, {Open: true, Ending: true}, {Open: true, In: shortRequest + "GET"}, {Open: true, In: lastRequest}} {
			c.Slots = slots
			if !impl.ConnOK(c) {
				t.Errorf("ConnOK of %s", toldConn(c))
			}
			wantConnAnswers(t, c)
		}
	}
}

// connsToLookAt are right ones of all kinds, and wrong ones.
func connsToLookAt() []impl.Conn {
	ending := busyConn()
	ending.Ending, ending.In = true, ""
	last := busyConn()
	last.In = lastRequest + "rest"
	fault := busyConn()
	fault.In = "junk\r\n\r\nrest"
	ready := busyConn()
	ready.Slots = ready.Slots[:1]
	readyAndEnding := ready
	readyAndEnding.Ending, readyAndEnding.In = true, ""
	wrong := busyConn()
	wrong.Next = 19
	return []impl.Conn{impl.OpenConn(), {}, {Next: 9}, {Open: true, Ending: true}, busyConn(), ending, last, fault, ready, readyAndEnding, {Open: true, In: shortRequest, Next: 6, Slots: slotsUpTo(6)}, {Open: true, In: strings.Repeat("x", 400)}, wrong, {Open: true, Next: 9, Slots: slotsUpTo(9)}}
}

// Neither the slots of a connection, nor what stands behind their end is written into.
func TestConnCallsLeaveTheirConnection(t *testing.T) {
	for _, c := range connsToLookAt() {
		c = cloneConn(c)
		behind := c.Slots[:cap(c.Slots)]
		for k := len(c.Slots); k < len(behind); k++ {
			behind[k] = impl.Slot{Seq: -7, Ready: true, Text: "behind"}
		}
		before := slices.Clone(behind)
		wantConnAnswers(t, c)
		for seq := range 21 {
			impl.ConnReady(c, seq, "new")
		}
		if !slices.Equal(behind, before) {
			t.Errorf("a call wrote into %s", toldConn(c))
		}
	}
}

// connAnswers are all calls that answer a connection.
func connAnswers() []func(c impl.Conn) impl.Conn {
	take := func(text string) func(c impl.Conn) impl.Conn {
		return func(c impl.Conn) impl.Conn {
			got, _ := impl.ConnTake(c, text)
			return got
		}
	}
	ready := func(seq int) func(c impl.Conn) impl.Conn {
		return func(c impl.Conn) impl.Conn {
			got, _ := impl.ConnReady(c, seq, "new")
			return got
		}
	}
	next := func(c impl.Conn) impl.Conn {
		got, _, _, _ := impl.ConnNext(c)
		return got
	}
	flush := func(c impl.Conn) impl.Conn {
		got, _, _, _ := impl.ConnFlush(c)
		return got
	}
	opened := func(impl.Conn) impl.Conn { return impl.OpenConn() }
	return []func(c impl.Conn) impl.Conn{take(""), take("x"), take(strings.Repeat("x", 400)), ready(0), ready(3), ready(5), ready(19), ready(-1), next, flush, opened}
}

// What is answered is its caller's own: no two lists of it share anything, nor with what was handed in.
func TestConnectionsShareNothing(t *testing.T) {
	for which, c := range connsToLookAt() {
		for call, answer := range connAnswers() {
			what := fmt.Sprintf("call %d of connection %d", call, which)
			given := cloneConn(c)
			got, again := answer(given), answer(given)
			spans := []span{spanOf(given.Slots), spanOf(got.Slots), spanOf(again.Slots)}
			wantApart(t, what, slices.DeleteFunc(spans, func(s span) bool { return s.from == s.to }))
			wantConn(t, what, again, impl.OK, got, impl.OK)
			want := cloneConn(again)
			clear(got.Slots[:cap(got.Slots)])
			wantConn(t, what, again, impl.OK, want, impl.OK)
			wantConn(t, what, given, impl.OK, c, impl.OK)
		}
	}
	first, _ := impl.WaitingOf(busyConn())
	second, _ := impl.WaitingOf(busyConn())
	wantApart(t, "WaitingOf", []span{spanOf(first), spanOf(second)})
	if !slices.Equal(first, []int{5, 19}) {
		t.Errorf("WaitingOf = %v", first)
	}
}

// Texts that were handed in may become others: what was answered stays as it is.
func TestConnTextsAreTheirOwn(t *testing.T) {
	in, spoilIn := loose(requestOf("/path", false) + "GET")
	slotText, spoilSlot := loose("slot")
	piece, spoilPiece := loose("GET /piece HTTP/1.1\r\n\r\n")
	reply, spoilReply := loose("reply")
	given := impl.Conn{Open: true, In: in, Slots: []impl.Slot{{Seq: 0, Ready: true, Text: slotText}, {Seq: 1}}, Next: 2}
	want := impl.Conn{Open: true, In: requestOf("/path", false) + "GET", Slots: []impl.Slot{{Seq: 0, Ready: true, Text: "slot"}, {Seq: 1}}, Next: 2}
	first, _ := impl.ConnTake(impl.OpenConn(), piece)
	nothing, _ := impl.ConnTake(given, "")
	taken, _ := impl.ConnTake(given, piece)
	same, _ := impl.ConnTake(given, strings.Repeat("x", 400))
	next, r, _, _ := impl.ConnNext(given)
	made, _ := impl.ConnReady(given, 1, reply)
	twice, _ := impl.ConnReady(given, 0, "new")
	flushed, text, _, _ := impl.ConnFlush(given)
	spoilIn()
	spoilSlot()
	spoilPiece()
	spoilReply()
	wantConn(t, "ConnTake of the first bytes", first, impl.OK, impl.Conn{Open: true, In: "GET /piece HTTP/1.1\r\n\r\n"}, impl.OK)
	wantConn(t, "ConnTake of nothing", nothing, impl.OK, want, impl.OK)
	wanted, _ := takenWanted(want, "GET /piece HTTP/1.1\r\n\r\n")
	wantConn(t, "ConnTake", taken, impl.OK, wanted, impl.OK)
	wantConn(t, "ConnTake, full", same, impl.OK, want, impl.OK)
	wantConn(t, "ConnNext", next, impl.OK, nextRequestWanted(want).conn, impl.OK)
	wanted, _ = madeReadyWanted(want, 1, "reply")
	wantConn(t, "ConnReady", made, impl.OK, wanted, impl.OK)
	wantConn(t, "ConnReady, twice", twice, impl.OK, want, impl.OK)
	wanted, _, _, _ = flushWanted(want)
	wantConn(t, "ConnFlush", flushed, impl.OK, wanted, impl.OK)
	if r.Path != "/path" || text != "slot" {
		t.Errorf("the path is %q, what is sent %q", r.Path, text)
	}
}
