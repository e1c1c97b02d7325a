package tests

import (
	"math/rand"
	"slices"
	"strings"
	"testing"

	"loop.example/g00370/impl"
)

// connText has requests that are mostly right, and some of them cut or spoilt.
func (g *gardener) connText() string {
	text := ""
	for range 1 + g.Intn(4) {
		switch g.Intn(12) {
		case 0:
			text += g.head()
		case 1:
			text += g.spoiltText(requestOf(g.path(), false))
		case 2:
			text += g.bytes(60)
		case 3:
			text += requestOf(g.path(), true)
		case 4, 5:
			text += shortRequest
		default:
			text += requestOf(g.path(), false)
		}
	}
	if g.Intn(3) == 0 {
		text = text[:g.Intn(len(text)+1)]
	}
	return text
}

func (g *gardener) reply() string {
	if g.Intn(8) == 0 {
		return longText[:[]int{0, 1, 299, 300, 301}[g.Intn(5)]]
	}
	return "<" + g.bytes(12) + ">"
}

// Connections to which all kinds of things happen, each held against what is reckoned.
func TestConnectionsByChance(t *testing.T) {
	t.Parallel()
	g := &gardener{Rand: rand.New(rand.NewSource(51))}
	ends := map[string]int{}
	for range 3000 {
		c, coming := impl.OpenConn(), ""
		for range 60 {
			code := 0
			switch g.Intn(6) {
			case 0, 1:
				for range g.Intn(3) {
					coming += g.connText()
				}
				size := g.Intn(len(coming) + 1)
				if c, code = wantTaken(t, c, coming[:size]); code == impl.OK {
					coming = coming[size:]
				}
				ends["take "+codeTable()[code].word]++
			case 2, 3:
				got := wantNextRequest(t, c)
				c = got.conn
				ends["next "+codeTable()[got.code].word]++
			case 4:
				seq := c.Next - g.Intn(8)
				next, code := wantMadeReady(t, c, seq, g.reply())
				ends["ready "+codeTable()[code].word]++
				if code == impl.OK {
					c = next
				}
			default:
				next, text, closes := wantFlushed(t, c)
				if c = next; closes {
					ends["closes"]++
				}
				if text != "" {
					ends["sent"]++
				}
			}
			wantWaiting(t, c)
			wantRoom(t, c)
			if !impl.ConnOK(c) {
				t.Errorf("ConnOK of %s", toldConn(c))
			}
			// Opened again it goes on with its numbers.
			if c.Open = c.Open || g.Intn(3) == 0; !listens(c) {
				coming = ""
			}
		}
		wantConnAnswers(t, c)
		if t.Failed() {
			return
		}
	}
	for what, least := range map[string]int{"take ok": 5000, "take full": 500, "take shut": 5000, "next ok": 5000, "next more": 1000, "next shut": 5000, "next full": 500, "next form": 500, "next method": 100, "next long": 100, "ready ok": 2000, "ready none": 2000, "ready twice": 500, "ready range": 500, "sent": 2000, "closes": 500} {
		if ends[what] < least {
			t.Errorf("only %d times %q, not %d: %v", ends[what], what, least, ends)
		}
	}
}

// pieces cuts a text at places that chance has, into parts of at most that many bytes.
func (g *gardener) pieces(text string, most int) []string {
	var list []string
	for text != "" {
		size := min(len(text), g.Intn(most+1))
		list = append(list, text[:size])
		text = text[size:]
	}
	return list
}

// However a text is cut, and in whatever order and whenever its requests are answered, the same is read, and the same is sent.
func TestConversationsByChance(t *testing.T) {
	t.Parallel()
	g := &gardener{Rand: rand.New(rand.NewSource(52))}
	closed, longest := 0, 0
	for range 3000 {
		text := ""
		for range 1 + g.Intn(6) {
			text += g.connText()
		}
		want := answeredWanted(text)
		for range 3 {
			k := g.converse(t, g.pieces(text, []int{3, 30, 280}[g.Intn(3)]))
			wantSameTalk(t, text, k, want)
		}
		if longest = max(longest, len(want.heard)); want.closed {
			closed++
		}
		if t.Failed() {
			return
		}
	}
	if closed < 1000 || closed > 2900 || longest < 12 {
		t.Errorf("%d of 3000 closed, at most %d requests", closed, longest)
	}
}

// converse answers requests in an order that chance has; it goes on with the next piece when no byte is left that could be read.
func (g *gardener) converse(t *testing.T, pieces []string) talk {
	t.Helper()
	k := talk{conn: impl.OpenConn()}
	for _, piece := range pieces {
		k.take(t, piece)
		for turn := 0; k.read() == impl.ErrFull && turn < manyTurns; turn++ {
			g.answerOne(&k)
		}
		for range g.Intn(3) {
			g.answerOne(&k)
		}
	}
	for turn := 0; len(k.conn.Slots) > 0 && turn < manyTurns; turn++ {
		g.answerOne(&k)
	}
	return k
}

// answerOne makes one reply ready, if one is missing, and sends what there is.
func (g *gardener) answerOne(k *talk) {
	if waiting, _ := impl.WaitingOf(k.conn); len(waiting) > 0 {
		seq := waiting[g.Intn(len(waiting))]
		k.conn, _ = impl.ConnReady(k.conn, seq, answerOf(seq))
	}
	next, text, closes, _ := impl.ConnFlush(k.conn)
	k.conn, k.sent, k.closed = next, k.sent+text, k.closed || closes
}

func (g *gardener) oddNumber() int {
	numbers := append(oddNumbers(), 99999, 100000, 100001)
	return numbers[g.Intn(len(numbers))]
}

func (g *gardener) anySlot() impl.Slot {
	s := impl.Slot{Seq: g.Intn(30)}
	if g.Intn(2) == 0 {
		s.Ready, s.Text = true, g.reply()
	}
	switch g.Intn(8) {
	case 0:
		s.Seq = g.oddNumber()
	case 1:
		s.Ready = !s.Ready
	case 2:
		s.Text = longText[:[]int{0, 1, 300, 301, 400}[g.Intn(5)]]
	}
	return s
}

// anyConn is as right as chance has it.
func (g *gardener) anyConn() impl.Conn {
	c := impl.Conn{Open: g.Intn(8) > 0, Ending: g.Intn(3) == 0, Next: 30}
	for range g.Intn(5) {
		c.Slots = append(c.Slots, g.anySlot())
	}
	if g.Intn(8) > 0 {
		slices.SortFunc(c.Slots, func(a, b impl.Slot) int { return a.Seq - b.Seq })
	}
	if !c.Ending || g.Intn(8) == 0 {
		c.In = g.connText()
	}
	switch g.Intn(12) {
	case 0:
		c.Next = g.oddNumber()
	case 1:
		c.In = strings.Repeat("x", 399+g.Intn(4))
	case 2:
		c.Slots = append(c.Slots, slotsUpTo(g.Intn(8))...)
	case 3:
		c.Slots, c.In = nil, ""
	case 4:
		c.Slots = slotsUpTo(4 + g.Intn(4))
	}
	return c
}

func TestAnyConnectionsByChance(t *testing.T) {
	t.Parallel()
	g := &gardener{Rand: rand.New(rand.NewSource(53))}
	right, wrong := 0, 0
	for range 30000 {
		c := g.anyConn()
		if rightConn(c) {
			right++
		} else {
			wrong++
		}
		wantConnAnswers(t, c)
		wantMadeReady(t, c, g.oddNumber(), g.reply())
		if t.Failed() {
			return
		}
	}
	if right < 5000 || wrong < 5000 {
		t.Errorf("%d connections were right, %d wrong", right, wrong)
	}
}

func FuzzConns(f *testing.F) {
	f.Add(true, false, shortRequest+"GET", 3, 5, true, "x", 20, 5, "reply", 7, int64(1))
	f.Add(true, true, "", 0, 1, false, "", 2, 1, "", 1, int64(2))
	f.Add(false, false, lastRequest+"rest", -1, 0, true, "", 100001, 0, "x", 400, int64(3))
	f.Fuzz(func(t *testing.T, open, ending bool, in string, first, second int, ready bool, text string, next, seq int, reply string, size int, seed int64) {
		c := impl.Conn{Open: open, Ending: ending, In: in, Slots: []impl.Slot{{Seq: first, Ready: ready, Text: text}, {Seq: second}}, Next: next}
		for _, count := range []int{2, 1, 0} {
			c.Slots = c.Slots[:count]
			wantConnAnswers(t, c)
			wantMadeReady(t, c, seq, reply)
			wantTaken(t, c, reply)
		}
		// What is read of a text does not hang on how it is cut.
		g := &gardener{Rand: rand.New(rand.NewSource(seed))}
		most := 1 + (size%280+280)%280
		wantSameTalk(t, in, g.converse(t, g.pieces(in, most)), answeredWanted(in))
	})
}
