package tests

import (
	"math/rand"
	"strings"
	"testing"

	"loop.example/g00370/impl"
)

// forEachJoined has all texts of up to that many of the pieces, one right behind the other.
func forEachJoined(pieces []string, size int, do func(string)) {
	do("")
	if size == 0 {
		return
	}
	for _, first := range pieces {
		forEachJoined(pieces, size-1, func(s string) { do(first + s) })
	}
}

func TestAllShortRequests(t *testing.T) {
	t.Parallel()
	forEachJoined([]string{"\r", "\n", "\r\n", ":", "a", " "}, 6, func(s string) {
		wantReadAsReckoned(t, s)
		wantReadAsReckoned(t, getLine+s, "a", " ")
		wantReadAsReckoned(t, getLine+s+"\r\n\r\n", "a", " ")
	})
	forEachJoined([]string{"GET", " ", "/", "HTTP/1.1", "x", "\r\n"}, 6, func(s string) {
		wantReadAsReckoned(t, s)
		wantReadAsReckoned(t, s+"\r\n\r\n")
	})
	forEachJoined([]string{"connection", "CLOSE", ":", " ", "\r\n", "x"}, 6, func(s string) {
		wantReadAsReckoned(t, getLine+s+"\r\n\r\n", "x")
	})
	forEachJoined([]string{"content-length", "Transfer-Encoding", ":", " ", "\r\n"}, 5, func(s string) {
		wantReadAsReckoned(t, getLine+s+"\r\n\r\n")
	})
}

func TestAllShortPaths(t *testing.T) {
	t.Parallel()
	forEachJoined([]string{"/", "a", "_", ".", "?"}, 6, func(s string) {
		part, rest, code := splitWanted(s)
		wantSplit(t, s, part, rest, code)
		r := impl.Request{Path: s, Close: len(s)%2 == 0}
		text, code := requestTextWanted(r)
		wantRequestText(t, r, text, code)
		if code == impl.OK {
			wantRequest(t, text, r, len(text), impl.OK)
		}
	})
}

func (g *gardener) bytes(most int) string {
	bytes := make([]byte, g.Intn(most+1))
	for i := range bytes {
		bytes[i] = byte(g.Intn(256))
	}
	return string(bytes)
}

func (g *gardener) byteOf(t string) string {
	at := g.Intn(len(t))
	return t[at : at+1]
}

func (g *gardener) path() string {
	path := "/"
	for size := 1 + g.Intn(40); len(path) < size; {
		path += g.byteOf("abzABZ019_/.-//")
	}
	return path
}

// cased has each letter great or small.
func (g *gardener) cased(t string) string {
	if g.Intn(2) == 0 {
		return t
	}
	bytes := []byte(t)
	for i := range bytes {
		if g.Intn(3) == 0 {
			bytes[i] = strings.ToUpper(t)[i]
		}
	}
	return string(bytes)
}

func (g *gardener) blanks() string { return strings.Repeat(" ", g.Intn(3)) }

func (g *gardener) headerLine() string {
	switch g.Intn(20) {
	case 0:
		return g.cased(g.word("content-length transfer-encoding")) + ":" + g.blanks() + "5"
	case 1:
		return g.word("x content-length :x connection")
	case 2:
		return g.bytes(6) + ":" + g.bytes(6)
	case 3:
		return "long:" + strings.Repeat("y", g.Intn(120))
	}
	return g.cased(g.word("host connection connection a b")) + ":" + g.blanks() + g.cased(g.word("close close edge x:y c")) + g.blanks()
}

// head is a request that is mostly right.
func (g *gardener) head() string {
	text := g.word("GET GET GET GET GET GET GET GET PUT get") + " " + g.path() + " " + g.word("HTTP/1.1 HTTP/1.1 HTTP/1.1 HTTP/1.1 HTTP/1.1 HTTP/1.1 HTTP/1.1 HTTP/1.0") + "\r\n"
	for range g.Intn(5) {
		text += g.headerLine() + "\r\n"
	}
	return text + "\r\n"
}

// spoiltText has one byte more, one less, or another one.
func (g *gardener) spoiltText(t string) string {
	at := g.Intn(len(t))
	b := g.byteOf("\r\n: /xG\x00\xffc")
	return t[:at] + []string{b, "", b + t[at:at+1]}[g.Intn(3)] + t[at+1:]
}

func TestRequestsByChance(t *testing.T) {
	t.Parallel()
	g := &gardener{Rand: rand.New(rand.NewSource(81))}
	codes := map[int]int{}
	closes := 0
	for i := range 60000 {
		text := g.head()
		for range i % 3 {
			text = g.spoiltText(text)
		}
		if g.Intn(4) == 0 {
			text += g.bytes(30)
		}
		if g.Intn(4) == 0 {
			text = text[:g.Intn(len(text)+1)]
		}
		read := wantReadAsReckoned(t, text, g.cased("a"), "b", "close")
		codes[read.code]++
		if read.request.Close {
			closes++
		}
		if t.Failed() {
			return
		}
	}
	for code, least := range map[int]int{impl.OK: 10000, impl.ErrMore: 5000, impl.ErrLong: 500, impl.ErrForm: 5000, impl.ErrMethod: 2000} {
		if codes[code] < least {
			t.Errorf("only %d texts have the code %d, not %d", codes[code], code, least)
		}
	}
	if closes < 2000 {
		t.Errorf("only %d requests close", closes)
	}
}

// What is written by chance is read back, and cut anywhere, more is waited for.
func TestReadingBackByChance(t *testing.T) {
	t.Parallel()
	g := &gardener{Rand: rand.New(rand.NewSource(82))}
	for range 20000 {
		r := impl.Request{Path: g.path(), Close: g.Intn(2) == 0}
		text, code := impl.RequestText(r)
		if code != impl.OK {
			t.Fatalf("RequestText(%+v) has %d", r, code)
		}
		wantRequest(t, text, r, len(text), impl.OK)
		wantRequest(t, text+g.bytes(200), r, len(text), impl.OK)
		wantRequestFault(t, text[:g.Intn(len(text))], impl.ErrMore)
		part, rest, code := splitWanted(r.Path)
		wantSplit(t, r.Path, part, rest, code)
		if t.Failed() {
			return
		}
	}
}

// However the bytes come in pieces, the same requests are read, as long as each of them is read when it is there.
func TestRequestsInPieces(t *testing.T) {
	t.Parallel()
	g := &gardener{Rand: rand.New(rand.NewSource(83))}
	for range 3000 {
		whole := ""
		for range 1 + g.Intn(4) {
			whole += g.head()
		}
		if g.Intn(2) == 0 {
			whole = g.spoiltText(whole)
		}
		at, from := 0, 0
		for at < len(whole) {
			at = min(len(whole), at+1+g.Intn(60))
			for {
				r, size, code := impl.ReadRequest(whole[from:at])
				if code == impl.ErrMore {
					break
				}
				wantRequest(t, whole[from:], r, size, code)
				if code != impl.OK {
					at = len(whole)
					break
				}
				from += size
			}
		}
		if t.Failed() {
			return
		}
	}
}

func FuzzWire(f *testing.F) {
	f.Add("GET /one/a HTTP/1.1\r\nHost: edge\r\nCONNECTION:  Close \r\n\r\nGET", "host", 200, true)
	f.Add("PUT / HTTP/1.1\r\na: b\r\n\r\n", "a", 404, false)
	f.Add("/one/a", "", -1, false)
	f.Fuzz(func(t *testing.T, s, name string, status int, closes bool) {
		wantReadAsReckoned(t, s, name)
		wantReadAsReckoned(t, getLine+s+"\r\n\r\n", name)
		wantPath(t, s)
		want, code := replyWanted(status, s, closes)
		wantReply(t, status, s, closes, want, code)
		if impl.StatusWord(status) != statusWords()[status] {
			t.Errorf("StatusWord(%d) = %q", status, impl.StatusWord(status))
		}
	})
}
