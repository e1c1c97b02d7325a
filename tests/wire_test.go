package tests

import (
	"math"
	"strings"
	"testing"
	"unsafe"

	"loop.example/g00370/impl"
)

const (
	getLine  = "GET /a HTTP/1.1\r\n"
	emptyEnd = "\r\n"
)

// withLines is a request of these lines behind its first one.
func withLines(lines ...string) string {
	text := getLine
	for _, line := range lines {
		text += line + "\r\n"
	}
	return text + emptyEnd
}

// somePaths are right ones of all kinds.
func somePaths() []string {
	return []string{
		"/", "//", "///", "/a", "/Z", "/0", "/9", "/_", "/.", "/-", "/..", "/a/b", "/one/a", "/one/", "/one//", "//one", "/one/a/b.c-d_e", "/GET", "/HTTP/1.1", "/.../--/__/",
		"/" + strings.Repeat("a", 38), "/" + strings.Repeat("a", 39), strings.Repeat("/", 39), strings.Repeat("/", 40), "/" + strings.Repeat("-", 38) + "/",
	}
}

// noPaths are texts that are none.
func noPaths() []string {
	return []string{
		"", "a", "a/", "one", ".", "-/", "_", " ", " /", "/ ", "/a b", "/a\t", "/\r\n", "/a\n", "\n/", "/a\r", "/?", "/a?b", "/a#", "/a:b", "/%20", "/~", "/a+b", "/a,b", "/*", "\\", "/\\", "/'", "/@", "/[", "/`", "/{", "/\x00", "/\x7f", "/\xff", "/\xc3\xa4", "\xef\xbc\x8f",
		"/" + strings.Repeat("a", 40), "/" + strings.Repeat("a", 41), strings.Repeat("/", 41), strings.Repeat("/", 80), strings.Repeat("/", 256+1), strings.Repeat("a", 40), "/" + strings.Repeat("a", 1000), "/" + strings.Repeat("a", impl.MaxText-1), strings.Repeat("x", impl.MaxText),
	}
}

// someTails are what may stand behind a request.
func someTails() []string {
	return []string{
		"", "G", "GET", "\r", "\n", "\r\n", "\r\n\r\n", "\n\r\n", "\x00", "\xff\xfe", " ", ":", "x", "POST / HTTP/1.1\r\n\r\n", "GET /b HTTP/1.1\r\n\r\n", "Connection: close\r\n\r\n", "Content-Length: 5\r\n\r\nhello",
		strings.Repeat("x", 119), strings.Repeat("x", 120), strings.Repeat("x", 121), strings.Repeat("\r\n", 100), strings.Repeat("y", 60000),
	}
}

func TestWireConstantsAreTheDocuments(t *testing.T) {
	if impl.MaxHead != 120 {
		t.Errorf("MaxHead is %d, the document has 120", impl.MaxHead)
	}
}

func TestHowRequestsAreWritten(t *testing.T) {
	for _, c := range []struct {
		request impl.Request
		want    string
	}{
		{impl.Request{Path: "/"}, "GET / HTTP/1.1\r\nHost: edge\r\n\r\n"},
		{impl.Request{Path: "/", Close: true}, "GET / HTTP/1.1\r\nHost: edge\r\nConnection: close\r\n\r\n"},
		{impl.Request{Path: "/one/a_b.c-9"}, "GET /one/a_b.c-9 HTTP/1.1\r\nHost: edge\r\n\r\n"},
		{impl.Request{Path: "/one/a_b.c-9", Close: true}, "GET /one/a_b.c-9 HTTP/1.1\r\nHost: edge\r\nConnection: close\r\n\r\n"},
	} {
		wantRequestText(t, c.request, c.want, impl.OK)
	}
}

func TestPaths(t *testing.T) {
	for _, path := range somePaths() {
		if !pathForm.MatchString(path) {
			t.Errorf("%q is no path of the tests", path)
		}
		wantPath(t, path)
	}
	for _, path := range noPaths() {
		wantPath(t, path)
		for _, closes := range []bool{false, true} {
			wantRequestText(t, impl.Request{Path: path, Close: closes}, "", impl.ErrBad)
		}
		wantSplit(t, path, "", "", impl.ErrForm)
	}
	// The path of a request is no argument of its own: no length of it is ErrLong.
	for _, path := range append(tooLong(), "/"+strings.Repeat("a", impl.MaxText)) {
		wantRequestText(t, impl.Request{Path: path}, "", impl.ErrBad)
		wantSplit(t, path, "", "", impl.ErrLong)
	}
}

// Each byte stands at the beginning, and behind the slash.
func TestPathsOfEachByte(t *testing.T) {
	const fits = "abcdefghijklmnopqrstuvwxyzABCDEFGHIJKLMNOPQRSTUVWXYZ_0123456789/.-"
	for b := range 256 {
		s := string([]byte{byte(b)})
		for _, path := range []string{s, s + "/", s + "a", "/" + s, "/a" + s, "/" + s + "a", "/a/" + s + "/"} {
			wantPath(t, path)
		}
		code := impl.ErrForm
		if strings.Contains(fits, s) {
			code = impl.OK
		}
		if _, _, got := impl.SplitPath("/x" + s); got != code {
			t.Errorf("SplitPath(%q) has %d, want %d", "/x"+s, got, code)
		}
	}
}

func TestPathsOfEachLength(t *testing.T) {
	for size := range 90 {
		path := strings.Repeat("/a-", 30)[:size]
		text := "GET " + path + " HTTP/1.1\r\n\r\n"
		wantPath(t, path)
		switch {
		case 1 <= size && size <= 40:
			wantRequest(t, text, impl.Request{Path: path}, len(text), impl.OK)
		case len(text) <= 120:
			wantRequestFault(t, text, impl.ErrForm)
		default:
			wantRequestFault(t, text, impl.ErrLong)
		}
	}
}

// What is written is read back, whatever stands behind it, and told with its own bytes.
func TestRequestsAreReadBack(t *testing.T) {
	for _, path := range somePaths() {
		for _, closes := range []bool{false, true} {
			r := impl.Request{Path: path, Close: closes}
			text, code := impl.RequestText(r)
			if code != impl.OK {
				t.Fatalf("RequestText(%+v) has %d", r, code)
			}
			for _, tail := range someTails() {
				wantRequest(t, text+tail, r, len(text), impl.OK)
				wantHeader(t, text+tail, "HOST", "edge", impl.OK)
			}
			for b := range 256 {
				wantRequest(t, text+string([]byte{byte(b)}), r, len(text), impl.OK)
			}
		}
	}
}

// Requests behind each other are read one by one.
func TestRequestsBehindEachOther(t *testing.T) {
	var whole string
	var wanted []impl.Request
	for i, path := range somePaths() {
		r := impl.Request{Path: path, Close: i%3 == 0}
		text, _ := impl.RequestText(r)
		whole += text
		wanted = append(wanted, r)
	}
	for _, want := range wanted {
		r, size, code := impl.ReadRequest(whole)
		if r != want || code != impl.OK || size <= 0 || size > len(whole) {
			t.Fatalf("ReadRequest = %+v, %d, %d; want %+v", r, size, code, want)
		}
		whole = whole[size:]
	}
	if whole != "" {
		t.Errorf("%q is left", whole)
	}
}

// requestsToCut are right, with all kinds of lines.
func requestsToCut() []string {
	texts := []string{
		withLines(), withLines("a:"), withLines(" : "), withLines("connection: close", "connection: x"), withLines("a\r: \r", "\n:\n"), withLines("\r:\n", "x:\r"),
		headOf(getLine, 119), headOf(getLine, 120), "GET / HTTP/1.1\r\n\r\n",
	}
	for _, path := range somePaths() {
		for _, closes := range []bool{false, true} {
			text, _ := impl.RequestText(impl.Request{Path: path, Close: closes})
			texts = append(texts, text)
		}
	}
	return texts
}

func TestCutRequestsAreWaitedFor(t *testing.T) {
	for _, text := range requestsToCut() {
		for cut := range len(text) {
			wantRequestFault(t, text[:cut], impl.ErrMore)
			wantHeader(t, text[:cut], "host", "", impl.ErrMore)
		}
		if _, size, code := impl.ReadRequest(text); size != len(text) || code != impl.OK {
			t.Errorf("ReadRequest(%q) has %d bytes, %d", text, size, code)
		}
	}
}

// endless are texts that can't become right any more, but have no empty line: they are waited with up to 120 bytes, whatever is wrong with them.
func endless() []string {
	return []string{
		"POST / HTTP/1.1\r\n", "GET x HTTP/1.1\r\n", "GET /\r\n", "get / http/1.0\r\n", " \r\n", "\x00", "\xff", "x", " ", ":", "\r", "\n", "\n\n", "\r\r", "\n\r", "\r\r\n", "\r\n\n", "\r\n\r", "\r\n \r\n", "\r\nx", "x\n\n", "x\r\r", "x\n\r\n\r\r", "x\n\r\n\r",
		"GET / HTTP/1.1\n\n", "GET / HTTP/1.1\r\r", "GET / HTTP/1.1\n\r\n", "GET / HTTP/1.1\r\n\n", "GET / HTTP/1.1\r\n\r\r", "GET / HTTP/1.1\r\n \r\n", "GET / HTTP/1.1\r\nx\r\n", "GET / HTTP/1.1\r\n:x\r\n", "GET / HTTP/1.1\r\nContent-Length: 5\r\n", "GET / HTTP/1.1\r\ntransfer-encoding: x\r\n", "GET / HTTP/1.1\r\nHost: edge\r\n", "GET / HTTP/1.1\r\nHost: edge\n\n",
		"GET /" + strings.Repeat("a", 60) + " HTTP/1.1\r\n", "\r\n",
	}
}

func TestWhatIsWaitedFor(t *testing.T) {
	for _, begin := range endless() {
		for _, fill := range []string{"x", "\x00", "\n", "\r", " ", ":", "a: b\r\n", "x\r\n", "\xff\r"} {
			text := begin + strings.Repeat(fill, 200)
			if _, size := headLinesWanted(text); size > 0 { // the two together have an empty line
				text = begin + "-" + strings.Repeat(fill, 200)
			}
			for size := range 130 {
				code := impl.ErrMore
				if size > 120 {
					code = impl.ErrLong
				}
				wantRequestFault(t, text[:size], code)
			}
			wantRequestFault(t, text, impl.ErrLong)
			wantHeader(t, text[:120], "x", "", impl.ErrMore)
			wantHeader(t, text[:121], "x", "", impl.ErrLong)
		}
	}
	wantRequestFault(t, "", impl.ErrMore)
	wantHeader(t, "", "", "", impl.ErrMore)
}

// Whatever is told ahead of the next bytes but that more is waited for, is told behind them, too.
func TestMoreBytesChangeNothingButTheWaiting(t *testing.T) {
	var texts []string
	for _, text := range append(append(requestsToCut(), wrongHeads()...), endless()...) {
		texts = append(texts, text, text+strings.Repeat("x", 130))
	}
	for _, text := range texts {
		for cut := range len(text) {
			r, size, code := impl.ReadRequest(text[:cut])
			if code == impl.ErrMore {
				continue
			}
			for _, tail := range append(someTails(), text[cut:]) {
				wantRequest(t, text[:cut]+tail, r, size, code)
			}
		}
	}
}

// headOf has that many bytes with its empty line.
func headOf(begin string, size int) string {
	begin += "x:"
	return begin + strings.Repeat("y", size-len(begin)-4) + "\r\n\r\n"
}

func TestHowLongARequestMayBe(t *testing.T) {
	for size := 30; size < 300; size++ {
		for _, tail := range []string{"", "x", strings.Repeat("z", 200)} {
			right, wrong, method := headOf(getLine, size), headOf("GET x HTTP/1.1\r\n", size), headOf("PUT /a HTTP/1.1\r\n", size)
			for _, text := range []string{right, wrong, method} {
				if len(text) != size {
					t.Fatalf("%q has %d bytes, not %d", text, len(text), size)
				}
			}
			if size <= 120 {
				wantRequest(t, right+tail, impl.Request{Path: "/a"}, size, impl.OK)
				wantRequestFault(t, wrong+tail, impl.ErrForm)
				wantRequestFault(t, method+tail, impl.ErrMethod)
				wantHeader(t, right+tail, "X", strings.Repeat("y", size-23), impl.OK)
				continue
			}
			wantRequestFault(t, right+tail, impl.ErrLong)
			wantRequestFault(t, wrong+tail, impl.ErrLong)
			wantRequestFault(t, method+tail, impl.ErrLong)
			wantHeader(t, right+tail, "X", "", impl.ErrLong)
		}
	}
	// Many short lines, as many as there is room for.
	for count := 20; count < 60; count++ {
		wantReadAsReckoned(t, withLines(strings.Split(strings.Repeat("a:,", count)+"b:", ",")...), "a", "b")
	}
}

func TestMaxTextOfWire(t *testing.T) {
	r := impl.Request{Path: "/a", Close: true}
	text, _ := impl.RequestText(r)
	for _, fill := range []string{"x", "\x00", "\r\n", "a:\r\n"} {
		full := text + strings.Repeat(fill, impl.MaxText)
		wantRequest(t, full[:impl.MaxText], r, len(text), impl.OK)
		wantHeader(t, full[:impl.MaxText], "host", "edge", impl.OK)
		wantHeader(t, full[:impl.MaxText], "none", "", impl.ErrNone)
		for _, size := range []int{impl.MaxText + 1, impl.MaxText + 2, len(full)} {
			wantRequestFault(t, full[:size], impl.ErrLong)
			wantHeader(t, full[:size], "host", "", impl.ErrLong)
			wantHeader(t, full[:size], "none", "", impl.ErrLong)
		}
	}
	full := strings.Repeat("n", impl.MaxText)
	wantHeader(t, text, full, "", impl.ErrNone)
	wantHeader(t, "GET", full, "", impl.ErrMore)
	wantHeader(t, "x\r\n\r\n", full, "", impl.ErrForm)
	wantHeader(t, "PUT / HTTP/1.1\r\n\r\n", full, "", impl.ErrMethod)
	for _, name := range tooLong() {
		for _, s := range []string{text, "", "GET", "x\r\n\r\n", "PUT / HTTP/1.1\r\n\r\n", full, full + "x"} {
			wantHeader(t, s, name, "", impl.ErrLong)
		}
	}
	for status := range 600 {
		wantReply(t, status, full, status%2 == 0, "", impl.ErrRange)
		wantReply(t, status, full+"x", status%2 == 0, "", impl.ErrLong)
	}
}

func TestFirstLines(t *testing.T) {
	for _, line := range []string{
		"", " ", "  ", "   ", "GET", "GET ", "GET  ", "GET /", "GET / ", "/", "/ HTTP/1.1", "HTTP/1.1", "GET/ HTTP/1.1", "GET /HTTP/1.1", "GET HTTP/1.1", "GET  HTTP/1.1", "GET/HTTP/1.1",
		"GET / HTTP/1.0", "GET / HTTP/1.2", "GET / HTTP/2", "GET / HTTP/1.", "GET / HTTP/1.11", "GET / HTTP/11", "GET / HTTP/1,1", "GET / http/1.1", "GET / Http/1.1", "GET / HTTP", "GET / HTTPS/1.1", "GET / \rHTTP/1.1", "GET / HTTP/1.1\r", "GET / HTTP/1.1\n", "GET / HTTP/1.1\x00", "GET / HTTP/1.1:", "GET / GET",
		"GET  / HTTP/1.1", "GET /  HTTP/1.1", "GET / HTTP/1.1 ", " GET / HTTP/1.1", "  GET / HTTP/1.1", "GET / HTTP/1.1 x", "GET / / HTTP/1.1", "GET GET / HTTP/1.1", "GET /a b HTTP/1.1", "GET   /   HTTP/1.1", "GET\t/\tHTTP/1.1", "GET\t/ HTTP/1.1", "GET /\tHTTP/1.1", "GET \t/ HTTP/1.1", "GET\n/ HTTP/1.1", "GET /\nHTTP/1.1", "GET\x00/ HTTP/1.1", "GET\xc2\xa0/ HTTP/1.1",
		"POST", "POST /", "POST x HTTP/1.1", "POST / HTTP/1.0", "POST  / HTTP/1.1", "POST /? HTTP/1.1", " POST / HTTP/1.1", "get / http/1.1", "Host: edge", "Content-Length: 0", ":", "x", "\r", "\n", "\x00", "\xff", "HTTP/1.1 200 OK", "HTTP/1.1 / GET",
	} {
		for _, behind := range []string{"\r\n\r\n", "\r\nHost: edge\r\n\r\n", "\r\nx\r\n\r\n", "\r\nContent-Length: 1\r\n\r\n", "\r\n\r\n\r\n\r\n"} {
			wantRequestFault(t, line+behind, impl.ErrForm)
			wantHeader(t, line+behind, "host", "", impl.ErrForm)
		}
	}
	for _, path := range noPaths() {
		text := "GET " + path + " HTTP/1.1\r\n\r\n"
		if _, size := headLinesWanted(text); size == len(text) && size <= 120 {
			wantRequestFault(t, text, impl.ErrForm)
			wantRequestFault(t, "PUT"+text[3:], impl.ErrForm)
		}
	}
}

// What stands in the place of GET, up to the first blank, is the method: none at all is another one, too.
func TestMethods(t *testing.T) {
	methods := []string{"POST", "PUT", "HEAD", "DELETE", "OPTIONS", "PATCH", "TRACE", "CONNECT", "get", "Get", "gET", "GEt", "GE", "G", "GETT", "GGET", "GET\t", "\tGET", "GET\r", "\nGET", "GET:", "x:", "G-T", "G\x00T", "\xff", "/", "HTTP/1.1", "GET/", "content-length:", "_", "0", ""}
	for b := range 256 {
		if b != ' ' && b != 'T' {
			methods = append(methods, "GE"+string([]byte{byte(b)}))
		}
	}
	for _, method := range methods {
		for _, behind := range []string{"\r\n\r\n", "\r\nHost: edge\r\n\r\n", "\r\nx\r\n\r\n", "\r\n:\r\n\r\n", "\r\nContent-Length: 1\r\n\r\n", "\r\n\r\n\r\n\r\nGET / HTTP/1.1\r\n\r\n"} {
			wantRequestFault(t, method+" / HTTP/1.1"+behind, impl.ErrMethod)
			wantHeader(t, method+" /a/b HTTP/1.1"+behind, "host", "", impl.ErrMethod)
		}
	}
}

func TestHeaderLines(t *testing.T) {
	for _, line := range []string{"a:", "a:b", "a: b", "a:  b  ", "a : b", " a: b", " :", " : ", "a::", "a:b:c", "a: :", "\x00:", "\xff:\xff", "\r:", "\n:", "a\r: b\r", "a\n:\n", "\r\r:", "\t:\t", "a b c: d e f", "GET / HTTP/1.1:", "connectio: close", "connection", "-:", "content-length : 5", " content-length: 5", "content-lengt: 5", "content-lengths: 5", "xcontent-length: 5", "content_length: 5", "content length: 5", "content-length\t: 5", "x: content-length: 5", "transfer-encoding : x", "\ttransfer-encoding: x", "transfer_encoding: x", "transferencoding: x", "x:transfer-encoding:"} {
		want := impl.OK
		if !strings.Contains(line, ":") {
			want = impl.ErrForm
		}
		for _, text := range []string{withLines(line), withLines("x: y", line), withLines(line, "x: y"), withLines(line, line)} {
			if got := wantReadAsReckoned(t, text, "a", "x", " ", "connection", "content-length "); got.code != want {
				t.Errorf("the tests' own reader has %d of %q", got.code, text)
			}
		}
	}
	for _, line := range []string{"a", "x", " ", "\t", "\r", "\n", "\x00", ":", "::", ":a", ": a", ":a: b", ":connection: close", "connection close", "Connection", "a;b", "a\xef\xbc\x9ab", "GET / HTTP/1.1", "content-length", "Content-Length:", "content-length:0", "CONTENT-LENGTH: 0", "cONTENT-lENGTH:  x  ", "content-length::", "content-length:a:b", "content-length: \r", "transfer-encoding:", "Transfer-Encoding: chunked", "TRANSFER-ENCODING:x", "transfer-ENCODING: :"} {
		for _, text := range []string{withLines(line), withLines("x: y", line), withLines(line, "x: y"), withLines("x: y", line, "connection: close"), withLines(line, line)} {
			wantRequestFault(t, text, impl.ErrForm)
			wantHeader(t, text, "x", "", impl.ErrForm)
		}
	}
}

// spelled has a word with each choice of great and small letters, up to a number of letters; the others stay.
func spelled(word string, most int) []string {
	list := []string{""}
	for i := range len(word) {
		c := word[i : i+1]
		both := []string{c}
		if strings.ToUpper(c) != c && i < most {
			both = append(both, strings.ToUpper(c))
		}
		var longer []string
		for _, s := range list {
			for _, b := range both {
				longer = append(longer, s+b)
			}
		}
		list = longer
	}
	return list
}

func TestLettersAreAlikeInNames(t *testing.T) {
	closes := spelled("close", 5)
	for i, name := range spelled("connection", 10) {
		value := closes[i%len(closes)]
		text := withLines(name + ": " + value)
		wantRequest(t, text, impl.Request{Path: "/a", Close: true}, len(text), impl.OK)
		wantHeader(t, text, "coNNection", value, impl.OK)
		wantHeader(t, withLines("CONNECTION:x"), name, "x", impl.OK)
	}
	for _, value := range closes {
		text := withLines("Connection:" + value)
		wantRequest(t, text, impl.Request{Path: "/a", Close: true}, len(text), impl.OK)
	}
	for _, word := range []string{"content-length", "transfer-encoding"} {
		names := append(spelled(word, 6), strings.ToUpper(word), strings.ToUpper(word[:9])+word[9:], word[:9]+strings.ToUpper(word[9:]))
		for _, name := range names {
			wantRequestFault(t, withLines(name+": 1"), impl.ErrForm)
			wantRequestFault(t, withLines(name+":"), impl.ErrForm)
			wantRequestFault(t, withLines("x: y", name+":"), impl.ErrForm)
		}
	}
}

// Each byte of a word is put to each other one: only the other form of a letter is alike.
func TestNoOtherBytesAreAlike(t *testing.T) {
	spoil := func(word string, do func(spoilt string)) {
		for i := range len(word) {
			for b := range 256 {
				do(word[:i] + string([]byte{byte(b)}) + word[i+1:])
			}
			do(word[:i] + word[i+1:])
			do(word[:i] + "\x00" + word[i:])
			do(word[:i] + " " + word[i:])
		}
		do(word + "\x00")
		do(word + "s")
		do(word + word)
		do(strings.NewReplacer("s", "\u017f", "k", "\u212a", "i", "\u0131").Replace(word))
	}
	spoil("connection", func(name string) {
		wantReadAsReckoned(t, withLines(name+": close"), name)
		if !strings.Contains(name, ":") {
			wantHeader(t, withLines("Connection: x", name+": y"), name, map[bool]string{true: "x", false: "y"}[small(name) == "connection"], impl.OK)
		}
	})
	spoil("close", func(value string) { wantReadAsReckoned(t, withLines("connection: "+value)) })
	for _, word := range []string{"content-length", "transfer-encoding"} {
		spoil(word, func(name string) { wantReadAsReckoned(t, withLines(name+": close"), name) })
	}
	for a := range 256 {
		for b := range 256 {
			name, asked := string([]byte{byte(a)}), string([]byte{byte(b)})
			if text := withLines(name + ": x"); name != ":" && small(name) == small(asked) {
				wantHeader(t, text, asked, "x", impl.OK)
			} else if name != ":" {
				wantHeader(t, text, asked, "", impl.ErrNone)
			}
		}
	}
	for _, pair := range [][2]string{{"s", "\u017f"}, {"k", "\u212a"}, {"\u212a", "K"}, {"\u00e4", "\u00c4"}, {"a", "a "}, {"a", " a"}, {"a", "a:"}, {"a", ""}, {"a", "aa"}, {"aa", "a"}} {
		wantHeader(t, withLines(pair[0]+": x"), pair[1], "", impl.ErrNone)
	}
	wantRequest(t, withLines("connection: clo\u017fe"), impl.Request{Path: "/a"}, len(withLines("connection: clo\u017fe")), impl.OK)
}

func TestClose(t *testing.T) {
	for line, closes := range map[string]bool{
		"connection: close": true, "Connection:close": true, "CONNECTION:   CLOSE   ": true, "connection:close ": true, "connection: close" + strings.Repeat(" ", 60): true, "connection:" + strings.Repeat(" ", 60) + "close": true,
		"connection:": false, "connection: ": false, "connection: keep-alive": false, "connection: closed": false, "connection: clos": false, "connection: close,": false, "connection: close, x": false, "connection: x, close": false, "connection: close close": false, "connection: c lose": false, "connection: 'close'": false,
		"connection::close": false, "connection:: close": false, "connection: close:": false, "connection: :close": false, "connection:close:close": false,
		"connection : close": false, " connection: close": false, "connection\t: close": false, "connections: close": false, "proxy-connection: close": false, "x: connection: close": false, "close: connection": false, "close: close": false,
		"connection:\tclose": false, "connection: close\t": false, "connection: close\r": false, "connection: \nclose": false, "connection: close\n": false, "connection: close\x00": false, "connection: \xc2\xa0close": false,
	} {
		for _, text := range []string{withLines(line), withLines("host: x", line), withLines(line, "host: x")} {
			wantRequest(t, text, impl.Request{Path: "/a", Close: closes}, len(text), impl.OK)
			wantReadAsReckoned(t, text)
		}
	}
	// One line of several is enough, wherever it stands.
	for _, lines := range [][]string{{"connection: close", "connection: x"}, {"connection: x", "Connection: Close"}, {"connection:", "connection: close", "connection: x"}, {"connection: close", "connection: close"}} {
		text := withLines(lines...)
		wantRequest(t, text, impl.Request{Path: "/a", Close: true}, len(text), impl.OK)
	}
	// Behind the empty line, and in the path, it is none.
	for _, text := range []string{withLines(), withLines("connection: x"), "GET /connection/close HTTP/1.1\r\n\r\n"} {
		if r, size, code := impl.ReadRequest(text + "connection: close\r\n\r\n"); r.Close || size != len(text) || code != impl.OK {
			t.Errorf("ReadRequest = %+v, %d, %d", r, size, code)
		}
	}
}

// What stands behind the empty line is not looked at, be it what it may.
func TestBehindTheEmptyLine(t *testing.T) {
	for _, text := range append(wrongHeads(), withLines(), withLines("connection: close")) {
		r, size, code := impl.ReadRequest(text)
		for _, tail := range someTails() {
			wantRequest(t, text+tail, r, size, code)
			wantReadAsReckoned(t, text+tail)
		}
	}
}

// Bytes 13 and 10 end a line only together, and in this order.
func TestLineEndsAlone(t *testing.T) {
	for _, text := range []string{
		"\n", "\r", "\n\n", "\r\r", "\n\r", "\n\r\n", "\n\r\n\r", "GET / HTTP/1.1\n\n", "GET / HTTP/1.1\r\r", "GET / HTTP/1.1\n\r\n\r", "GET / HTTP/1.1\r\n\n", "GET / HTTP/1.1\r\n\r", "GET / HTTP/1.1\n\nGET / HTTP/1.1\n\n", "GET / HTTP/1.1\r\nHost: x\r\n\r\r", "GET / HTTP/1.1\r\nHost: x\n\n", "GET / HTTP/1.1\r\n\r\r\n",
	} {
		wantRequestFault(t, text, impl.ErrMore)
		wantReadAsReckoned(t, text+"\r\n\r\n")
	}
	for text, code := range map[string]int{
		"GET / HTTP/1.1\n\r\n\r\n": impl.ErrForm, "GET / HTTP/1.1\r\r\n\r\n": impl.ErrForm, "\nGET / HTTP/1.1\r\n\r\n": impl.ErrMethod, "\rGET / HTTP/1.1\r\n\r\n": impl.ErrMethod,
		"GET / HTTP/1.1\r\n\n\r\n\r\n": impl.ErrForm, "GET / HTTP/1.1\r\n\r\r\n\r\n": impl.ErrForm, "GET / HTTP/1.1\nHost: x\r\n\r\n": impl.ErrForm, "GET / HTTP/1.1\rHost: x\r\n\r\n": impl.ErrForm, "\r\r\n\r\n": impl.ErrForm, "\n\r\n\r\n": impl.ErrForm,
	} {
		wantRequestFault(t, text, code)
	}
	for line, value := range map[string]string{"a:\n": "\n", "a:\r": "\r", "a: b\rc ": "b\rc", "a: b\n\nc": "b\n\nc", "a: b\n\r": "b\n\r", "a:\r\rconnection: close": "\r\rconnection: close", "a:\nconnection: close": "\nconnection: close", "a:\ncontent-length: 1": "\ncontent-length: 1", "a: \r b": "\r b"} {
		text := withLines(line)
		wantRequest(t, text, impl.Request{Path: "/a"}, len(text), impl.OK)
		wantHeader(t, text, "a", value, impl.OK)
	}
}

// A line's end at the very beginning ends the first line, which is another one then; the empty line is one behind it.
func TestAnEmptyFirstLine(t *testing.T) {
	for _, text := range []string{"\r\n", "\r\n\r", "\r\nG", "\r\nGET / HTTP/1.1", "\r\nGET / HTTP/1.1\r\n", "\r\nGET / HTTP/1.1\r\n\r", "\r\n" + strings.Repeat("x", 118)} {
		wantRequestFault(t, text, impl.ErrMore)
	}
	for _, text := range []string{"\r\n\r\n", "\r\n\r\nGET / HTTP/1.1\r\n\r\n", "\r\nGET / HTTP/1.1\r\n\r\n", "\r\nHost: edge\r\n\r\n", "\r\n" + strings.Repeat("x", 114) + "\r\n\r\n", "\r\n\r\n" + strings.Repeat("x", 300)} {
		wantRequestFault(t, text, impl.ErrForm)
	}
	for _, text := range []string{"\r\n" + strings.Repeat("x", 119), "\r\n" + strings.Repeat("x", 115) + "\r\n\r\n", "\r\n" + strings.Repeat("x", 300) + "\r\n\r\n"} {
		wantRequestFault(t, text, impl.ErrLong)
	}
}

// wrongHeads have an empty line, and a fault.
func wrongHeads() []string {
	return []string{
		"\r\n\r\n", "x\r\n\r\n", "GET x HTTP/1.1\r\n\r\n", "PUT / HTTP/1.1\r\n\r\n", "PUT / HTTP/1.0\r\nx\r\n\r\n", withLines("x"), withLines(":"), withLines("a: b", "content-length: 1"), withLines("transfer-encoding:"), headOf(getLine, 121), headOf("x\r\n", 121), headOf("PUT / HTTP/1.1\r\n", 150),
	}
}

// Of several faults the one that the document names first counts.
func TestWhichFaultOfARequestComesFirst(t *testing.T) {
	const long, more, form, method = impl.ErrLong, impl.ErrMore, impl.ErrForm, impl.ErrMethod
	fill := "y: " + strings.Repeat("y", 120) + "\r\n"
	for _, c := range []struct {
		text string
		code int
	}{
		{"PUT x HTTP/1.0\r\nx\r\n" + fill, long}, {"PUT x HTTP/1.0\r\nx\r\n" + fill + "\r\n", long}, {"PUT / HTTP/1.1\r\n" + fill, long}, {"PUT / HTTP/1.1\r\n" + fill + "\r\n", long}, {getLine + "x\r\n" + fill, long}, {getLine + "x\r\n" + fill + "\r\n", long}, {getLine + fill + "content-length: 1\r\n\r\n", long},
		{"PUT x HTTP/1.0\r\nx\r\n", more}, {"PUT / HTTP/1.1\r\n:\r\n", more}, {getLine + "content-length: 1\r\n", more},
		{"PUT x HTTP/1.1\r\n\r\n", form}, {"PUT / HTTP/1.0\r\n\r\n", form}, {"PUT  / HTTP/1.1\r\n\r\n", form}, {"PUT x HTTP/1.1\r\nx\r\n\r\n", form}, {"PUT\r\ncontent-length: 1\r\n\r\n", form},
		{"PUT / HTTP/1.1\r\nx\r\n\r\n", method}, {"PUT / HTTP/1.1\r\n:\r\n\r\n", method}, {"PUT / HTTP/1.1\r\ncontent-length: 1\r\n\r\n", method}, {"PUT / HTTP/1.1\r\nconnection: close\r\ntransfer-encoding: 1\r\nx\r\n\r\n", method},
		{withLines("x", "connection: close"), form}, {withLines("connection: close", "x"), form}, {withLines("connection: close", "content-length: 1"), form},
	} {
		wantRequestFault(t, c.text, c.code)
		// No name is looked for ahead of these faults, but one that is too long.
		wantHeader(t, c.text, "connection", "", c.code)
		wantHeader(t, c.text, "none", "", c.code)
		wantHeader(t, c.text, strings.Repeat("n", impl.MaxText), "", c.code)
		wantHeader(t, c.text, strings.Repeat("n", impl.MaxText+1), "", long)
		wantRequestFault(t, c.text+strings.Repeat("x", impl.MaxText), long)
	}
}

func TestHeaderOf(t *testing.T) {
	text := withLines("Host: edge", "b:1", "B: 2", "a b :  c : d  ", "empty:", "blank:    ", "host: other") + "none: x\r\n\r\n"
	for name, want := range map[string]string{
		"host": "edge", "Host": "edge", "HOST": "edge", "hOSt": "edge", "b": "1", "B": "1", "a b ": "c : d", "A B ": "c : d", "empty": "", "Empty": "", "blank": "",
	} {
		wantHeader(t, text, name, want, impl.OK)
	}
	for _, name := range []string{"", " ", ":", "\r\n", "none", "hos", "hostt", "host:", "host ", " host", "host: edge", "a b", "a", "edge", "GET", "get /a http/1.1", "GET /a HTTP/1.1", "1", "\x00", "\xff", "connection", "content-length", "b:1"} {
		wantHeader(t, text, name, "", impl.ErrNone)
	}
	for line, want := range map[string]string{
		"a:": "", "a: ": "", "a:b": "b", "a: b": "b", "a:  b": "b", "a:b ": "b", "a:  b  ": "b", "a: b c ": "b c", "a: b  c": "b  c", "a::": ":", "a: :": ":", "a:b:c": "b:c", "a: b : c ": "b : c", "a:\tb\t": "\tb\t", "a: \t ": "\t", "a:\xc2\xa0": "\xc2\xa0", "a:\x00 ": "\x00", "a: \xff": "\xff", "a:  \xe4 ": "\xe4", "a: A": "A", "a:" + strings.Repeat(" ", 90): "", "a:" + strings.Repeat(" ", 40) + "x" + strings.Repeat(" ", 40): "x",
	} {
		for _, text := range []string{withLines(line), withLines("b: y", line), withLines(line, "A: z"), withLines(line, "b: y")} {
			wantHeader(t, text, "a", want, impl.OK)
			wantHeader(t, text, "A", want, impl.OK)
			wantReadAsReckoned(t, text, "a", "b", "c")
		}
	}
	wantHeader(t, withLines(), "a", "", impl.ErrNone)
	wantHeader(t, withLines(), "", "", impl.ErrNone)
	wantHeader(t, withLines("connection: close"), "CONNECTION", "close", impl.OK)
	wantHeader(t, withLines("\xffa\r: x"), "\xffA\r", "x", impl.OK)
}

func TestSplitPath(t *testing.T) {
	for path, want := range map[string][2]string{
		"/": {"", "/"}, "//": {"", "/"}, "///": {"", "//"}, "////": {"", "///"}, "/a": {"a", "/"}, "/a/": {"a", "/"}, "/a//": {"a", "//"}, "/a/b": {"a", "/b"}, "/a/b/": {"a", "/b/"}, "/a/b/c": {"a", "/b/c"}, "/a//b": {"a", "//b"}, "//a": {"", "/a"}, "//a/": {"", "/a/"}, "//a/b": {"", "/a/b"}, "///a": {"", "//a"},
		"/one.two-three_4/x": {"one.two-three_4", "/x"}, "/./..": {".", "/.."}, "/-": {"-", "/"}, "/_/_": {"_", "/_"}, "/" + strings.Repeat("a", 39): {strings.Repeat("a", 39), "/"}, strings.Repeat("/", 40): {"", strings.Repeat("/", 39)}, "/" + strings.Repeat("a", 38) + "/": {strings.Repeat("a", 38), "/"},
	} {
		wantSplit(t, path, want[0], want[1], impl.OK)
	}
	for _, path := range somePaths() {
		part, rest, code := impl.SplitPath(path)
		if whole := "/" + part + rest; code != impl.OK || strings.Contains(part, "/") || rest[:1] != "/" || whole != path && whole != path+"/" {
			t.Errorf("SplitPath(%q) = %q, %q, %d", path, part, rest, code)
		}
	}
}

// loose is a text in memory of the test's own, which is written over by the second answer.
func loose(t string) (string, func()) {
	bytes := []byte(t)
	return unsafe.String(unsafe.SliceData(bytes), len(bytes)), func() {
		for i := range bytes {
			bytes[i] = '#'
		}
	}
}

// What was answered is new memory: it stays as it is, whatever becomes of the text that was handed in.
func TestWireAnswersShareNothing(t *testing.T) {
	const source = "GET /one/a HTTP/1.1\r\nHost: edge\r\n\r\n"
	text, spoil := loose(source)
	r, _, _ := impl.ReadRequest(text)
	value, _ := impl.HeaderOf(text, "host")
	if text != source {
		t.Errorf("a call wrote into its text: %q", text)
	}
	spoil()
	if r.Path != "/one/a" || value != "edge" {
		t.Errorf("the path became %q, the value %q", r.Path, value)
	}
	for path, want := range map[string][2]string{"/one/a": {"one", "/a"}, "/one": {"one", "/"}, "/one/": {"one", "/"}, "//a": {"", "/a"}} {
		text, spoil := loose(path)
		part, rest, _ := impl.SplitPath(text)
		spoil()
		if part != want[0] || rest != want[1] {
			t.Errorf("the parts of %q became %q, %q", path, part, rest)
		}
	}
	path, spoilPath := loose("/a")
	body, spoilBody := loose("body")
	request, _ := impl.RequestText(impl.Request{Path: path, Close: true})
	reply, _ := impl.ReplyText(200, body, true)
	spoilPath()
	spoilBody()
	if request != "GET /a HTTP/1.1\r\nHost: edge\r\nConnection: close\r\n\r\n" || reply != "HTTP/1.1 200 OK\r\nContent-Length: 4\r\nConnection: close\r\n\r\nbody" {
		t.Errorf("what was written became %q, %q", request, reply)
	}
}

// No integer and no bytes are too odd to be handed in.
func TestOddArgumentsOfWire(t *testing.T) {
	for _, status := range append(otherStatuses(), math.MinInt, math.MaxInt) {
		for _, body := range []string{"", "\x00", "\xff", "\r\n"} {
			want, code := replyWanted(status, body, true)
			wantReply(t, status, body, true, want, code)
		}
	}
	for _, s := range append(append(someTexts(), otherTexts()...), endless()...) {
		wantPath(t, s)
		wantReadAsReckoned(t, s, s)
		wantReadAsReckoned(t, s+"\r\n\r\n", s)
		wantReadAsReckoned(t, getLine+s+"\r\n\r\n", s)
		wantReadAsReckoned(t, withLines("x: "+s, s+": x"), s)
	}
}
