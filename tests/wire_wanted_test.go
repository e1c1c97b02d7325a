package tests

import (
	"regexp"
	"strconv"
	"strings"
	"testing"

	"loop.example/g00370/impl"
)

var (
	pathForm      = regexp.MustCompile(`^/[A-Za-z0-9_/.\-]{0,39}$`)
	firstLineForm = regexp.MustCompile(`^([^ ]*) (/[A-Za-z0-9_/.\-]{0,39}) HTTP/1\.1$`)
	headerForm    = regexp.MustCompile(`(?s)^([^:]+): *(.*?) *$`)
)

// headerRead is a line of a request: its name with small letters, and what stands behind the colon.
type headerRead struct{ name, value string }

// requestRead is what the tests' own reader finds at the beginning of a text.
type requestRead struct {
	request impl.Request
	headers []headerRead
	size    int
	code    int
}

// small goes by bytes: a letter beyond a to z is no letter.
func small(t string) string {
	bytes := []byte(t)
	for i, b := range bytes {
		if strings.IndexByte("ABCDEFGHIJKLMNOPQRSTUVWXYZ", b) >= 0 {
			bytes[i] = "abcdefghijklmnopqrstuvwxyz"[b-'A']
		}
	}
	return string(bytes)
}

// headLinesWanted goes through a text byte by byte, up to the first empty line behind the first line; the size is 0 without one.
func headLinesWanted(t string) (lines []string, size int) {
	from := 0
	for i := 1; i < len(t); i++ {
		if t[i-1] != 13 || t[i] != 10 {
			continue
		}
		line := t[from : i-1]
		if line == "" && from > 0 {
			return lines, i + 1
		}
		lines = append(lines, line)
		from = i + 1
	}
	return nil, 0
}

func requestWanted(t string) requestRead {
	if len(t) > 65536 {
		return requestRead{code: impl.ErrLong}
	}
	lines, size := headLinesWanted(t)
	switch {
	case size == 0 && len(t) > 120 || size > 120:
		return requestRead{code: impl.ErrLong}
	case size == 0:
		return requestRead{code: impl.ErrMore}
	}
	first := firstLineForm.FindStringSubmatch(lines[0])
	if first == nil {
		return requestRead{code: impl.ErrForm}
	}
	if first[1] != "GET" {
		return requestRead{code: impl.ErrMethod}
	}
	read := requestRead{request: impl.Request{Path: first[2]}, size: size}
	for _, line := range lines[1:] {
		parts := headerForm.FindStringSubmatch(line)
		if parts == nil || small(parts[1]) == "content-length" || small(parts[1]) == "transfer-encoding" {
			return requestRead{code: impl.ErrForm}
		}
		h := headerRead{small(parts[1]), parts[2]}
		read.headers = append(read.headers, h)
		if h.name == "connection" && small(h.value) == "close" {
			read.request.Close = true
		}
	}
	return read
}

// header is what HeaderOf has to tell of the text that was read.
func (read requestRead) header(name string) (string, int) {
	switch {
	case len(name) > 65536:
		return "", impl.ErrLong
	case read.code != impl.OK:
		return "", read.code
	}
	for _, h := range read.headers {
		if h.name == small(name) {
			return h.value, impl.OK
		}
	}
	return "", impl.ErrNone
}

func splitWanted(t string) (string, string, int) {
	switch {
	case len(t) > 65536:
		return "", "", impl.ErrLong
	case !pathForm.MatchString(t):
		return "", "", impl.ErrForm
	}
	parts := strings.SplitN(t, "/", 3)
	if len(parts) == 2 {
		return parts[1], "/", impl.OK
	}
	return parts[1], "/" + parts[2], impl.OK
}

func requestTextWanted(r impl.Request) (string, int) {
	if !pathForm.MatchString(r.Path) {
		return "", impl.ErrBad
	}
	if r.Close {
		return "GET " + r.Path + " HTTP/1.1\r\nHost: edge\r\nConnection: close\r\n\r\n", impl.OK
	}
	return "GET " + r.Path + " HTTP/1.1\r\nHost: edge\r\n\r\n", impl.OK
}

// statusWords are written out of the document once more.
func statusWords() map[int]string {
	return map[int]string{
		200: "OK", 400: "Bad Request", 404: "Not Found", 431: "Request Header Fields Too Large",
		500: "Internal Server Error", 501: "Not Implemented", 503: "Service Unavailable", 504: "Gateway Timeout",
	}
}

func replyWanted(status int, body string, closes bool) (string, int) {
	word, found := statusWords()[status]
	switch {
	case len(body) > 65536:
		return "", impl.ErrLong
	case !found || len(body) > 80:
		return "", impl.ErrRange
	}
	lines := []string{"HTTP/1.1 " + strconv.Itoa(status) + " " + word, "Content-Length: " + strconv.Itoa(len(body))}
	if closes {
		lines = append(lines, "Connection: close")
	}
	return strings.Join(append(lines, "", body), "\r\n"), impl.OK
}

func wantRequest(t *testing.T, text string, want impl.Request, wantSize, wantCode int) {
	t.Helper()
	r, size, code := impl.ReadRequest(text)
	if r != want || size != wantSize || code != wantCode {
		t.Errorf("ReadRequest(%.150q) = %q, %v, %d, %d; want %q, %v, %d, %d", text, r.Path, r.Close, size, code, want.Path, want.Close, wantSize, wantCode)
	}
}

// wantRequestFault: nothing but the code is told.
func wantRequestFault(t *testing.T, text string, code int) {
	t.Helper()
	wantRequest(t, text, impl.Request{}, 0, code)
}

func wantHeader(t *testing.T, text, name, want string, wantCode int) {
	t.Helper()
	value, code := impl.HeaderOf(text, name)
	if value != want || code != wantCode {
		t.Errorf("HeaderOf(%.150q, %.40q) = %q, %d; want %q, %d", text, name, value, code, want, wantCode)
	}
}

// wantReadAsReckoned is called of thousands of texts: behind a first fault it says nothing, so that this one is found.
func wantReadAsReckoned(t *testing.T, text string, names ...string) requestRead {
	t.Helper()
	want := requestWanted(text)
	if t.Failed() {
		return want
	}
	wantRequest(t, text, want.request, want.size, want.code)
	for _, name := range append(names, "host", "Connection", "none") {
		value, code := want.header(name)
		wantHeader(t, text, name, value, code)
	}
	return want
}

func wantSplit(t *testing.T, path, wantPart, wantRest string, wantCode int) {
	t.Helper()
	part, rest, code := impl.SplitPath(path)
	if part != wantPart || rest != wantRest || code != wantCode {
		t.Errorf("SplitPath(%.60q) = %q, %q, %d; want %q, %q, %d", path, part, rest, code, wantPart, wantRest, wantCode)
	}
}

func wantRequestText(t *testing.T, r impl.Request, want string, wantCode int) {
	t.Helper()
	text, code := impl.RequestText(r)
	if text != want || code != wantCode {
		t.Errorf("RequestText(%.60q, %v) = %.150q, %d; want %.150q, %d", r.Path, r.Close, text, code, want, wantCode)
	}
}

func wantReply(t *testing.T, status int, body string, closes bool, want string, wantCode int) {
	t.Helper()
	text, code := impl.ReplyText(status, body, closes)
	if text != want || code != wantCode {
		t.Errorf("ReplyText(%d, %.90q, %v) = %.200q, %d; want %.200q, %d", status, body, closes, text, code, want, wantCode)
	}
}

// wantPath holds all that looks at paths against whether the text is one.
func wantPath(t *testing.T, path string) {
	t.Helper()
	part, rest, code := splitWanted(path)
	wantSplit(t, path, part, rest, code)
	for _, closes := range []bool{false, true} {
		r := impl.Request{Path: path, Close: closes}
		text, code := requestTextWanted(r)
		wantRequestText(t, r, text, code)
	}
	wantReadAsReckoned(t, "GET "+path+" HTTP/1.1\r\n\r\n")
}
