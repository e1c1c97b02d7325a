package tests

import (
	"fmt"
	"slices"
	"strconv"
	"strings"
	"testing"

	"loop.example/g00370/impl"
)

func otherStatuses() []int {
	list := append(oddNumbers(), -200, -404, 1000, 2000, 1<<32+200, 1<<32+404, 200-1<<32, 200-1<<62)
	for status := range 1000 {
		list = append(list, status)
	}
	return slices.DeleteFunc(list, func(status int) bool { return statusWords()[status] != "" })
}

func TestStatusWord(t *testing.T) {
	for status, word := range statusWords() {
		if got := impl.StatusWord(status); got != word {
			t.Errorf("StatusWord(%d) = %q, want %q", status, got, word)
		}
	}
	for _, status := range otherStatuses() {
		if got := impl.StatusWord(status); got != "" {
			t.Errorf("StatusWord(%d) = %q, want none", status, got)
		}
		for _, body := range []string{"", "x", strings.Repeat("x", 80), strings.Repeat("x", 81)} {
			wantReply(t, status, body, true, "", impl.ErrRange)
			wantReply(t, status, body, false, "", impl.ErrRange)
		}
	}
}

func TestHowRepliesAreWritten(t *testing.T) {
	for _, c := range []struct {
		status int
		body   string
		closes bool
		want   string
	}{
		{200, "", false, "HTTP/1.1 200 OK\r\nContent-Length: 0\r\n\r\n"},
		{200, "", true, "HTTP/1.1 200 OK\r\nContent-Length: 0\r\nConnection: close\r\n\r\n"},
		{404, "none", false, "HTTP/1.1 404 Not Found\r\nContent-Length: 4\r\n\r\nnone"},
		{400, "form", true, "HTTP/1.1 400 Bad Request\r\nContent-Length: 4\r\nConnection: close\r\n\r\nform"},
		{431, "long", true, "HTTP/1.1 431 Request Header Fields Too Large\r\nContent-Length: 4\r\nConnection: close\r\n\r\nlong"},
		{500, "-2147483648", false, "HTTP/1.1 500 Internal Server Error\r\nContent-Length: 11\r\n\r\n-2147483648"},
		{501, "method", true, "HTTP/1.1 501 Not Implemented\r\nContent-Length: 6\r\nConnection: close\r\n\r\nmethod"},
		{503, "full", false, "HTTP/1.1 503 Service Unavailable\r\nContent-Length: 4\r\n\r\nfull"},
		{504, "late", false, "HTTP/1.1 504 Gateway Timeout\r\nContent-Length: 4\r\n\r\nlate"},
		{200, "\r\n\x00\xff\xc3\xa4\r\n\r\n", false, "HTTP/1.1 200 OK\r\nContent-Length: 10\r\n\r\n\r\n\x00\xff\xc3\xa4\r\n\r\n"},
	} {
		wantReply(t, c.status, c.body, c.closes, c.want, impl.OK)
	}
	for status := range statusWords() {
		for size := range 300 {
			for _, closes := range []bool{false, true} {
				body := strings.Repeat("b\r\n", 100)[:size]
				want, code := replyWanted(status, body, closes)
				if (size <= 80) != (code == impl.OK) {
					t.Fatalf("the tests' own reply of %d bytes has %d", size, code)
				}
				wantReply(t, status, body, closes, want, code)
			}
		}
		wantReply(t, status, strings.Repeat("x", impl.MaxText), false, "", impl.ErrRange)
		for _, body := range tooLong() {
			wantReply(t, status, body, true, "", impl.ErrLong)
			wantReply(t, status+1000, body, true, "", impl.ErrLong)
		}
	}
}

// A reply says how long its body is: behind its first empty line just as many bytes stand.
func TestRepliesTellTheirLength(t *testing.T) {
	for status, word := range statusWords() {
		for _, closes := range []bool{false, true} {
			for _, body := range append(someTexts(), "\r\n\r\n", "HTTP/1.1 200 OK\r\n\r\n") {
				text, code := impl.ReplyText(status, body, closes)
				head, rest, _ := strings.Cut(text, "\r\n\r\n")
				lines := strings.Split(head, "\r\n")
				if code != impl.OK || rest != body || lines[0] != fmt.Sprintf("HTTP/1.1 %d %s", status, word) || lines[1] != "Content-Length: "+strconv.Itoa(len(body)) || strings.Contains(head, "Connection: close") != closes {
					t.Errorf("ReplyText(%d, %q, %v) = %q, %d", status, body, closes, text, code)
				}
			}
		}
	}
}
