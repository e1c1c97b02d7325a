package tests

import (
	"fmt"
	"math"
	"slices"
	"strings"
	"testing"

	"loop.example/g00370/impl"
)

// Each of them by hand: the values of each kind, what is thrown, by the source and by a code, and what is no source.
func TestAnswersOfSources(t *testing.T) {
	sixty := strings.Repeat("abcdefghij", 6)
	for _, c := range []struct {
		source, path string
		status       int
		body         string
		cost         int
	}{
		// Values of each kind.
		{"return path;", "/a", 200, "/a", 2},
		{"return path;", "", 200, "", 2},
		{"return path;", "\x00\xff\r\n", 200, "\x00\xff\r\n", 2},
		{"return path;", sixty, 200, sixty, 2},
		{"return '';", "/", 200, "", 2},
		{"return 'it\\'s \\\\';", "/", 200, "it's \\", 2},
		{"return '" + sixty + "';", "/", 200, sixty, 2},
		{"return 7;", "/", 200, "7", 2},
		{"return 0;", "/", 200, "0", 2},
		{"return -7;", "/", 200, "-7", 3},
		{"return 2147483647;", "/", 200, "2147483647", 2},
		{"return -2147483647 - 1;", "/", 200, "-2147483648", 5},
		{"return true;", "/", 200, "true", 2},
		{"return false;", "/", 200, "false", 2},
		{"return null;", "/", 200, "null", 2},
		{"return len(path);", "/ab", 200, "3", 3},
		// None at all: the outmost block gives null.
		{"", "/", 200, "null", 2},
		{" \t\n", "/", 200, "null", 2},
		{"1;", "/", 200, "null", 4},
		{"function f() { }", "/", 200, "null", 2},
		{"if (path) { 1; }", "", 200, "null", 4},
		// Throws of each kind.
		{"throw path;", "/t", 500, "/t", 2},
		{"throw 7;", "/", 500, "7", 2},
		{"throw -7;", "/", 500, "-7", 3},
		{"throw true;", "/", 500, "true", 2},
		{"throw false;", "/", 500, "false", 2},
		{"throw null;", "/", 500, "null", 2},
		{"throw '';", "/", 500, "", 2},
		{"function f(a) { throw a; } f(path); return 1;", "/in", 500, "/in", 4},
		// Codes that are thrown as words.
		{"return 1 / 0;", "/", 500, "range", 3},
		{"return 1 + 'a';", "/", 500, "type", 3},
		{"return path + path;", sixty, 500, "size", 3},
		{"function f(n) { return f(n); } return f(1);", "/", 500, "deep", 12},
		{"try { 1 / 0; } catch (e) { return e; }", "/", 200, "range", 7},
		// Words of other answers are values like others.
		{"return 'form';", "/", 200, "form", 2},
		{"throw 'form';", "/", 500, "form", 2},
		{"return 'late';", "/", 200, "late", 2},
		{"throw 'late';", "/", 500, "late", 2},
		{"return 'full';", "/", 200, "full", 2},
		{"throw 'none';", "/", 500, "none", 2},
		// Sources of which CompileSource has a code, and none of these is run.
		{"let = 1;", "/", 500, "form", 0},
		{"x;", "/", 500, "form", 0},
		{"return x;", "/", 500, "form", 0},
		{"return path; x;", "/a", 500, "form", 0},
		{"return 1", "/", 500, "form", 0},
		{"#", "/", 500, "form", 0},
		{"\xff", "/", 500, "form", 0},
		{"return 01;", "/", 500, "form", 0},
		{"return 'a;", "/", 500, "form", 0},
		{"return len();", "/", 500, "form", 0},
		{"let path = 1;", "/", 500, "form", 0},
		{"function f() { } function f() { }", "/", 500, "form", 0},
		{"function f(a, b, c, d, e) { }", "/", 500, "form", 0},
		{strings.Repeat(";", 300), "/", 500, "form", 0},
		{strings.Repeat("1;", 151), "/", 500, "form", 0},
		{strings.Repeat("{", 21) + strings.Repeat("}", 21), "/", 500, "form", 0},
		{strings.Repeat("x", 600), "/", 500, "form", 0},
		{"while (true) { let = 1; }", "/", 500, "form", 0},
	} {
		want := judged{answer: impl.Answer{Status: c.status, Body: c.body}, cost: c.cost}
		if got := wantJudged(t, c.source, c.path); got != want {
			t.Errorf("%.100q of %.70q is reckoned to %+v; want %+v", c.source, c.path, got, want)
		}
		wantToldOf(t, c.source, c.path, want)
	}
}

// What does not end is late, whatever it does, and has no cost; it hangs on the path whether it is.
func TestAnswersOfSourcesThatDoNotEnd(t *testing.T) {
	late := judged{answer: impl.Answer{Status: 504, Body: "late", Late: true}, costCode: impl.ErrFuel}
	for _, source := range []string{
		"while (true) { }", spinsSource, "while (1) { 1; }", "while (path) { path; }", "while (true) { try { throw 1; } catch (e) { } }",
		"while (true) { try { 1 / 0; } catch (e) { e; } } return 'late';", "function f(n) { while (true) { n = !n; } } return f(1);",
		"function f(n) { return f(n); } while (true) { try { f(1); } catch (e) { e; } }",
		"let x = 0; while (x < 2147483647) { x = x + 1; } return x;", "try { while (true) { } } catch (e) { return e; }",
	} {
		if got := wantJudged(t, source, "/"); got != late {
			t.Errorf("%q is reckoned to %+v", source, got)
		}
		wantToldOf(t, source, "/", late)
	}
	for path, want := range map[string]judged{
		"/t": {answer: impl.Answer{Status: 500, Body: "down"}, cost: 28},
		"/s": late,
		"/r": {answer: impl.Answer{Status: 500, Body: "range"}, cost: 15},
		"/a": {answer: impl.Answer{Status: 200, Body: "/a?"}, cost: 16},
		"":   {answer: impl.Answer{Status: 200, Body: "?"}, cost: 16},
	} {
		if got := wantJudged(t, mixedSource, path); got != want {
			t.Errorf("of %q it is reckoned to %+v; want %+v", path, got, want)
		}
		wantToldOf(t, mixedSource, path, want)
	}
}

// The last instruction that there is fuel for may be the one that ends it; one more is one too many.
func TestAnswersAtTheEndOfTheFuel(t *testing.T) {
	if impl.MaxFuel != 20000 {
		t.Fatalf("MaxFuel is %d", impl.MaxFuel)
	}
	late := judged{answer: impl.Answer{Status: 504, Body: "late", Late: true}, costCode: impl.ErrFuel}
	for _, status := range []int{200, 500} {
		for cost := 19980; cost <= 20020; cost++ {
			source := costing(cost, status)
			want := judged{answer: impl.Answer{Status: status, Body: "/end"}, cost: cost}
			if cost > 20000 {
				want = late
			}
			wantToldOf(t, source, "/end", want)
			m, code := impl.RunSource(source, "/end", impl.MaxFuel)
			if ended := m.State != impl.MaRun; code != impl.OK || ended != (cost <= 20000) || m.Used != min(cost, 20000) {
				t.Errorf("%q comes to %s", source, toldMachine(m))
			}
		}
	}
	// A value that is thrown by a code, and a null that no return gives, at the last instruction and one behind it.
	loop := "let x = 0; while (x < 2221) { x = x + 1; } "
	for source, want := range map[string]judged{
		loop + "!1; 1 / 0;":    late,
		loop + "1; 1 / 0;":     {answer: impl.Answer{Status: 500, Body: "range"}, cost: 20000},
		loop + "1; 1 / 1;":     late,
		loop + "!1;":           {answer: impl.Answer{Status: 200, Body: "null"}, cost: 20000},
		loop + "1; 1;":         late,
		loop + "1; return !1;": {answer: impl.Answer{Status: 200, Body: "false"}, cost: 20000},
		loop + "!1; throw 1;":  {answer: impl.Answer{Status: 500, Body: "1"}, cost: 20000},
		loop + "!1; throw !1;": late,
	} {
		wantToldOf(t, source, "/", want)
	}
}

// An answer is what RunSource and JobReply say of it, and the cost is what RunSource has used, whatever the source is.
func TestAnswersAreThoseOfRuns(t *testing.T) {
	sources := []string{endsSource, throwsSoon, spinsSource, mixedSource, quickSource, wrongSource, "", "while (path) { }", costing(1000, 500)}
	for _, o := range outcomes() {
		sources = append(sources, o.source)
	}
	for _, source := range sources {
		for _, path := range []string{"/p", "/s", "/t", "", strings.Repeat("\xff", 60)} {
			told := wantJudged(t, source, path)
			m, code := impl.RunSource(source, path, impl.MaxFuel)
			if code != impl.OK {
				if told != (judged{answer: impl.Answer{Status: 500, Body: "form"}}) {
					t.Errorf("RunSource of %q: %d, but it is answered by %+v", source, code, told)
				}
				continue
			}
			status, body, code := impl.JobReply(impl.Job{Machine: m})
			switch {
			case code == impl.ErrFuel && told.answer.Late && told.costCode == impl.ErrFuel:
			case code == impl.OK && told.answer == impl.Answer{Status: status, Body: body} && told.cost == m.Used:
			default:
				t.Errorf("RunSource of %q: %s, but it is answered by %+v", source, toldMachine(m), told)
			}
			if meant, code := impl.EvalSource(source, path); code == impl.OK && textWanted(meant.Value) != told.answer.Body {
				t.Errorf("EvalSource of %q: %+v, but it is answered by %+v", source, meant, told)
			}
		}
	}
	for _, o := range outcomes() {
		a, _ := impl.AnswerOf(o.source, "/p")
		if told := map[int]string{200: "done ", 500: "threw "}[a.Status] + a.Body; told != o.want {
			t.Errorf("AnswerOf of %q = %+v; want %q", o.source, a, o.want)
		}
	}
}

// What is too long comes first, of all arguments; then a source of more than 600 bytes, or a path of more than 60; a source that is none behind these.
func TestWhichCodeOfAnAnswerComesFirst(t *testing.T) {
	blanks := func(source string, size int) string { return source + strings.Repeat(" ", size-len(source)) }
	long := blanks("return path;", 65537)
	for what, c := range map[string]struct {
		source, path string
		code         int
	}{
		"a source of 600 bytes":              {blanks("return path;", 600), "/", impl.OK},
		"a path of 60 bytes":                 {"return path;", longText[:60], impl.OK},
		"both":                               {blanks("return path;", 600), longText[:60], impl.OK},
		"a wrong source of 600 bytes":        {blanks("let = 1;", 600), "/", impl.OK},
		"a source of 601 bytes":              {blanks("return path;", 601), "/", impl.ErrRange},
		"a wrong source of 601 bytes":        {blanks("let = 1;", 601), "/", impl.ErrRange},
		"601 bytes of no source":             {longText[:601], "/", impl.ErrRange},
		"601 zeros":                          {strings.Repeat("\x00", 601), "/", impl.ErrRange},
		"a path of 61 bytes":                 {"return path;", longText[:61], impl.ErrRange},
		"a path of 61 bytes, a wrong source": {"let = 1;", longText[:61], impl.ErrRange},
		"a path of 61 bytes, no source":      {"", longText[:61], impl.ErrRange},
		"a path of 61 bytes, one that spins": {"while (true) { }", longText[:61], impl.ErrRange},
		"both too long":                      {longText[:601], longText[:61], impl.ErrRange},
		"a source of MaxText bytes":          {long[:65536], "/", impl.ErrRange},
		"a path of MaxText bytes":            {"return path;", longText[:65536], impl.ErrRange},
		"both of MaxText bytes":              {long[:65536], longText[:65536], impl.ErrRange},
		"a source of one more":               {long, "/", impl.ErrLong},
		"a path of one more":                 {"return path;", longText, impl.ErrLong},
		"a path of one more, a wrong source": {"let = 1;", longText, impl.ErrLong},
		"both of one more":                   {long, longText, impl.ErrLong},
		"a long source, a path of 61":        {long, longText[:61], impl.ErrLong},
		"a source of 601, a long path":       {longText[:601], longText, impl.ErrLong},
		"a great source":                     {strings.Repeat("1;", 1000000), "/", impl.ErrLong},
	} {
		told := wantJudged(t, c.source, c.path)
		if told.answerCode != c.code || told.costCode != c.code || c.code != impl.OK && told != (judged{answerCode: c.code, costCode: c.code}) {
			t.Errorf("%s: %+v; want the code %d", what, told, c.code)
		}
		// A reply that is too long comes ahead of a source or a path that is out of its bounds; one that is not does not.
		for size, code := range map[int]int{0: c.code, 61: c.code, 601: c.code, 65536: c.code, 65537: impl.ErrLong} {
			wantRightReply(t, c.source, c.path, longText[:size], false, code)
		}
		wantRightReply(t, c.source, c.path, reply(200, c.path[:min(len(c.path), 60)]), c.code == impl.OK && told.answer.Status == 200, c.code)
	}
}

// The edges of each number, by hand.
func TestTicksFor(t *testing.T) {
	config := func(quantum int) impl.Config { return impl.Config{Room: 1, Quantum: quantum, Wait: 1} }
	for _, c := range []struct {
		quantum, tenants, ahead, cost int
		want                          int
	}{
		// Alone: a quotient that is whole has one turn more, one that is not is rounded down, and has one more.
		{10, 1, 0, 0, 1}, {10, 1, 0, 1, 1}, {10, 1, 0, 9, 1}, {10, 1, 0, 10, 2}, {10, 1, 0, 11, 2}, {10, 1, 0, 19, 2}, {10, 1, 0, 20, 3}, {10, 1, 0, 100, 11},
		// What is ahead counts like what it takes: the sum is divided, not each of them.
		{10, 1, 9, 0, 1}, {10, 1, 10, 0, 2}, {10, 1, 9, 9, 2}, {10, 1, 5, 5, 2}, {10, 1, 5, 4, 1}, {10, 1, 15, 5, 3}, {10, 1, 15, 4, 2}, {7, 1, 6, 6, 2}, {7, 1, 6, 8, 3},
		// All tenants have a turn each.
		{10, 2, 0, 0, 2}, {10, 3, 0, 0, 3}, {10, 4, 0, 0, 4}, {10, 2, 5, 5, 4}, {10, 3, 15, 10, 9}, {10, 4, 0, 100, 44}, {10, 4, 99, 0, 40}, {10, 4, 99, 1, 44},
		// Quanta at their edges.
		{1, 1, 0, 0, 1}, {1, 1, 0, 1, 2}, {1, 1, 1, 1, 3}, {1, 4, 3, 4, 32}, {1000, 1, 0, 999, 1}, {1000, 1, 0, 1000, 2}, {1000, 1, 1, 999, 2}, {1000, 4, 0, 20000, 84}, {999, 1, 999, 998, 2},
		// Numbers at their edges.
		{1, 1, 1000000, 0, 1000001}, {1, 1, 0, 1000000, 1000001}, {1, 1, 1000000, 1000000, 2000001}, {1, 4, 1000000, 1000000, 8000004}, {1000, 1, 1000000, 1000000, 2001}, {1000, 4, 1000000, 999999, 8000}, {1000, 4, 1000000, 1000000, 8004}, {1000, 4, 1000000, 0, 4004}, {1000, 3, 999999, 0, 3000},
	} {
		if got := wantTicksFor(t, config(c.quantum), c.tenants, c.ahead, c.cost); got != c.want {
			t.Errorf("TicksFor by %d of %d tenants, %d and %d = %d; want %d", c.quantum, c.tenants, c.ahead, c.cost, got, c.want)
		}
	}
	// Room and Wait have no part in it.
	for _, c := range []impl.Config{{Room: 4, Quantum: 10, Wait: 1000}, {Room: 2, Quantum: 10, Wait: 1}, {Room: 1, Quantum: 10, Wait: 12}} {
		if got := wantTicksFor(t, c, 3, 15, 10); got != 9 {
			t.Errorf("TicksFor of %+v = %d", c, got)
		}
	}
}

func TestTicksForOfWrongNumbers(t *testing.T) {
	right := impl.Config{Room: 2, Quantum: 40, Wait: 12}
	want := func(c impl.Config, tenants, ahead, cost, wantTicks, wantCode int) {
		t.Helper()
		wantTicksFor(t, c, tenants, ahead, cost)
		if got, code := impl.TicksFor(c, tenants, ahead, cost); got != wantTicks || code != wantCode {
			t.Errorf("TicksFor of %+v, %d, %d, %d = %d, %d; want %d, %d", c, tenants, ahead, cost, got, code, wantTicks, wantCode)
		}
	}
	for _, tenants := range []int{0, -1, 5, 6, 100, math.MinInt, math.MaxInt, 1 << 32, 1<<32 + 1, 1<<32 + 4} {
		want(right, tenants, 0, 0, 0, impl.ErrRange)
		want(right, tenants, 1000000, 1000000, 0, impl.ErrRange)
		want(right, tenants, -1, 1000001, 0, impl.ErrRange)
	}
	for _, n := range []int{-1, -2, -40, 1000001, 1000002, math.MinInt, math.MaxInt, math.MaxInt - 1, 1 << 32, 1<<32 + 1, -1 << 32} {
		for tenants := 1; tenants <= 4; tenants++ {
			for _, other := range []int{0, 1, 40, 1000000, -n, n} {
				want(right, tenants, n, other, 0, impl.ErrRange)
				want(right, tenants, other, n, 0, impl.ErrRange)
			}
		}
	}
	// A Config that is not right comes first, in whatever way it is not.
	for what, c := range map[string]impl.Config{
		"nothing": {}, "Room 0": {Quantum: 40, Wait: 12}, "Room 5": {Room: 5, Quantum: 40, Wait: 12}, "Room -1": {Room: -1, Quantum: 40, Wait: 12}, "a great Room": {Room: math.MaxInt, Quantum: 40, Wait: 12}, "a least Room": {Room: math.MinInt, Quantum: 40, Wait: 12},
		"Quantum 0": {Room: 2, Wait: 12}, "Quantum -1": {Room: 2, Quantum: -1, Wait: 12}, "Quantum 1001": {Room: 2, Quantum: 1001, Wait: 12}, "a great Quantum": {Room: 2, Quantum: math.MaxInt, Wait: 12}, "a least Quantum": {Room: 2, Quantum: math.MinInt, Wait: 12}, "Quantum 0 alone": {Room: 4, Wait: 1000},
		"Wait 0": {Room: 2, Quantum: 40}, "Wait -1": {Room: 2, Quantum: 40, Wait: -1}, "Wait 1001": {Room: 2, Quantum: 40, Wait: 1001}, "a great Wait": {Room: 2, Quantum: 40, Wait: math.MaxInt}, "a least Wait": {Room: 2, Quantum: 40, Wait: math.MinInt},
	} {
		if impl.ConfigOK(c) {
			t.Errorf("%s is right", what)
		}
		for _, n := range [][3]int{{1, 0, 0}, {4, 1000000, 1000000}, {0, 0, 0}, {5, 0, 0}, {1, -1, 0}, {1, 0, 1000001}, {math.MinInt, math.MaxInt, math.MinInt}} {
			want(c, n[0], n[1], n[2], 0, impl.ErrBad)
		}
	}
	numbers := numbersOfWork()
	for _, n := range numbers {
		for _, other := range numbers {
			for _, tenants := range oddNumbers() {
				wantTicksFor(t, impl.Config{Room: 4, Quantum: 1000, Wait: 1}, tenants, n, other)
			}
			wantTicksFor(t, impl.Config{Room: n, Quantum: other, Wait: 12}, 2, 15, 10)
			wantTicksFor(t, impl.Config{Room: 1, Quantum: n, Wait: other}, 2, 15, 10)
		}
	}
}

// Each Quantum, and sums around each of its multiples.
func TestTicksForOfEachQuantum(t *testing.T) {
	for quantum := 1; quantum <= 1000; quantum++ {
		c := impl.Config{Room: 1, Quantum: quantum, Wait: 1}
		for _, turns := range []int{1, 2, 3, 7, 20} {
			for tenants := 1; tenants <= 4; tenants++ {
				whole := turns * quantum
				for _, ahead := range []int{0, min(1, whole-1), whole / 2 % whole, whole - 1} {
					below, at, above := wantTicksFor(t, c, tenants, ahead, whole-1-ahead), wantTicksFor(t, c, tenants, ahead, whole-ahead), wantTicksFor(t, c, tenants, whole+quantum-1-ahead, ahead)
					if below != tenants*turns || at != tenants*(turns+1) || above != at {
						t.Fatalf("TicksFor by %d of %d tenants around %d = %d, %d, %d", quantum, tenants, whole, below, at, above)
					}
				}
			}
		}
	}
}

// spoiltReplies are the right ones with one thing changed: each byte, each length, and what may be taken for alike.
func spoiltReplies(status int, body string) []string {
	var list []string
	for _, right := range []string{reply(status, body), lastReply(status, body)} {
		for i := range right {
			for _, b := range []byte{0, ' ', '0', 'x', '\n', 255, right[i] + 1, right[i] ^ 32} {
				if b != right[i] {
					list = append(list, right[:i]+string([]byte{b})+right[i+1:])
				}
			}
			list = append(list, right[:i], right[i+1:], right[:i]+" "+right[i:])
			if i > 0 {
				list = append(list, right[i:], right[:i]+right[i+1:])
			}
		}
		list = append(list, right+" ", right+"\r\n", right+right, " "+right, strings.ToLower(right), strings.ToUpper(right), strings.ReplaceAll(right, "\r\n", "\n"))
		list = append(list, strings.Replace(right, "\r\n\r\n", "\r\nConnection: keep-alive\r\n\r\n", 1), strings.Replace(right, "\r\n\r\n", "\r\nConnection: close\r\nConnection: close\r\n\r\n", 1))
	}
	first, rest, _ := strings.Cut(reply(status, body), "\r\n")
	list = append(list, first+"\r\nConnection: close\r\n"+rest, body, first, rest, "")
	for other := range statusWords() {
		if other != status {
			list = append(list, reply(other, body), lastReply(other, body))
		}
	}
	for _, other := range []string{body + "0", "0" + body, "late", "form", "full", "none", "null"} {
		if other != body {
			list = append(list, reply(status, other), lastReply(status, other))
		}
	}
	return slices.DeleteFunc(list, func(text string) bool { return text == reply(status, body) || text == lastReply(status, body) })
}

// There are just two replies that are right: the one that closes and the one that does not.
func TestRightReply(t *testing.T) {
	t.Parallel()
	for _, c := range []struct {
		source, path string
		status       int
		body         string
	}{
		{quickSource, "/a", 200, "/a"}, {quickSource, "", 200, ""}, {quickSource, "HTTP/1.1 200 OK\r\n\r\n", 200, "HTTP/1.1 200 OK\r\n\r\n"}, {quickSource, strings.Repeat("z", 60), 200, strings.Repeat("z", 60)},
		{"", "/", 200, "null"}, {"return -12;", "/", 200, "-12"}, {throwsSoon, "/abc", 500, "4"}, {"throw 'late';", "/", 500, "late"},
		{wrongSource, "/", 500, "form"}, {"throw 'form';", "/", 500, "form"},
	} {
		wantRightReply(t, c.source, c.path, reply(c.status, c.body), true, impl.OK)
		wantRightReply(t, c.source, c.path, lastReply(c.status, c.body), true, impl.OK)
		for _, text := range spoiltReplies(c.status, c.body) {
			wantRightReply(t, c.source, c.path, text, false, impl.OK)
			if t.Failed() {
				return
			}
		}
	}
	for _, text := range []string{"", reply(504, "late") + " ", reply(504, ""), reply(504, "Late"), reply(200, "late"), reply(500, "late"), reply(503, "late"), reply(503, "full"), reply(500, "fuel"), reply(404, "none"), reply(504, "late")[:30], lastReply(504, "late")[1:]} {
		wantRightReply(t, spinsSource, "/", text, false, impl.OK)
	}
	wantRightReply(t, spinsSource, "/", reply(504, "late"), true, impl.OK)
	wantRightReply(t, spinsSource, "/", lastReply(504, "late"), true, impl.OK)
	// It is that of its own path, and of its own source.
	wantRightReply(t, quickSource, "/a", reply(200, "/b"), false, impl.OK)
	wantRightReply(t, endsSource, "/a", reply(200, "/a"), false, impl.OK)
}

// Texts that were handed in may become others: what was answered stays as it is.
func TestAnswersAreTheirOwn(t *testing.T) {
	for source, want := range map[string]impl.Answer{
		"return path;":            {Status: 200, Body: "/path"},
		"throw path;":             {Status: 500, Body: "/path"},
		"return 'a text';":        {Status: 200, Body: "a text"},
		"throw 'a text';":         {Status: 500, Body: "a text"},
		"return cut(path, 1, 3);": {Status: 200, Body: "pa"},
		"return path + '';":       {Status: 200, Body: "/path"},
		"let x = path; return x;": {Status: 200, Body: "/path"},
		"function f(a) { return a; } return f('it\\'s');": {Status: 200, Body: "it's"},
		"return max(7, 8);": {Status: 200, Body: "8"},
		"while (path) { }":  {Status: 504, Body: "late", Late: true},
		"let = 1;":          {Status: 500, Body: "form"},
	} {
		own, spoilSource := loose(source)
		path, spoilPath := loose("/path")
		text, spoilText := loose(reply(want.Status, want.Body))
		first, code := impl.AnswerOf(own, path)
		cost, costCode := impl.CostOf(own, path)
		right, rightCode := impl.RightReply(own, path, text)
		if own != source || path != "/path" || text != reply(want.Status, want.Body) {
			t.Errorf("a call wrote into %q, %q, %q", own, path, text)
		}
		spoilSource()
		spoilPath()
		spoilText()
		if first != want || code != impl.OK || !right || rightCode != impl.OK {
			t.Errorf("AnswerOf of %q = %+v, %d; want %+v; its reply is right: %v, %d", source, first, code, want, right, rightCode)
		}
		if again, againCode := impl.CostOf(source, "/path"); cost != again || costCode != againCode {
			t.Errorf("CostOf of %q = %d, %d; then %d, %d", source, cost, costCode, again, againCode)
		}
	}
}

// oracleCalls are calls of chapter 13, ordinary and wrong ones.
func oracleCalls() []func() string {
	var calls []func() string
	texts := []string{"", reply(200, "/a"), lastReply(200, "/a"), reply(500, "form"), reply(504, "late"), "x", longText[:65536], longText}
	for _, source := range []string{"", "#", quickSource, throwsSoon, "while (path) { }", mixedSource, strings.Repeat(" ", 600), strings.Repeat(" ", 601), longText} {
		for _, path := range []string{"", "/a", "/t", longText[:60], longText[:61], longText} {
			calls = append(calls,
				func() string { return fmt.Sprint(impl.AnswerOf(source, path)) },
				func() string { return fmt.Sprint(impl.CostOf(source, path)) })
			for _, text := range texts {
				calls = append(calls, func() string { return fmt.Sprint(impl.RightReply(source, path, text)) })
			}
		}
	}
	for _, c := range []impl.Config{{}, {Room: 2, Quantum: 9, Wait: 4}, {Room: 4, Quantum: 1000, Wait: 1000}, {Room: 5, Quantum: 1, Wait: 1}} {
		for tenants := range 6 {
			for _, n := range []int{-1, 0, 9, 1000000, 1000001, math.MaxInt, math.MinInt} {
				calls = append(calls, func() string { return fmt.Sprint(impl.TicksFor(c, tenants, n, 9)) }, func() string { return fmt.Sprint(impl.TicksFor(c, tenants, 15, n)) })
			}
		}
	}
	return calls
}
