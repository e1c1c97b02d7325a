package tests

import (
	"fmt"
	"math"
	"strings"
	"testing"

	"loop.example/g00370/impl"
)

// This is chapter 13 reckoned once more: a source is run here instruction by instruction, and no machine of the program's is asked.

// judged is all that is told of a source and a path: how it is answered, and what it costs.
type judged struct {
	answer               impl.Answer
	cost                 int
	answerCode, costCode int
}

func judgedWanted(source, path string) judged {
	fault := func(code int) judged { return judged{answerCode: code, costCode: code} }
	switch {
	case len(source) > 65536 || len(path) > 65536:
		return fault(impl.ErrLong)
	case len(source) > 600 || len(path) > 60:
		return fault(impl.ErrRange)
	}
	p, code := impl.CompileSource(source)
	if code != impl.OK {
		return judged{answer: impl.Answer{Status: 500, Body: "form"}}
	}
	m := impl.Machine{State: impl.MaRun, Frames: []impl.CallFrame{frameWanted(p, 0, []impl.Value{word(path)})}}
	count := 0
	for ; m.State == impl.MaRun; count++ {
		if count == 20000 {
			return judged{answer: impl.Answer{Status: 504, Body: "late", Late: true}, costCode: impl.ErrFuel}
		}
		m = stepWanted(p, m)
	}
	status := map[int]int{impl.MaDone: 200, impl.MaThrew: 500}[m.State]
	return judged{answer: impl.Answer{Status: status, Body: textWanted(m.Value)}, cost: count}
}

func ticksForWanted(c impl.Config, tenants, ahead, cost int) (int, int) {
	switch {
	case !rightConfig(c):
		return 0, impl.ErrBad
	case tenants < 1 || tenants > 4 || ahead < 0 || ahead > 1000000 || cost < 0 || cost > 1000000:
		return 0, impl.ErrRange
	}
	turns := 1 // the one that is not used up, behind those that are
	for left := ahead + cost; left >= c.Quantum; left -= c.Quantum {
		turns++
	}
	return turns * tenants, impl.OK
}

// rightReplies are the two that RightReply takes.
func (j judged) rightReplies() [2]string {
	return [2]string{reply(j.answer.Status, j.answer.Body), lastReply(j.answer.Status, j.answer.Body)}
}

func rightReplyWanted(j judged, text string) (bool, int) {
	switch {
	case len(text) > 65536:
		return false, impl.ErrLong
	case j.answerCode != impl.OK:
		return false, j.answerCode
	}
	both := j.rightReplies()
	return text == both[0] || text == both[1], impl.OK
}

func wantRightReply(t *testing.T, source, path, text string, want bool, wantCode int) {
	t.Helper()
	if got, code := impl.RightReply(source, path, text); got != want || code != wantCode {
		t.Errorf("RightReply of %.200q, %.70q, %d bytes %.200q = %v, %d; want %v, %d", source, path, len(text), text, got, code, want, wantCode)
	}
}

// wantToldOf asks all that there is of a source and a path.
func wantToldOf(t *testing.T, source, path string, want judged) {
	t.Helper()
	if a, code := impl.AnswerOf(source, path); a != want.answer || code != want.answerCode {
		t.Errorf("AnswerOf of %d bytes %.200q, %d bytes %.70q = %+v, %d; want %+v, %d", len(source), source, len(path), path, a, code, want.answer, want.answerCode)
	}
	if cost, code := impl.CostOf(source, path); cost != want.cost || code != want.costCode {
		t.Errorf("CostOf of %d bytes %.200q, %d bytes %.70q = %d, %d; want %d, %d", len(source), source, len(path), path, cost, code, want.cost, want.costCode)
	}
	both := want.rightReplies()
	for _, text := range []string{both[0], both[1], both[0] + "\x00", both[1] + both[0], "", "HTTP/1.1 ", reply(503, "full"), longText[:65536], longText} {
		right, code := rightReplyWanted(want, text)
		wantRightReply(t, source, path, text, right, code)
	}
}

// wantJudged holds a source and a path against what is reckoned here, and answers it.
func wantJudged(t *testing.T, source, path string) judged {
	t.Helper()
	want := judgedWanted(source, path)
	wantToldOf(t, source, path, want)
	return want
}

func wantTicksFor(t *testing.T, c impl.Config, tenants, ahead, cost int) int {
	t.Helper()
	want, wantCode := ticksForWanted(c, tenants, ahead, cost)
	got, code := impl.TicksFor(c, tenants, ahead, cost)
	if got != want || code != wantCode {
		t.Errorf("TicksFor of %+v, %d, %d, %d = %d, %d; want %d, %d", c, tenants, ahead, cost, got, code, want, wantCode)
	}
	return got
}

// costing is a source that takes just so many instructions, 2 or more, and answers its path with the status told, 200 or 500.
func costing(cost, status int) string {
	end := map[int]string{200: "return ", 500: "throw "}[status]
	ahead := 0
	body := ""
	if cost >= 60 {
		// A loop takes 6 instructions, and 9 more each time that it goes round.
		rounds := (cost - 12) / 9
		body = fmt.Sprintf("let x = 0; while (x < %d) { x = x + 1; } ", rounds)
		ahead = 6 + 9*rounds
	}
	left := cost - ahead
	body += strings.Repeat("1;", (left-2)/2)
	if left%2 == 1 {
		return body + end + "str(path);"
	}
	return body + end + "path;"
}

func TestCostingSources(t *testing.T) {
	for cost := 2; cost <= 200; cost++ {
		for _, status := range []int{200, 500} {
			want := judged{answer: impl.Answer{Status: status, Body: "/p"}, cost: cost}
			if got := judgedWanted(costing(cost, status), "/p"); got != want {
				t.Errorf("%q is reckoned to %+v; want %+v", costing(cost, status), got, want)
			}
		}
	}
}

// numbersOfWork are those that TicksFor takes at its edges, and others.
func numbersOfWork() []int {
	return append(oddNumbers(), 10, 11, 999, 1000, 1001, 1999, 2000, 19999, 20000, 20001, 999999, 1000000, 1000001, math.MinInt+1, 1<<31, 1<<32+1000000)
}
