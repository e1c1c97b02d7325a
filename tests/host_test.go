package tests

import (
	"fmt"
	"math"
	"slices"
	"strings"
	"testing"

	"loop.example/g00370/impl"
)

const (
	// quickSource takes 2 instructions, and answers its path.
	quickSource = "return path;"
	wrongSource = "let = 1;"
)

// scene is a host to which one thing happens behind the other: each answer is held against what is reckoned, and the host has to stay right.
type scene struct {
	*testing.T
	host impl.Host
}

func newScene(t *testing.T, c impl.Config, namesAndSources ...string) *scene {
	t.Helper()
	var names, sources []string
	for pair := range slices.Chunk(namesAndSources, 2) {
		names, sources = append(names, pair[0]), append(sources, pair[1])
	}
	h, code := wantNewHost(t, c, names, sources)
	if code != impl.OK {
		t.Fatalf("NewHost of %+v, %q: %d", c, names, code)
	}
	return &scene{t, h}
}

func (s *scene) goOn(what string, got happened, want []impl.Sent) {
	s.Helper()
	if got.code != impl.OK || !slices.Equal(got.sent, want) {
		s.Errorf("%.80s: code %d, sent%s; want%s", what, got.code, toldSent(got.sent), toldSent(want))
	}
	if wantHostOK(s.T, got.host); !impl.HostOK(got.host) {
		s.Fatalf("%.80s: the host is not right any more:\n%s", what, toldHost(got.host))
	}
	s.host = got.host
}

func (s *scene) open(conns ...int) {
	s.Helper()
	for _, k := range conns {
		next, code := wantHostOpen(s.T, s.host, k)
		s.goOn(fmt.Sprint("HostOpen of ", k), happened{host: next, code: code}, nil)
	}
}

func (s *scene) shut(k int) {
	s.Helper()
	next, code := wantHostClose(s.T, s.host, k)
	s.goOn(fmt.Sprint("HostClose of ", k), happened{host: next, code: code}, nil)
}

func (s *scene) bytes(k int, text string, want ...impl.Sent) {
	s.Helper()
	s.goOn(fmt.Sprintf("HostBytes of %d %q", k, text), wantHostBytes(s.T, s.host, k, text), want)
}

func (s *scene) get(k int, path string, want ...impl.Sent) {
	s.Helper()
	s.bytes(k, requestOf(path, false), want...)
}

// last is a request with Close.
func (s *scene) last(k int, path string, want ...impl.Sent) {
	s.Helper()
	s.bytes(k, requestOf(path, true), want...)
}

func (s *scene) tick(want ...impl.Sent) {
	s.Helper()
	s.goOn(fmt.Sprintf("HostTick at %d", s.host.Now), wantHostTick(s.T, s.host), want)
}

// words has the word of each connection, and what they shall be.
func (s *scene) words(want string) {
	s.Helper()
	var words []string
	for k := range 4 {
		words = append(words, wantConnWord(s.T, s.host, k))
	}
	if got := strings.Join(words, " "); got != want {
		s.Errorf("the connections are %s; want %s", got, want)
	}
}

// jobs has how many jobs each tenant has.
func (s *scene) jobs(want ...int) {
	s.Helper()
	var counts []int
	for _, x := range s.host.Tenants {
		counts = append(counts, len(x.Queue))
	}
	if !slices.Equal(counts, want) {
		s.Errorf("the tenants have %v jobs, want %v", counts, want)
	}
}

func (s *scene) fuel(want ...int) {
	s.Helper()
	var counts []int
	for _, x := range s.host.Tenants {
		counts = append(counts, x.Fuel)
	}
	if !slices.Equal(counts, want) {
		s.Errorf("the tenants have had %v instructions, want %v", counts, want)
	}
}

func reply(status int, body string) string {
	text, _ := replyWanted(status, body, false)
	return text
}

// lastReply is one that closes.
func lastReply(status int, body string) string {
	text, _ := replyWanted(status, body, true)
	return text
}

// out is what is sent to a connection that stays open.
func out(k int, replies ...string) impl.Sent {
	return impl.Sent{Conn: k, Bytes: strings.Join(replies, "")}
}

// outAndShut is what is sent to a connection that closes.
func outAndShut(k int, replies ...string) impl.Sent {
	return impl.Sent{Conn: k, Bytes: strings.Join(replies, ""), Shut: true}
}

func TestHostConstantsAreTheDocuments(t *testing.T) {
	if impl.MaxNow != 50000 {
		t.Errorf("MaxNow is %d", impl.MaxNow)
	}
}

func TestConfigOK(t *testing.T) {
	numbers := append(oddNumbers(), 4, 5, 6, 10, 999, 1000, 1001, 1002, 1<<32+1, 1<<32+4, 1-1<<32)
	for _, n := range numbers {
		small, great := n >= 1 && n <= 4, n >= 1 && n <= 1000
		for _, c := range []struct {
			config impl.Config
			want   bool
		}{
			{impl.Config{Room: n, Quantum: 1, Wait: 1}, small}, {impl.Config{Room: n, Quantum: 1000, Wait: 1000}, small},
			{impl.Config{Room: 1, Quantum: n, Wait: 1}, great}, {impl.Config{Room: 4, Quantum: n, Wait: 1000}, great},
			{impl.Config{Room: 1, Quantum: 1, Wait: n}, great}, {impl.Config{Room: 4, Quantum: 1000, Wait: n}, great},
			{impl.Config{Room: n, Quantum: n, Wait: n}, small}, {impl.Config{Room: n, Quantum: 0, Wait: 1}, false}, {impl.Config{Room: n}, false},
		} {
			if got := impl.ConfigOK(c.config); got != c.want || rightConfig(c.config) != c.want {
				t.Errorf("ConfigOK of %+v = %v", c.config, got)
			}
			h, code := wantNewHost(t, c.config, []string{"one"}, []string{quickSource})
			if (code == impl.OK) != c.want || code != impl.OK && code != impl.ErrBad || c.want && h.Config != c.config {
				t.Errorf("NewHost of %+v: %d", c.config, code)
			}
			h, _ = impl.NewHost(impl.Config{Room: 1, Quantum: 1, Wait: 1}, []string{"one"}, []string{quickSource})
			h.Config = c.config
			if wantHostOK(t, h); impl.HostOK(h) != c.want {
				t.Errorf("HostOK with %+v = %v", c.config, !c.want)
			}
		}
	}
}

// A new host has one to four tenants, ready and failed ones, and four connections of which none is Open.
func TestNewHosts(t *testing.T) {
	names := []string{"one", "eightabc", "_", "Two"}
	sources := []string{quickSource, wrongSource, "", spinsSource}
	for _, c := range []impl.Config{{Room: 1, Quantum: 1, Wait: 1}, {Room: 2, Quantum: 40, Wait: 12}, {Room: 4, Quantum: 1000, Wait: 1000}} {
		for count := 1; count <= 4; count++ {
			for first := range 4 {
				var someNames, someSources []string
				for k := range count {
					someNames, someSources = append(someNames, names[(first+k)%4]), append(someSources, sources[(first+k)%4])
				}
				h, code := wantNewHost(t, c, someNames, someSources)
				if code != impl.OK || h.Config != c || len(h.Tenants) != count || h.Turn != 0 || h.Now != 0 || h.Ids != 0 || !impl.HostOK(h) {
					t.Errorf("NewHost: %s\ncode %d", toldHost(h), code)
				}
				for k, x := range h.Tenants {
					failed := someSources[k] == wrongSource
					if x.Name != someNames[k] || x.Source != someSources[k] || (x.State == impl.TeFailed) != failed || len(x.Queue) != 0 || x.Fuel != 0 {
						t.Errorf("tenant %d is %s", k, toldTenant(x))
					}
				}
				s := scene{t, h}
				s.words("shut shut shut shut")
				if _, code := impl.TurnOf(h); code != impl.ErrNone {
					t.Errorf("TurnOf: %d", code)
				}
			}
		}
	}
	h, _ := wantNewHost(t, impl.Config{Room: 2, Quantum: 9, Wait: 5}, names, sources)
	wantHostAnswers(t, h)
}

// Of several faults the first one is told: what is too long, then the Config, then how many there are, then each name with its source in turn.
func TestHostsThatAreNotMade(t *testing.T) {
	right, wrong := impl.Config{Room: 1, Quantum: 1, Wait: 1}, impl.Config{Room: 5, Quantum: 1, Wait: 1}
	list := func(count int, text string) []string { return slices.Repeat([]string{text}, count) }
	great := strings.Repeat(" ", 601)
	for what, c := range map[string]struct {
		config         impl.Config
		names, sources []string
		code           int
	}{
		"too many names":                          {right, list(4097, "a"), list(1, ""), impl.ErrLong},
		"too many sources":                        {right, list(1, "a"), list(4097, ""), impl.ErrLong},
		"too many names, a wrong Config":          {wrong, list(4097, "a"), nil, impl.ErrLong},
		"too many sources, a wrong Config":        {wrong, nil, list(100000, ""), impl.ErrLong},
		"as many names as a list has":             {right, list(4096, "a"), list(4096, ""), impl.ErrCount},
		"as many names, a wrong Config":           {wrong, list(4096, "a"), list(4096, ""), impl.ErrBad},
		"a wrong Config":                          {wrong, list(1, "a"), list(1, ""), impl.ErrBad},
		"no Config":                               {impl.Config{}, list(1, "a"), list(1, ""), impl.ErrBad},
		"a wrong Config, no names":                {wrong, nil, nil, impl.ErrBad},
		"a wrong Config, a name twice":            {wrong, list(2, "a"), list(2, ""), impl.ErrBad},
		"a wrong Config, a wrong name":            {wrong, list(1, "9"), list(1, ""), impl.ErrBad},
		"no names":                                {right, nil, nil, impl.ErrCount},
		"empty lists":                             {right, []string{}, []string{}, impl.ErrCount},
		"no names, a source":                      {right, nil, list(1, ""), impl.ErrCount},
		"no sources":                              {right, list(1, "a"), nil, impl.ErrCount},
		"five names":                              {right, []string{"a", "b", "c", "d", "e"}, list(5, ""), impl.ErrCount},
		"five names, four sources":                {right, []string{"a", "b", "c", "d", "e"}, list(4, ""), impl.ErrCount},
		"four names, five sources":                {right, []string{"a", "b", "c", "d"}, list(5, ""), impl.ErrCount},
		"four names, three sources":               {right, []string{"a", "b", "c", "d"}, list(3, ""), impl.ErrCount},
		"two names, one source":                   {right, []string{"a", "b"}, list(1, ""), impl.ErrCount},
		"five names, all alike":                   {right, list(5, "a"), list(5, ""), impl.ErrCount},
		"two wrong names, one source":             {right, list(2, "9"), list(1, great), impl.ErrCount},
		"a wrong name":                            {right, list(1, "9"), list(1, ""), impl.ErrRange},
		"an empty name":                           {right, list(1, ""), list(1, ""), impl.ErrRange},
		"a name of 9 bytes":                       {right, list(1, "ninechars"), list(1, ""), impl.ErrRange},
		"a name of more than MaxText bytes":       {right, list(1, longText), list(1, ""), impl.ErrRange},
		"a source of 601 bytes":                   {right, list(1, "a"), list(1, great), impl.ErrRange},
		"a source of more than MaxText bytes":     {right, list(1, "a"), list(1, longText), impl.ErrRange},
		"a last name that is wrong":               {right, []string{"a", "b", "c", "d e"}, list(4, ""), impl.ErrRange},
		"a last source that is too long":          {right, []string{"a", "b", "c", "d"}, []string{"", "", "", great}, impl.ErrRange},
		"a name twice":                            {right, list(2, "a"), list(2, ""), impl.ErrTwice},
		"a name twice, the first and the last":    {right, []string{"a", "b", "c", "a"}, list(4, ""), impl.ErrTwice},
		"a name twice, the last two":              {right, []string{"a", "b", "c", "c"}, list(4, ""), impl.ErrTwice},
		"a name twice, of failed ones":            {right, list(2, "a"), list(2, "#"), impl.ErrTwice},
		"a name twice, then a wrong one":          {right, []string{"a", "a", "9"}, list(3, ""), impl.ErrTwice},
		"a name twice, then a long source":        {right, []string{"a", "a", "b"}, []string{"", "", great}, impl.ErrTwice},
		"a wrong name, then one twice":            {right, []string{"9", "a", "a"}, list(3, ""), impl.ErrRange},
		"a wrong name twice":                      {right, list(2, "9"), list(2, ""), impl.ErrRange},
		"a name twice, with a long source there":  {right, list(2, "a"), []string{"", great}, impl.ErrRange},
		"a name twice, with a long source before": {right, list(2, "a"), []string{great, ""}, impl.ErrRange},
		"names alike but for a letter":            {right, []string{"a", "A", "b", "B"}, list(4, ""), impl.OK},
		"names that begin alike":                  {right, []string{"a", "aa", "aaa", "aaaaaaaa"}, list(4, ""), impl.OK},
		"sources alike":                           {right, []string{"a", "b"}, list(2, quickSource), impl.OK},
	} {
		h, code := wantNewHost(t, c.config, c.names, c.sources)
		if code != c.code || code != impl.OK && !sameHost(h, impl.Host{}) || (code == impl.OK) != impl.HostOK(h) {
			t.Errorf("%s: code %d, want %d:\n%s", what, code, c.code, toldHost(h))
		}
	}
}

func TestConnectionsOpenAndClose(t *testing.T) {
	s := newScene(t, impl.Config{Room: 1, Quantum: 5, Wait: 5}, "one", quickSource)
	s.open(2)
	s.words("shut shut idle shut")
	for _, k := range []int{0, 1, 3} {
		s.open(k)
	}
	s.words("idle idle idle idle")
	for k := range 4 {
		same, code := impl.HostOpen(s.host, k)
		wantHost(t, "HostOpen of one that is Open", same, code, s.host, impl.ErrTwice)
	}
	s.shut(1)
	s.words("idle shut idle idle")
	for range 2 {
		same, code := impl.HostClose(s.host, 1)
		wantHost(t, "HostClose of one that is not", same, code, s.host, impl.ErrShut)
		for _, text := range []string{"", "x", requestOf("/one", false), longText[:401], longText[:65536]} {
			same, sent, code := impl.HostBytes(s.host, 1, text)
			wantHost(t, "HostBytes of one that is not Open", same, code, s.host, impl.ErrShut)
			if len(sent) != 0 {
				t.Errorf("HostBytes of one that is not Open: sent%s", toldSent(sent))
			}
		}
	}
	s.open(1)
	s.words("idle idle idle idle")
	wantHostAnswers(t, s.host)
}

// Of a connection that is opened again the numbers go on, whoever closed it; bytes that were not read are gone.
func TestNumbersGoOn(t *testing.T) {
	s := newScene(t, impl.Config{Room: 1, Quantum: 5, Wait: 5}, "one", quickSource)
	next := func(want int) {
		t.Helper()
		if c := s.host.Conns[3]; c.Next != want {
			t.Errorf("Next is %d, want %d", c.Next, want)
		}
	}
	s.open(3)
	next(0)
	s.get(3, "/none", out(3, reply(404, "none")))
	s.get(3, "/one")
	s.bytes(3, "GET /on")
	next(2)
	s.shut(3)
	wantConn(t, "closed", s.host.Conns[3], impl.OK, impl.Conn{Next: 2}, impl.OK)
	s.open(3)
	wantConn(t, "opened", s.host.Conns[3], impl.OK, impl.Conn{Open: true, Next: 2}, impl.OK)
	s.last(3, "/none", outAndShut(3, lastReply(404, "none")))
	wantConn(t, "closed by its last reply", s.host.Conns[3], impl.OK, impl.Conn{Next: 3}, impl.OK)
	s.open(3)
	s.bytes(3, "junk\r\n\r\n", outAndShut(3, lastReply(400, "form")))
	next(4)
	s.open(3)
	s.get(3, "/one/a")
	next(5)
	if j := s.host.Tenants[0].Queue[0]; j.Seq != 4 || j.Conn != 3 || j.Id != 1 {
		t.Errorf("the job is%s", toldJobs(s.host.Tenants[0].Queue))
	}
	s.tick(out(3, reply(200, "/a")))
	for k := range 3 {
		if c := s.host.Conns[k]; !sameConn(c, impl.Conn{}) {
			t.Errorf("connection %d is %s", k, toldConn(c))
		}
	}
}

// The first part of a path is the tenant's name, the second one the path of the job.
func TestTheWayOfARequest(t *testing.T) {
	for _, closes := range []bool{false, true} {
		for path, want := range map[string]string{
			"/one": "/", "/one/": "/", "/one/a": "/a", "/one/a/b": "/a/b", "/one//": "//", "/one//a": "//a", "/one/one": "/one", "/one/.-_": "/.-_", "/one/" + strings.Repeat("x", 35): "/" + strings.Repeat("x", 35),
			"/": "", "//": "", "//one": "", "/on": "", "/onee": "", "/One": "", "/ONE/a": "", "/one.": "", "/one-/a": "", "/none/x": "", "/_": "", "/" + strings.Repeat("o", 39): "", strings.Repeat("/", 40): "",
		} {
			s := newScene(t, impl.Config{Room: 4, Quantum: 1, Wait: 9}, "zero", spinsSource, "one", quickSource)
			s.open(1, 2)
			s.tick()
			s.tick()
			s.get(1, "/one/first")
			sent := []impl.Sent{}
			switch {
			case want == "" && closes:
				sent = append(sent, outAndShut(2, lastReply(404, "none")))
			case want == "":
				sent = append(sent, out(2, reply(404, "none")))
			}
			s.bytes(2, requestOf(path, closes), sent...)
			queue := s.host.Tenants[1].Queue
			if want == "" {
				if len(queue) != 1 || s.host.Ids != 1 {
					t.Errorf("%q: %s", path, toldHost(s.host))
				}
				continue
			}
			job := impl.Job{Id: 1, Conn: 2, Seq: 0, Path: want, Since: 2}
			if len(queue) != 2 || !sameJob(queue[1], job) || s.host.Ids != 2 || len(s.host.Tenants[0].Queue) != 0 {
				t.Errorf("%q: %s", path, toldHost(s.host))
			}
		}
	}
}

// What a request is answered at once: it needs no tick, takes no Id and leaves no job; the reply closes with the request's Close alone.
func TestRepliesAtOnce(t *testing.T) {
	for _, c := range []struct {
		path, body string
		status     int
	}{
		{"/none/x", "none", 404}, {"/", "none", 404}, {"/bad", "form", 500}, {"/bad/x", "form", 500}, {"/two", "full", 503}, {"/two/x/y", "full", 503},
	} {
		s := newScene(t, impl.Config{Room: 2, Quantum: 5, Wait: 5}, "one", quickSource, "bad", wrongSource, "two", spinsSource)
		s.open(0, 1)
		s.get(0, "/two/a")
		s.get(0, "/two/b")
		s.jobs(0, 0, 2)
		for range 8 {
			s.get(1, c.path, out(1, reply(c.status, c.body)))
		}
		s.last(1, c.path, outAndShut(1, lastReply(c.status, c.body)))
		s.words("waiting shut shut shut")
		s.jobs(0, 0, 2)
		if s.host.Ids != 2 || s.host.Conns[1].Next != 9 {
			t.Errorf("%q: %s", c.path, toldHost(s.host))
		}
	}
	// One that failed is told ahead of whether there is room, and whether there are Ids.
	s := newScene(t, impl.Config{Room: 1, Quantum: 5, Wait: 5}, "bad", wrongSource)
	s.open(0)
	s.host.Ids = 100000
	s.get(0, "/bad", out(0, reply(500, "form")))
	s.get(0, "/good", out(0, reply(404, "none")))
}

// With each Room just as many jobs wait, of whatever connections; one more is shed until one has gone.
func TestRoomForJobs(t *testing.T) {
	for room := 1; room <= 4; room++ {
		s := newScene(t, impl.Config{Room: room, Quantum: 2, Wait: 100}, "one", quickSource, "two", quickSource)
		s.open(0, 1, 2, 3)
		for k := range room {
			s.get(k%3, fmt.Sprintf("/one/%d", k))
			s.jobs(k+1, 0)
		}
		for range 3 {
			s.get(3, "/one/more", out(3, reply(503, "full")))
		}
		s.get(1, "/two/other")
		s.jobs(room, 1)
		if s.host.Ids != room+1 {
			t.Errorf("room %d: %s", room, toldHost(s.host))
		}
		s.tick(out(0, reply(200, "/0")))
		s.jobs(room-1, 1)
		s.get(3, "/one/again")
		s.get(3, "/one/more")
		s.jobs(room, 1)
		if c := s.host.Conns[3]; len(c.Slots) != 2 || c.Slots[1].Text != reply(503, "full") {
			t.Errorf("room %d: %s", room, toldConn(c))
		}
	}
}

// The last Id is 99999: behind it all is shed, and the host stays right.
func TestIdsComeToAnEnd(t *testing.T) {
	for _, ids := range []int{99997, 99998, 99999, 100000} {
		s := newScene(t, impl.Config{Room: 4, Quantum: 6, Wait: 5}, "one", quickSource, "two", quickSource)
		s.open(0, 1)
		s.host.Ids = ids
		left := 100000 - ids
		s.bytes(0, requestsOf([]string{"/one/a", "/two/b", "/one/c"}[:left]...))
		if s.host.Ids != 100000 {
			t.Errorf("%d: %s", ids, toldHost(s.host))
		}
		for _, path := range []string{"/one/d", "/two/d"} {
			s.get(1, path, out(1, reply(503, "full")))
		}
		s.get(1, "/none", out(1, reply(404, "none")))
		for range 2 {
			got := wantHostTick(t, s.host)
			s.host = got.host
		}
		s.jobs(0, 0)
		s.last(1, "/one/e", outAndShut(1, lastReply(503, "full")))
		wantHostAnswers(t, s.host)
	}
}

// Requests behind each other are read until the slots are full; what is left is read as soon as replies have gone.
func TestSlotsAreFull(t *testing.T) {
	s := newScene(t, impl.Config{Room: 4, Quantum: 4, Wait: 100}, "one", quickSource, "two", quickSource)
	s.open(0)
	s.bytes(0, requestsOf("/one/1", "/two/2", "/one/3", "/two/4", "/one/5", "/two/6", "/one/7", "/none", "/two/9")+"GET /o")
	s.jobs(3, 3)
	rest := requestsOf("/one/7", "/none", "/two/9") + "GET /o"
	if c := s.host.Conns[0]; c.In != rest || c.Next != 6 || len(c.Slots) != 6 {
		t.Errorf("the connection is %s", toldConn(c))
	}
	// Bytes are taken still, but not read; no more than there is room for.
	s.bytes(0, "ne/10 HTTP/1.1\r\n\r\n")
	rest += "ne/10 HTTP/1.1\r\n\r\n"
	if c := s.host.Conns[0]; c.In != rest || len(c.Slots) != 6 {
		t.Errorf("the connection is %s", toldConn(c))
	}
	full, sent, code := impl.HostBytes(s.host, 0, strings.Repeat("x", 401-len(rest)))
	wantHost(t, "HostBytes of too much", full, code, s.host, impl.ErrFull)
	if len(sent) != 0 {
		t.Errorf("HostBytes of too much: sent%s", toldSent(sent))
	}
	// One does 1 and 3: 1 goes, 2 is waited for, one more is read, and makes a job, since two have gone.
	s.tick(out(0, reply(200, "/1")))
	s.jobs(2, 3)
	// Two does 2 and 4: 2, 3 and 4 go; none is answered at once, but behind those that wait; 9 and 10 are read.
	s.tick(out(0, reply(200, "/2"), reply(200, "/3"), reply(200, "/4")))
	s.jobs(3, 2)
	if c := s.host.Conns[0]; c.In != "" || c.Next != 10 || len(c.Slots) != 6 {
		t.Errorf("the connection is %s", toldConn(c))
	}
	s.tick(out(0, reply(200, "/5")))
	s.tick(out(0, reply(200, "/6"), reply(200, "/7"), reply(404, "none"), reply(200, "/9")))
	s.tick(out(0, reply(200, "/10")))
	s.words("idle shut shut shut")
}

// What can be answered at once is read over and over: all of it goes in one event.
func TestReadAgainWithinAnEvent(t *testing.T) {
	short := "GET /x HTTP/1.1\r\n\r\n"
	for count := 1; count <= 21; count++ {
		none := slices.Repeat([]string{reply(404, "none")}, count)
		s := newScene(t, impl.Config{Room: 1, Quantum: 2, Wait: 3}, "one", quickSource)
		s.open(2)
		s.bytes(2, strings.Repeat(short, count), out(2, none...))
		wantConn(t, "all are answered", s.host.Conns[2], impl.OK, impl.Conn{Open: true, Next: count}, impl.OK)
		// Behind a job that waits six slots are taken; behind its reply all goes in one tick.
		if count > 18 {
			continue
		}
		s.bytes(2, requestOf("/one/a", false)+strings.Repeat(short, count))
		if c := s.host.Conns[2]; len(c.Slots) != min(count+1, 6) || c.Next != count+min(count+1, 6) {
			t.Errorf("the connection is %s", toldConn(c))
		}
		s.tick(out(2, append([]string{reply(200, "/a")}, none...)...))
		wantConn(t, "all are answered", s.host.Conns[2], impl.OK, impl.Conn{Open: true, Next: 2*count + 1}, impl.OK)
		// The last one of them closes, and what stands behind it is gone.
		s.bytes(2, requestOf("/one/b", false)+strings.Repeat(short, count-1)+lastRequest)
		s.tick(outAndShut(2, append(append([]string{reply(200, "/b")}, none[1:]...), lastReply(404, "none"))...))
		wantConn(t, "all are answered", s.host.Conns[2], impl.OK, impl.Conn{Next: 3*count + 2}, impl.OK)
	}
}

// A job that waits in the bytes is made when it is read, so that its time begins then; it may be shed then, too.
func TestJobsOfRequestsThatAreReadLater(t *testing.T) {
	s := newScene(t, impl.Config{Room: 3, Quantum: 2, Wait: 4}, "one", quickSource, "two", spinsSource)
	s.open(0, 1)
	s.bytes(0, requestsOf("/two/1", "/one/2", "/two/3", "/one/4", "/two/5", "/one/6", "/one/7", "/one/8", "/one/9", "/one/10"))
	s.jobs(3, 3)
	for range 3 {
		s.tick()
	}
	s.jobs(1, 3)
	// At 4 all are late: 7 to 10 are read, three of them are new jobs, and the fourth one is shed.
	s.tick(out(0, reply(504, "late"), reply(200, "/2"), reply(504, "late"), reply(200, "/4"), reply(504, "late"), reply(504, "late")))
	s.jobs(3, 0)
	for k, j := range s.host.Tenants[0].Queue {
		if want := (impl.Job{Id: 6 + k, Conn: 0, Seq: 6 + k, Path: fmt.Sprintf("/%d", 7+k), Since: 4}); !sameJob(j, want) {
			t.Errorf("the job is%s", toldJobs([]impl.Job{j}))
		}
	}
	s.tick(out(0, reply(200, "/7")))
	s.tick(out(0, reply(200, "/8")))
	s.tick(out(0, reply(200, "/9"), reply(503, "full")))
}

// However a text is cut, the same jobs are made, and the same is sent.
func TestRequestsOfHostsInPieces(t *testing.T) {
	t.Parallel()
	for _, text := range []string{
		requestsOf("/one/a", "/two/b"),
		requestsOf("/none", "/one/a", "/bad/x", "/one/b", "/one/c") + "GET",
		requestsOf("/none", "/bad") + lastRequest + "rest",
		requestsOf("/one/a") + requestOf("/none", true) + requestsOf("/two"),
		requestsOf("/none", "/two/a") + "PUT / HTTP/1.1\r\n\r\n" + requestsOf("/none"),
		requestsOf("/none") + strings.Repeat("x", 121),
	} {
		first := newScene(t, impl.Config{Room: 2, Quantum: 5, Wait: 5}, "one", quickSource, "two", spinsSource, "bad", wrongSource)
		first.open(1)
		whole := wantHostBytes(t, first.host, 1, text)
		for size := 1; size <= len(text); size++ {
			wantPiecesAlike(t, first.host, whole, cutInPieces(text, size))
		}
		for cut := range len(text) {
			wantPiecesAlike(t, first.host, whole, []string{text[:cut], "", text[cut:]})
		}
		if t.Failed() {
			return
		}
	}
}

func wantPiecesAlike(t *testing.T, h impl.Host, whole happened, pieces []string) {
	t.Helper()
	sent, shut := "", false
	for _, piece := range pieces {
		next, list, code := impl.HostBytes(h, 1, piece)
		if code != impl.OK && (code != impl.ErrShut || !sameHost(next, h)) {
			t.Errorf("HostBytes of %q: %d", piece, code)
		}
		h = next
		for _, out := range list {
			if out.Conn != 1 {
				t.Errorf("sent%s", toldSent(list))
			}
			sent, shut = sent+out.Bytes, shut || out.Shut
		}
	}
	wantHost(t, fmt.Sprintf("in pieces %q", pieces), h, impl.OK, whole.host, impl.OK)
	if want := out(1); len(whole.sent) > 0 {
		want = whole.sent[0]
		if sent != want.Bytes || shut != want.Shut {
			t.Errorf("in pieces %q: %q, %v", pieces, sent, shut)
		}
	} else if sent != "" || shut {
		t.Errorf("in pieces %q: %q, %v", pieces, sent, shut)
	}
}

// Jobs may be done in whatever order: their replies go in the order of the numbers.
func TestRepliesInTheOrderOfTheirNumbers(t *testing.T) {
	slow := "let x = 0; while (x < 3) { x = x + 1; } return path;"
	s := newScene(t, impl.Config{Room: 4, Quantum: 10, Wait: 100}, "slow", slow, "one", quickSource, "bad", wrongSource)
	s.open(0, 1)
	s.bytes(0, requestsOf("/slow/1", "/one/2", "/none/3", "/one/4", "/bad/5"))
	s.bytes(1, requestsOf("/one/6", "/slow/7"))
	s.words("waiting waiting shut shut")
	if waits, _ := impl.WaitingOf(s.host.Conns[0]); !slices.Equal(waits, []int{0, 1, 3}) {
		t.Errorf("numbers %v wait", waits)
	}
	s.tick()
	s.tick(out(1, reply(200, "/6"))) // 2 and 4 are done, but behind 1
	s.jobs(2, 0, 0)
	s.tick()
	s.tick()
	s.tick(out(0, reply(200, "/1"), reply(200, "/2"), reply(404, "none"), reply(200, "/4"), reply(500, "form")))
	s.words("idle waiting shut shut")
	for len(s.host.Tenants[0].Queue) > 0 {
		if got := wantHostTick(t, s.host); len(got.sent) > 0 && !slices.Equal(got.sent, []impl.Sent{out(1, reply(200, "/7"))}) {
			t.Errorf("sent%s", toldSent(got.sent))
		}
		s.host, _, _ = impl.HostTick(s.host)
	}
}

// A connection that ends closes with the reply to its last number, whichever reply is ready first.
func TestWhoCloses(t *testing.T) {
	tenants := []string{"one", quickSource, "two", "throw path;", "bad", wrongSource, "spin", spinsSource}
	c := impl.Config{Room: 2, Quantum: 6, Wait: 4}
	// The last one is answered at once, the others ahead of it are not.
	for path, last := range map[string]string{"/none": lastReply(404, "none"), "/bad": lastReply(500, "form")} {
		s := newScene(t, c, tenants...)
		s.open(0)
		s.bytes(0, requestsOf("/one/1", "/two/2")+requestOf(path, true)+requestsOf("/one/gone"))
		s.words("ending shut shut shut")
		s.jobs(1, 1, 0, 0)
		s.tick(out(0, reply(200, "/1")))
		s.words("ending shut shut shut")
		s.tick(outAndShut(0, reply(500, "/2"), last))
		wantConn(t, path, s.host.Conns[0], impl.OK, impl.Conn{Next: 3}, impl.OK)
	}
	// The last one is done ahead of the others.
	s := newScene(t, c, tenants...)
	s.open(0, 1)
	s.bytes(0, requestsOf("/two/1", "/spin/2")+requestOf("/one/3", true)+"rest")
	s.tick()
	s.tick(out(0, reply(500, "/1")))
	s.tick()
	s.words("ending idle shut shut")
	s.tick(outAndShut(0, reply(504, "late"), lastReply(200, "/3")))
	s.words("shut idle shut shut")
	// The last one is late.
	s.bytes(1, requestsOf("/none")+requestOf("/spin", true), out(1, reply(404, "none")))
	for range 3 {
		s.tick()
	}
	s.tick(outAndShut(1, lastReply(504, "late")))
	s.words("shut shut shut shut")
	// The last one is shed.
	s.open(2)
	s.bytes(2, requestsOf("/one/1", "/one/2")+requestOf("/one/3", true))
	s.tick(outAndShut(2, reply(200, "/1"), reply(200, "/2"), lastReply(503, "full")))
	// Two that end, each at its own time.
	s.open(0, 3)
	s.last(3, "/two")
	s.last(0, "/one")
	s.words("ending shut shut ending")
	for turn := 0; turn < 4 && !slices.EqualFunc(s.host.Conns, make([]impl.Conn, 4), func(a, b impl.Conn) bool { return a.Open == b.Open }); turn++ {
		s.host = wantHostTick(t, s.host).host
	}
	s.words("shut shut shut shut")
}

// What is no request closes, behind the replies to what stood ahead of it; nothing is read behind it.
func TestWhatIsNoRequestClosesAHostsConnection(t *testing.T) {
	for _, f := range faultsToRead() {
		for _, behind := range []string{"", "x", shortRequest} {
			if len(f.text+behind) > 300 {
				continue
			}
			s := newScene(t, impl.Config{Room: 2, Quantum: 6, Wait: 4}, "one", quickSource)
			s.open(0, 1)
			s.bytes(0, f.text+behind, outAndShut(0, f.reply))
			s.bytes(1, requestsOf("/one/a", "/none")+f.text+behind)
			s.words("shut ending shut shut")
			s.jobs(1)
			same, sent, code := impl.HostBytes(s.host, 1, "x")
			wantHost(t, "HostBytes of one that ends", same, code, s.host, impl.ErrShut)
			if len(sent) != 0 {
				t.Errorf("HostBytes of one that ends: sent%s", toldSent(sent))
			}
			s.tick(outAndShut(1, reply(200, "/a"), reply(404, "none"), f.reply))
			wantConn(t, f.text, s.host.Conns[1], impl.OK, impl.Conn{Next: 3}, impl.OK)
		}
	}
}

// With a connection that is closed its jobs go, of each tenant, those that have Begun, too; what it would have been answered is nowhere.
func TestJobsOfAClosedConnectionAreNowhere(t *testing.T) {
	s := newScene(t, impl.Config{Room: 4, Quantum: 3, Wait: 100}, "one", endsSource, "two", endsSource)
	s.open(0, 1)
	s.bytes(0, requestsOf("/one/1", "/two/2", "/none", "/two/3"))
	s.bytes(1, requestsOf("/two/4", "/one/5"))
	s.tick()
	s.tick()
	s.jobs(2, 3)
	if !s.host.Tenants[0].Queue[0].Begun || !s.host.Tenants[1].Queue[0].Begun {
		t.Errorf("the jobs have not Begun:\n%s", toldHost(s.host))
	}
	s.shut(0)
	s.jobs(1, 1)
	s.words("shut waiting shut shut")
	if s.host.Conns[0].Next != 4 || s.host.Ids != 5 || s.host.Turn != 0 {
		t.Errorf("the host is %s", toldHost(s.host))
	}
	s.fuel(3, 3)
	s.open(0)
	s.get(0, "/two/6")
	s.tick()
	s.tick()
	s.tick()
	s.tick(out(1, reply(200, "/4!"), reply(200, "/5!")))
	s.tick(out(0, reply(200, "/6!")))
	s.words("idle idle shut shut")
	if c := s.host.Conns[0]; c.Next != 5 {
		t.Errorf("the connection is %s", toldConn(c))
	}
}

func TestTenantAt(t *testing.T) {
	s := newScene(t, impl.Config{Room: 2, Quantum: 3, Wait: 9}, "one", quickSource, "bad", wrongSource, "_", "", "eightabc", spinsSource)
	s.open(0)
	s.bytes(0, requestsOf("/one/1", "/eightabc/2"))
	for k, name := range []string{"one", "bad", "_", "eightabc"} {
		x, code := impl.TenantAt(s.host, name)
		wantTenant(t, name, x, code, s.host.Tenants[k], impl.OK)
	}
	for _, name := range []string{"", "On", "ONE", "one ", "on", "onee", "/one", "eightab", "eightabcd", "none", "\x00", longText[:65536]} {
		x, code := impl.TenantAt(s.host, name)
		wantTenant(t, name, x, code, impl.Tenant{}, impl.ErrNone)
	}
	for _, h := range []impl.Host{s.host, {}} {
		x, code := impl.TenantAt(h, longText)
		wantTenant(t, "a name too long", x, code, impl.Tenant{}, impl.ErrLong)
	}
	x, code := impl.TenantAt(impl.Host{}, "one")
	wantTenant(t, "a wrong host", x, code, impl.Tenant{}, impl.ErrBad)
}

// A connection is asked for by its place, from 0 to 3; another one is told behind a wrong host, and ahead of what it is.
func TestPlacesOfConnections(t *testing.T) {
	s := newScene(t, impl.Config{Room: 2, Quantum: 3, Wait: 9}, "one", quickSource)
	s.open(1, 2)
	s.last(2, "/one")
	for _, k := range []int{-1, 4, 5, 7, 8, 100, 1 << 32, 1<<32 + 1, -1 << 32, math.MinInt, math.MaxInt} {
		for _, c := range []struct {
			host impl.Host
			code int
		}{{s.host, impl.ErrRange}, {impl.Host{}, impl.ErrBad}} {
			none, code := impl.HostOpen(c.host, k)
			wantHost(t, "HostOpen", none, code, impl.Host{}, c.code)
			none, code = impl.HostClose(c.host, k)
			wantHost(t, "HostClose", none, code, impl.Host{}, c.code)
			if word, code := impl.ConnWord(c.host, k); word != "" || code != c.code {
				t.Errorf("ConnWord of %d = %q, %d", k, word, code)
			}
			for _, text := range []string{"", "x", longText[:401], longText[:65536], longText} {
				code := c.code
				if len(text) > 65536 {
					code = impl.ErrLong
				}
				got := wantHostBytes(t, c.host, k, text)
				wantHappened(t, "HostBytes", got, happened{code: code})
			}
		}
	}
	for k, want := range []string{"shut", "idle", "ending", "shut"} {
		if word, code := impl.ConnWord(s.host, k); word != want || code != impl.OK {
			t.Errorf("ConnWord of %d = %q, %d", k, word, code)
		}
		got := wantHostBytes(t, s.host, k, longText)
		wantHappened(t, "HostBytes of too much", got, happened{code: impl.ErrLong})
	}
}
