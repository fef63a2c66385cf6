package parse_test

import (
	"fmt"
	"reflect"
	"strings"
	"testing"
	"unsafe"

	"depot/api"
	"depot/parse"
	"depot/words"
)

// What the document has the answers say.
const (
	badLine  = "bad command line format"
	badData  = "bad data chunk"
	tooLarge = "object too large for cache"
)

// storing is the words of the requests that have data behind their line.
var storing = map[string]int{
	"set": api.VSet, "add": api.VAdd, "replace": api.VReplace, "append": api.VAppend, "prepend": api.VPrepend, "cas": api.VCas,
}

// Events that many tests await.
var (
	getA    = parse.Event{Request: api.Request{Verb: api.VGet, Keys: []string{"a"}}}
	version = parse.Event{Request: api.Request{Verb: api.VVersion}}
	wrong   = says(api.AError, "")
	client  = says(api.AClient, badLine)
	chunk   = says(api.AClient, badData)
	large   = says(api.AServer, tooLarge)
	closes  = says(api.AClose, "")
)

// says is the event of an answer.
func says(kind int, text string) parse.Event {
	return parse.Event{Answer: api.Answer{Kind: kind, Text: text}}
}

// sets is the event of a set with flags and deadline 0.
func sets(key, data string) parse.Event {
	return parse.Event{Request: api.Request{Verb: api.VSet, Keys: []string{key}, Bytes: len(data), Data: data}}
}

// these is a list of events.
func these(l ...parse.Event) []parse.Event { return l }

// same tells whether the events are the same; nil and empty lists are.
func same(a, b []parse.Event) bool {
	return len(a) == 0 && len(b) == 0 || reflect.DeepEqual(a, b)
}

// brief tells a text in few letters, however long it is.
func brief(s string) string {
	return fmt.Sprintf("%q of %d bytes", s[:min(len(s), 80)], len(s))
}

// short tells events in few letters, however many and long they are.
func short(l []parse.Event) string {
	s := fmt.Sprint(len(l), " events")
	for _, e := range l[:min(len(l), 4)] {
		data := brief(e.Request.Data)
		e.Request.Data = ""
		s += fmt.Sprintf("; %.300s, data %s", fmt.Sprintf("%q", fmt.Sprint(e)), data)
	}
	return s
}

// fed is the events of the pieces, one behind the other.
func fed(p *parse.Parser, pieces ...string) []parse.Event {
	var l []parse.Event
	for _, b := range pieces {
		l = append(l, p.Feed(b)...)
	}
	return l
}

// bytewise is the text in pieces of one byte, whatever the bytes are.
func bytewise(s string) []string {
	var l []string
	for i := range len(s) {
		l = append(l, s[i:i+1])
	}
	return l
}

// is fails if the parser isn't such.
func is(t *testing.T, p *parse.Parser, shut bool, left int, why string) {
	t.Helper()
	if p.Shut() != shut || p.Left() != left {
		t.Errorf("%s: Shut is %v, Left %d, not %v, %d", why, p.Shut(), p.Left(), shut, left)
	}
}

// tells fails if the pieces, fed to a new parser, don't make these events, or it isn't such behind them.
func tells(t *testing.T, pieces []string, shut bool, left int, want ...parse.Event) *parse.Parser {
	t.Helper()
	p := parse.New()
	why := brief(strings.Join(pieces, "")) + fmt.Sprint(" in ", len(pieces))
	if got := fed(p, pieces...); !same(got, want) {
		t.Errorf("%s: %s, not %s", why, short(got), short(want))
	}
	is(t, p, shut, left, why)
	return p
}

// makes is tells of the text in one piece, and, if it is short, in single bytes and cut in two at each place.
func makes(t *testing.T, s string, shut bool, left int, want ...parse.Event) {
	t.Helper()
	tells(t, []string{s}, shut, left, want...)
	if len(s) > 5000 {
		return
	}
	tells(t, bytewise(s), shut, left, want...)
	// A fault that is told once is told enough.
	for at := 0; at <= len(s) && !t.Failed(); at++ {
		tells(t, []string{s[:at], s[at:]}, shut, left, want...)
	}
}

// The limits and numbers are the document's.
func TestLimits(t *testing.T) {
	if api.MaxLine != 2048 || api.MaxValue != 1<<20 {
		t.Error(api.MaxLine, api.MaxValue)
	}
}

// P13.1

func TestNew(t *testing.T) {
	p := parse.New()
	if p == nil {
		t.Fatal("New is nil")
	}
	is(t, p, false, 0, "a new one")
	if got := p.Feed("get a\n"); !same(got, these(getA)) {
		t.Error("it isn't at the beginning of a line:", short(got))
	}
}

// Parsers know nothing of each other.
func TestNewOnesAreApart(t *testing.T) {
	p, q, r := parse.New(), parse.New(), parse.New()
	if got := fed(p, "set k 0 0 9\r\nabc"); len(got) != 0 {
		t.Error(short(got))
	}
	if got := fed(q, "quit\n"); !same(got, these(closes)) {
		t.Error(short(got))
	}
	is(t, p, false, 3, "in data")
	is(t, q, true, 0, "behind quit")
	is(t, r, false, 0, "a new one")
	is(t, parse.New(), false, 0, "one that is made later")
	if got := fed(r, "version\n"); !same(got, these(version)) {
		t.Error(short(got))
	}
	if got := fed(p, "def", "ghi\r\n"); !same(got, these(sets("k", "abcdefghi"))) {
		t.Error(short(got))
	}
}

// An event is a request or an answer, and what isn't named in it is zero (R3).
func TestEventsAreOneOfTwo(t *testing.T) {
	p := parse.New()
	text := "get a b\r\nnix\nset k x 0 1\nset k 0 0 1\na\r\nset k 0 0 1\nab\nset k 0 0 1048577\n" +
		strings.Repeat("x", 1048579) + "delete a\nflush_all\nquit\nget a\n"
	events := fed(p, text)
	if len(events) != 9 {
		t.Fatal(short(events))
	}
	for i, e := range events {
		request, answer := e.Request.Verb != 0, e.Answer.Kind != 0
		switch {
		case request == answer:
			t.Errorf("%d: %+v", i, e)
		case request && !reflect.DeepEqual(e.Answer, api.Answer{}):
			t.Errorf("%d: beside a request %+v", i, e.Answer)
		case answer && !reflect.DeepEqual(e.Request, api.Request{}):
			t.Errorf("%d: beside an answer %+v", i, e.Request)
		case answer && !reflect.DeepEqual(e.Answer, api.Answer{Kind: e.Answer.Kind, Text: e.Answer.Text}):
			t.Errorf("%d: %+v", i, e.Answer)
		}
	}
}

// P13.2: nothing comes, or nobody hears it

// states is texts behind each of which a parser is in another state, and what is left behind them.
var states = []struct {
	text string
	shut bool
	left int
}{
	{"", false, 0},
	{"get", false, 3},
	{"get a\r", false, 6},
	{"get a\r\n", false, 0},
	{"set k 0 0 2\r\n", false, 0},
	{"set k 0 0 2\r\na", false, 1},
	{"set k 0 0 2\r\nab", false, 2},
	{"set k 0 0 2\r\nab\r", false, 3},
	{"set k 0 0 2\r\nab\r\n", false, 0},
	{"set k 0 0 2\r\nabc", false, 0},
	{"set k 0 0 2\r\nab\rc", false, 0},
	{"set k 0 0 2\r\nabc\r", false, 0},
	{"set k 0 0 2\r\nabc\r\n", false, 0},
	{"set k 0 0 2000000\r\n", false, 0},
	{"set k 0 0 2000000\r\nabc\r\n", false, 0},
	{"quit\n", true, 0},
	{strings.Repeat("x", api.MaxLine), false, api.MaxLine},
	{strings.Repeat("x", api.MaxLine+1), true, 0},
}

// Feed of the empty text does nothing, wherever the parser is.
func TestFeedOfNothing(t *testing.T) {
	for _, c := range states {
		p, q := parse.New(), parse.New()
		before := fed(p, c.text)
		for range 3 {
			if got := p.Feed(""); len(got) != 0 {
				t.Errorf("behind %s: %s", brief(c.text), short(got))
			}
			is(t, p, c.shut, c.left, "behind "+brief(c.text))
		}
		rest := "bc\r\n\r\nversion\n"
		after := append(before, fed(p, rest)...)
		if want := fed(q, c.text, rest); !same(after, want) || p.Left() != q.Left() || p.Shut() != q.Shut() {
			t.Errorf("behind %s: %s, not %s", brief(c.text), short(after), short(want))
		}
	}
}

// Once it is shut, nothing is told, nothing is left, whatever comes.
func TestFeedOnceItIsShut(t *testing.T) {
	for _, end := range []string{"quit\n", "get a\r\nquit\r\n", strings.Repeat("x", 2049), "quit\nget a", "quit\nget a\nquit\nget b"} {
		p := parse.New()
		if got := fed(p, end); len(got) == 0 || !reflect.DeepEqual(got[len(got)-1], closes) {
			t.Errorf("%s: %s", brief(end), short(got))
		}
		for _, c := range append(states, states...) {
			if got := p.Feed(c.text); len(got) != 0 {
				t.Errorf("%s, and then %s: %s", brief(end), brief(c.text), short(got))
			}
			is(t, p, true, 0, brief(end))
		}
		if got := fed(p, "\n", "get a\n", "set k 0 0 1\r\na\r\n", "quit\n", strings.Repeat("x", 3000)); len(got) != 0 {
			t.Errorf("%s: %s", brief(end), short(got))
		}
		is(t, p, true, 0, brief(end))
	}
}

// P13.2: lines

func TestLines(t *testing.T) {
	makes(t, "get a\n", false, 0, getA)
	makes(t, "get a\r\n", false, 0, getA)
	makes(t, "get a\nversion\nget a\r\n", false, 0, getA, version, getA)
	makes(t, "get a", false, 5)
	makes(t, "get a\r", false, 6)
	makes(t, "get a\nvers", false, 4, getA)
	makes(t, "get a\r\n\r", false, 1, getA)
	makes(t, "  get   a  \r\n", false, 0, getA)
	makes(t, "get a\x00\xff\n", false, 0, client)
}

// A line of no bytes, with a 13 and without, is one without a word.
func TestEmptyLines(t *testing.T) {
	makes(t, "\n", false, 0, wrong)
	makes(t, "\r\n", false, 0, wrong)
	makes(t, "\n\n\r\n\n", false, 0, wrong, wrong, wrong, wrong)
	makes(t, " \n", false, 0, wrong)
	makes(t, "\nget a\n\n", false, 0, wrong, getA, wrong)
	makes(t, "\r", false, 1)
}

// One 13 at the line's end is none of its bytes; any other is.
func TestCarriages(t *testing.T) {
	makes(t, "get a\r\r\n", false, 0, client)
	makes(t, "get a\r\r\r\n", false, 0, client)
	makes(t, "get a \r\r\n", false, 0, client)
	makes(t, "get\ra\r\n", false, 0, wrong)
	makes(t, "get a\rb\n", false, 0, client)
	makes(t, "get a\rb\r\n", false, 0, client)
	makes(t, "\rget a\n", false, 0, wrong)
	makes(t, "get \ra\n", false, 0, client)
	makes(t, "version\r\n", false, 0, version)
	makes(t, "version\r\r\n", false, 0, wrong)
	makes(t, "version \r\r\n", false, 0, wrong)
	makes(t, "quit\r\r\nversion\n", false, 0, wrong, version)
	makes(t, "\r\r\n", false, 0, wrong)
	makes(t, "get a\r \n", false, 0, client)
}

// Each word that has no data makes its request at once.
func TestRequestsOfALine(t *testing.T) {
	for _, line := range []string{
		"get a", "get a b c", "gets a", "gets a a", "delete a", "delete a noreply", "delete noreply", "incr a 18446744073709551615", "decr a 1 noreply",
		"touch a -5", "touch a 5 noreply", "flush_all", "flush_all 0", "flush_all noreply", "flush_all 0 noreply", "version", "stats", "verbosity 1",
		"verbosity 1 noreply",
	} {
		r, e := words.Line(line)
		if e != api.OK {
			t.Fatal(line, e)
		}
		want := parse.Event{Request: r}
		makes(t, line+"\r\n", false, 0, want)
		makes(t, line+"\nget a\n"+line+"\r\n", false, 0, want, getA, want)
	}
}

// A line that isn't in form is an ERROR, one with a bad argument is the client's; the next one is a line again.
func TestBadLines(t *testing.T) {
	for _, line := range []string{
		"nix", "GET a", "get", "set", "set k", "set k 0 0", "set k 0 0 1 noreply 2", "cas k 0 0 1", "set k 0 0 1 2 3", "quit now", "quit noreply", "version 1",
		"delete", "incr a", "xyz" + strings.Repeat(" y", 900),
	} {
		makes(t, line+"\r\n", false, 0, wrong)
		makes(t, line+"\nget a\n", false, 0, wrong, getA)
		makes(t, line+"\r\nget", false, 3, wrong)
	}
	for _, line := range []string{
		"set k x 0 1", "set k x 0 1 noreply", "set k 0 0 -1", "set k 0 0 2147483648", "set k 0 0 2147483648 noreply", "set k 4294967296 0 1",
		"cas k 0 0 1 x", "cas k 0 0 1 x noreply", "incr a x", "get " + strings.Repeat("k", 251), "get a\x7f", "flush_all 1", "touch a x",
	} {
		makes(t, line+"\r\n", false, 0, client)
		makes(t, line+"\nget a\n", false, 0, client, getA)
		makes(t, line+"\r\nget", false, 3, client)
	}
}

// No data are awaited behind a storing line that is refused: they are a line like others.
func TestDataBehindABadLine(t *testing.T) {
	makes(t, "set k x 0 3\r\nabc\r\n", false, 0, client, wrong)
	makes(t, "set k 0 0\r\nget a\r\n", false, 0, wrong, getA)
	makes(t, "set k 0 0 2147483648\r\nget a\r\n", false, 0, client, getA)
	makes(t, "set k 0 0 99999999999999999999 noreply\r\nget a\r\n", false, 0, client, getA)
}

// quit shuts it, and what stands behind it in the same piece is gone.
func TestQuit(t *testing.T) {
	makes(t, "quit\n", true, 0, closes)
	makes(t, "quit\r\n", true, 0, closes)
	makes(t, " quit \n", true, 0, closes)
	makes(t, "quit\r\nget a\nquit\n", true, 0, closes)
	makes(t, "get a\r\nquit\r\nget", true, 0, getA, closes)
	makes(t, "set k 0 0 1\r\na\r\nquit\nset k 0 0 1\r\n", true, 0, sets("k", "a"), closes)
	makes(t, "quit", false, 4)
	makes(t, "quit\r", false, 5)
	makes(t, "set k 0 0 4\r\nquit\r\n", false, 0, sets("k", "quit"))
	makes(t, "set k 0 0 1\r\nxquit\r\nget a\n", false, 0, chunk, getA)
}

// P13.2: how long a line may be

func TestLongestLine(t *testing.T) {
	for _, n := range []int{api.MaxLine - 2, api.MaxLine - 1, api.MaxLine} {
		x := strings.Repeat("x", n)
		makes(t, x, false, n)
		makes(t, x+"\n", false, 0, wrong)
		makes(t, x+"\nget a\n", false, 0, wrong, getA)
		makes(t, "get a\n"+x, false, n, getA)
	}
	makes(t, strings.Repeat("x", api.MaxLine-1)+"\r\n", false, 0, wrong)
	makes(t, strings.Repeat("x", api.MaxLine-1)+"\r", false, api.MaxLine)
	makes(t, "get a"+strings.Repeat(" ", api.MaxLine-5)+"\n", false, 0, getA)
	makes(t, "get a"+strings.Repeat(" ", api.MaxLine-6)+"\r\n", false, 0, getA)
	makes(t, "quit"+strings.Repeat(" ", api.MaxLine-4)+"\nget a\n", true, 0, closes)
}

// One byte more shuts it; a 13 at the line's end is one of them.
func TestTooLongLine(t *testing.T) {
	for _, s := range []string{
		strings.Repeat("x", api.MaxLine+1),
		strings.Repeat("x", api.MaxLine+1) + "\n",
		strings.Repeat("x", api.MaxLine+1) + "\r\n",
		strings.Repeat("x", api.MaxLine) + "\r",
		strings.Repeat("x", api.MaxLine) + "\r\n",
		strings.Repeat("x", api.MaxLine) + "\r\nget a\n",
		strings.Repeat("x", api.MaxLine+2) + "\nget a\n",
		"get a" + strings.Repeat(" ", api.MaxLine-4) + "\n",
		"get a" + strings.Repeat(" ", api.MaxLine-5) + "\r\n",
		strings.Repeat("\r", api.MaxLine+1),
		strings.Repeat("x", 1<<20),
		strings.Repeat("x", 1<<20) + "\nget a\n",
	} {
		makes(t, s, true, 0, closes)
		makes(t, "get a\n"+s, true, 0, getA, closes)
		makes(t, "set k 0 0 1\r\nab\r\n"+s, true, 0, chunk, closes)
	}
}

// It is shut as soon as the byte comes that is too many, and not ahead of it.
func TestTooLongLineByteByByte(t *testing.T) {
	p := parse.New()
	for i := range api.MaxLine {
		if got := p.Feed("x"); len(got) != 0 {
			t.Fatal(i, short(got))
		}
		is(t, p, false, i+1, "a long line")
	}
	if got := p.Feed("x"); !same(got, these(closes)) {
		t.Error(short(got))
	}
	is(t, p, true, 0, "a line that is too long")
}

// The limit is a line's, not that of all that comes in a piece, of data, or of what is gone past.
func TestManyLinesAreNoLongOne(t *testing.T) {
	lines := strings.Repeat("version\r\n", 1000)
	tells(t, []string{lines}, false, 0, repeated(version, 1000)...)
	tells(t, bytewise(lines), false, 0, repeated(version, 1000)...)
	data := strings.Repeat("x", 5000)
	tells(t, []string{"set k 0 0 5000\r\n" + data + "\r\nget a\n"}, false, 0, sets("k", data), getA)
	tells(t, []string{"set k 0 0 1\r\n" + data + "\r\nget a\n"}, false, 0, chunk, getA)
	tells(t, bytewise("set k 0 0 1\r\n"+data+"\r\nget a\n"), false, 0, chunk, getA)
	tells(t, []string{"set k 0 0 1\r\n" + data, data, data}, false, 0, chunk)
}

// repeated is so many of an event.
func repeated(e parse.Event, n int) []parse.Event {
	var l []parse.Event
	for range n {
		l = append(l, e)
	}
	return l
}

// P13.2: data

// Each storing verb awaits its data, and tells them, with all that its line says.
func TestStoringVerbs(t *testing.T) {
	for word, verb := range storing {
		for _, data := range []string{"", "a", "abc", "\r\n", "\r", "\n", "a\r\nb\r\n", "\r\n\r\n", "get a\r\n", "\x00\xff\x80"} {
			line := fmt.Sprintf("%s k 7 -9 %d", word, len(data))
			want := api.Request{Verb: verb, Keys: []string{"k"}, Flags: 7, Exp: -9, Bytes: len(data), Data: data}
			if verb == api.VCas {
				line += " 1099511627776"
				want.Cas = 1 << 40
			}
			for _, end := range []string{"\n", "\r\n"} {
				makes(t, line+end+data+"\r\n", false, 0, parse.Event{Request: want})
				makes(t, line+end+data+"\r\nget a\n", false, 0, parse.Event{Request: want}, getA)
				makes(t, line+end+data, false, len(data))
				hushed := want
				hushed.NoReply = true
				makes(t, line+" noreply"+end+data+"\r\n", false, 0, parse.Event{Request: hushed})
				makes(t, line+" noreply"+end+data+"\r\nget a\n", false, 0, parse.Event{Request: hushed}, getA)
				makes(t, line+" noreply"+end+data+"\r", false, len(data)+1)
			}
		}
	}
}

func TestDataThatAreShortYet(t *testing.T) {
	makes(t, "set k 0 0 0\r\n", false, 0)
	makes(t, "set k 0 0 0\r\n\r", false, 1)
	makes(t, "set k 0 0 0\r\n\r\n", false, 0, sets("k", ""))
	makes(t, "set k 0 0 3\r\n", false, 0)
	makes(t, "set k 0 0 3\r\nab", false, 2)
	makes(t, "set k 0 0 3\r\nab\n", false, 3)
	makes(t, "set k 0 0 3\r\n\r\n\r", false, 3)
	makes(t, "set k 0 0 3\r\nabc\r", false, 4)
	makes(t, "set k 0 0 3\r\n\r\n\r\r", false, 4)
	makes(t, "set k 0 0 3\r\n\r\n\r\r\n", false, 0, sets("k", "\r\n\r"))
	makes(t, "set k 0 0 9\r\nquit\r\nnix\r\n", false, 0, sets("k", "quit\r\nnix"))
}

// Behind data of which the end is another, all up to the next 10 is gone past, what follows is a line.
func TestBadData(t *testing.T) {
	for _, c := range []struct {
		bytes int
		data  string
	}{
		{0, "\n"}, {0, "a\n"}, {0, "\r\r\n"}, {0, "\ra\n"}, {0, "abc\r\n"},
		{1, "a\n"}, {1, "ab\n"}, {1, "ab\r\n"}, {1, "a\rb\n"}, {1, "a\rb\r\n"}, {1, "a\r\r\n"}, {1, "a\r\r\r\n"}, {1, "a \r\n"}, {1, "\n\n"}, {1, "\n \n"},
		{3, "abc\n"}, {3, "abcd\n"}, {3, "abcdefghi\r\n"}, {3, "abc\rabc\rabc\n"}, {3, "\r\n\r\n"}, {3, "abc\x00\n"}, {3, "a\nb \r\r\n"},
	} {
		line := fmt.Sprintf("set k 0 0 %d", c.bytes)
		// A noreply hushes what is said of an object that is too large, and nothing else.
		for _, line := range []string{line + "\r\n", line + "\n", line + " noreply\r\n"} {
			makes(t, line+c.data, false, 0, chunk)
			makes(t, line+c.data+"get a\n", false, 0, chunk, getA)
			makes(t, line+c.data+"\n", false, 0, chunk, wrong)
			makes(t, line+c.data+"get", false, 3, chunk)
			makes(t, line+c.data+line+c.data+"version\n", false, 0, chunk, chunk, version)
		}
	}
}

// Bad data are told as soon as the byte comes that isn't theirs, of each such byte; the rest of the line may come later.
func TestBadDataByEachByte(t *testing.T) {
	for b := range 256 {
		one := string([]byte{byte(b)})
		for _, ahead := range []string{"", "\r"} {
			p := parse.New()
			if got := fed(p, "set k 0 0 2\r\nab"+ahead); len(got) != 0 {
				t.Fatal(short(got))
			}
			is(t, p, false, 2+len(ahead), "data without an end")
			got := p.Feed(one)
			switch ahead + one {
			case "\r":
				if len(got) != 0 || p.Left() != 3 {
					t.Error("a 13:", short(got), p.Left())
				}
				continue
			case "\r\n":
				if !same(got, these(sets("k", "ab"))) {
					t.Error("13 10:", short(got))
				}
				is(t, p, false, 0, "whole data")
				continue
			}
			if !same(got, these(chunk)) {
				t.Errorf("%q: %s", ahead+one, short(got))
			}
			is(t, p, false, 0, "bad data")
			if one != "\n" {
				if got := fed(p, "get a", "\r", "", "x\r", "\n"); len(got) != 0 {
					t.Errorf("%q: %s", ahead+one, short(got))
				}
				is(t, p, false, 0, "the rest of a bad line")
			}
			if got := fed(p, "get a\n"); !same(got, these(getA)) {
				t.Errorf("%q: %s", ahead+one, short(got))
			}
		}
	}
}

// The rest of a bad line counts for nothing, however long it is, and in however many pieces it comes.
func TestTheRestOfABadLine(t *testing.T) {
	p := parse.New()
	if got := p.Feed("set k 0 0 1\r\nab"); !same(got, these(chunk)) {
		t.Error(short(got))
	}
	for range 3000 {
		if got := fed(p, "x", "\r", "yz"); len(got) != 0 {
			t.Fatal(short(got))
		}
		is(t, p, false, 0, "the rest of a bad line")
	}
	if got := fed(p, strings.Repeat("quit\r", 1<<18)); len(got) != 0 {
		t.Error(short(got))
	}
	is(t, p, false, 0, "the rest of a bad line")
	if got := fed(p, "\nget a\n"); !same(got, these(getA)) {
		t.Error(short(got))
	}
}

// P13.2: how many data there may be

func TestLargestData(t *testing.T) {
	for _, n := range []int{api.MaxValue - 1, api.MaxValue} {
		data := strings.Repeat("0123456789abcde\n", n/16+1)[:n]
		want := sets("k", data)
		text := fmt.Sprintf("set k 0 0 %d\r\n%s\r\n", n, data)
		tells(t, []string{text}, false, 0, want)
		tells(t, []string{text + text + "get a\n"}, false, 0, want, want, getA)
		tells(t, bytewise(text+"get a\n"), false, 0, want, getA)
		tells(t, []string{text[:len(text)-2]}, false, n)
		tells(t, []string{text[:len(text)-1]}, false, n+1)
		tells(t, []string{text[:100], text[100:101], text[101 : len(text)-1], text[len(text)-1:]}, false, 0, want)
		tells(t, []string{text[:len(text)-2] + "\nget a\n"}, false, 0, chunk, getA)
		want.Request.NoReply = true
		tells(t, []string{fmt.Sprintf("set k 0 0 %d noreply\r\n%s\r\n", n, data)}, false, 0, want)
	}
}

// pieces is the text in pieces of that size.
func pieces(s string, size int) []string {
	var l []string
	for len(s) > size {
		l, s = append(l, s[:size]), s[size:]
	}
	return append(l, s)
}

// One byte more: it is refused at once, and Bytes and 2 more are gone past, whatever they are.
func TestTooLargeData(t *testing.T) {
	const n = api.MaxValue + 1
	for word := range storing {
		cas := ""
		if word == "cas" {
			cas = " 5"
		}
		for hush, said := range map[string][]parse.Event{"": {large}, " noreply": nil} {
			line := fmt.Sprintf("%s k 0 0 %d%s%s\r\n", word, n, cas, hush)
			makes(t, line, false, 0, said...)
			makes(t, line+"abc", false, 0, said...)
			makes(t, line+"quit\r\nget a\n", false, 0, said...)
			for _, data := range []string{strings.Repeat("x", n) + "\r\n", strings.Repeat("\n", n+2), strings.Repeat("quit\n", n)[:n+2]} {
				with := append(said[:len(said):len(said)], getA)
				tells(t, []string{line + data}, false, 0, said...)
				tells(t, []string{line + data + "get a\n"}, false, 0, with...)
				tells(t, []string{line, data, "get a\n"}, false, 0, with...)
				tells(t, []string{line + data[:1], data[1 : n+1], data[n+1:] + "get a\n"}, false, 0, with...)
				tells(t, []string{line + data + "get"}, false, 3, said...)
				tells(t, []string{line + data[:n+1], data[n+1:] + "quit\nget a\n"}, true, 0, append(said[:len(said):len(said)], closes)...)
				for _, size := range []int{7, 4096, 99991} {
					tells(t, pieces(line+data+"get a\n", size), false, 0, with...)
				}
			}
		}
	}
	line := fmt.Sprintf("set k 0 0 %d\n", n)
	tells(t, bytewise(line+strings.Repeat("x", n+2)+"get a\n"), false, 0, large, getA)
	tells(t, []string{line + strings.Repeat("x", n+1) + "yget a\n"}, false, 0, large, getA)
	tells(t, []string{line + strings.Repeat("x", n+1) + "get a\n"}, false, 0, large, wrong)
	tells(t, []string{line + strings.Repeat("x", n+3) + "get a\n"}, false, 0, large, wrong)
}

// Bytes up to 2^31 - 1 are gone past, which no memory is needed for.
func TestMostData(t *testing.T) {
	const most = 1<<31 - 1
	piece := strings.Repeat("quit\n", 1<<24/5)
	for hush, said := range map[string][]parse.Event{"": {large}, " noreply": nil} {
		line := fmt.Sprintf("set k 0 0 %d%s\r\n", most, hush)
		makes(t, line+"x\r\n", false, 0, said...)
		p := tells(t, []string{line}, false, 0, said...)
		// As many as a program may be given in all.
		for sent := len(line); sent+len(piece) <= most; sent += len(piece) {
			if got := p.Feed(piece); len(got) != 0 {
				t.Fatal(sent, short(got))
			}
			is(t, p, false, 0, "gone past")
		}
		const many = 1 << 26
		line = fmt.Sprintf("set k 0 0 %d%s\r\n", many, hush)
		p = tells(t, []string{line}, false, 0, said...)
		for left := many + 2; left > 0; left -= len(piece) {
			if got := p.Feed(piece[:min(left, len(piece))]); len(got) != 0 {
				t.Fatal(left, short(got))
			}
		}
		if got := p.Feed("get a\n"); !same(got, these(getA)) {
			t.Error(short(got))
		}
	}
}

// Runs of the chapter

func TestRuns(t *testing.T) {
	set := sets("k", "abc")
	set.Request.Flags, set.Request.Exp = 1, 2
	makes(t, "get a\r\nset k 1 2 3\r\nabc\r\n", false, 0, getA, set)
	makes(t, "set k 0 0 1\nabc\nversion\n", false, 0, chunk, version)
	makes(t, strings.Repeat("x", 2049), true, 0, closes)
}

// R2

// shares tells whether the bytes of a stand among those of b.
func shares(a, b string) bool {
	if a == "" || b == "" {
		return false
	}
	from := uintptr(unsafe.Pointer(unsafe.StringData(b)))
	at := uintptr(unsafe.Pointer(unsafe.StringData(a)))
	return from <= at && at < from+uintptr(len(b))
}

// What is handed in is not kept and not changed: it may be written over as soon as Feed answers.
func TestFeedKeepsNothing(t *testing.T) {
	text := "get alpha beta\r\nset key 1 2 5\r\nabcde\r\nset key 1 2 3\r\nabcde\r\nnix\nadd other 3 4 4 noreply\r\nwxyz\r\ndelete gamma\nquit\nget a\n"
	want := fed(parse.New(), text)
	if len(want) != 7 {
		t.Fatal(short(want))
	}
	for size := range len(text) {
		p := parse.New()
		var got []parse.Event
		for _, piece := range pieces(text, size+1) {
			b := []byte(piece)
			got = append(got, p.Feed(unsafe.String(unsafe.SliceData(b), len(b)))...)
			if string(b) != piece {
				t.Fatalf("%q became %q", piece, b)
			}
			for i := range b {
				b[i] = '#'
			}
		}
		if !same(got, want) {
			t.Errorf("in pieces of %d: %s, not %s", size+1, short(got), short(want))
		}
	}
}

// What is told is new memory: writing over it changes nothing that is told otherwise.
func TestFeedTellsNewMemory(t *testing.T) {
	text := strings.Clone("get alpha beta\r\nset key 1 2 5\r\nabcde\r\nset key 1 2 0\r\n\r\ngets alpha beta\r\n")
	p := parse.New()
	first := p.Feed(text)
	again := p.Feed(text)
	want := fed(parse.New(), text)
	for _, e := range first {
		for _, s := range append([]string{e.Request.Data, e.Answer.Text}, e.Request.Keys...) {
			if shares(s, text) {
				t.Errorf("%q is a piece of what was handed in", s)
			}
		}
	}
	for _, e := range first[:cap(first)] {
		keys := e.Request.Keys[:cap(e.Request.Keys)]
		for i := range keys {
			keys[i] = "spoiled"
		}
	}
	all := first[:cap(first)]
	for i := range all {
		all[i] = chunk
	}
	if !same(again, want) || !same(p.Feed(text), want) {
		t.Errorf("%s, not %s", short(again), short(want))
	}
	for i, e := range want {
		for _, f := range want[i+1:] {
			if k, l := e.Request.Keys, f.Request.Keys; &k[0] == &l[0] {
				t.Errorf("%q and %q share memory", k, l)
			}
		}
	}
}

// What a line or data were made of is not kept: a parser at the beginning of a line is as a new one.
func TestNothingStaysBehind(t *testing.T) {
	for _, text := range []string{
		"get a\n", "nix\n", "set k x 0 1\n", "set k 0 0 3\r\nabc\r\n", "set k 1 2 3 noreply\r\nabc\r\n", "set k 0 0 3\r\nabcd\n", "cas k 0 0 0 5\n\r\n",
		"set k 0 0 1048577\n" + strings.Repeat("x", 1048579), "set k 0 0 1048576\n" + strings.Repeat("x", 1048576) + "\r\n",
	} {
		for _, size := range []int{1, 5, 1 << 21} {
			p := parse.New()
			fed(p, pieces(text, size)...)
			if !reflect.DeepEqual(p, parse.New()) {
				t.Errorf("%s in pieces of %d", brief(text), size)
			}
		}
	}
}
