package parse_test

import (
	"fmt"
	"reflect"
	"strings"
	"testing"

	"depot/api"
	"depot/parse"
	"depot/words"
)

// chance is a row of numbers from 0 up to below n, that is the same for the same seed.
func chance(seed uint64) func(n int) int {
	x := seed*0x9e3779b97f4a7c15 + 1
	return func(n int) int {
		x ^= x << 13
		x ^= x >> 7
		x ^= x << 17
		return int((x >> 11) % uint64(n))
	}
}

// outcome is what came of a text.
type outcome struct {
	events []parse.Event
	shut   bool
	left   int
}

// plainly is what a text makes, by the words of P13.2, the text being there as a whole.
func plainly(s string) outcome {
	var o outcome
	for {
		line, rest, ended := strings.Cut(s, "\n")
		if len(line) > 2048 {
			return outcome{append(o.events, closes), true, 0}
		}
		if !ended {
			o.left = len(s)
			return o
		}
		s = rest
		if strings.HasSuffix(line, "\r") {
			line = line[:len(line)-1]
		}
		r, e := words.Line(line)
		switch {
		case e == api.ErrForm:
			o.events = append(o.events, wrong)
			continue
		case e == api.ErrArg:
			o.events = append(o.events, client)
			continue
		case r.Verb == api.VQuit:
			return outcome{append(o.events, closes), true, 0}
		case !words.Storing(r.Verb):
			o.events = append(o.events, parse.Event{Request: r})
			continue
		case r.Bytes > 1<<20:
			if !r.NoReply {
				o.events = append(o.events, large)
			}
			if len(s) < r.Bytes+2 {
				return o
			}
			s = s[r.Bytes+2:]
			continue
		}
		behind := s[min(r.Bytes, len(s)):]
		if len(s) <= r.Bytes || behind == "\r" {
			o.left = len(s)
			return o
		}
		if strings.HasPrefix(behind, "\r\n") {
			r.Data, s = s[:r.Bytes], behind[2:]
			o.events = append(o.events, parse.Event{Request: r})
			continue
		}
		o.events = append(o.events, chunk)
		if _, s, ended = strings.Cut(behind, "\n"); !ended {
			return o
		}
	}
}

// comes fails if the pieces don't come to what their text makes.
func comes(t *testing.T, want outcome, pieces ...string) bool {
	t.Helper()
	p := parse.New()
	got := fed(p, pieces...)
	if same(got, want.events) && p.Shut() == want.shut && p.Left() == want.left {
		return true
	}
	t.Errorf("%s in %d pieces: %s, %v, %d, not %s", brief(strings.Join(pieces, "")), len(pieces), short(got), p.Shut(), p.Left(), short(want.events))
	return false
}

// follows fails if the text, byte by byte, isn't behind each of its bytes what it makes up to there:
// each event is told as soon as it can be.
func follows(t *testing.T, s string) bool {
	t.Helper()
	p := parse.New()
	var got []parse.Event
	for i := range len(s) {
		got = append(got, p.Feed(s[i:i+1])...)
		want := plainly(s[:i+1])
		if len(got) != len(want.events) || p.Shut() != want.shut || p.Left() != want.left {
			t.Errorf("%s, up to %d: %s, %v, %d, not %s", brief(s), i, short(got), p.Shut(), p.Left(), short(want.events))
			return false
		}
	}
	return comes(t, plainly(s), bytewise(s)...)
}

// scripts is texts in which each of the states follows on each.
func scripts() []string {
	return []string{
		"",
		"get a\r\nset k 1 2 3\r\nabc\r\n",
		"set k 0 0 1\nabc\nversion\n",
		"get a b c\ngets d\r\n\r\n\nnix\r\nget\r\rb\n",
		"set k 0 0 0\r\n\r\nset k 0 0 0\n\nset k 0 0 0\n\r\r\nset k 0 0 2\r\n\r\n\r\n",
		"add k 7 -1 5 noreply\r\na\r\nb\n\r\ncas k 1 2 3 4\r\nabc\r\ncas k 1 2 3 4 noreply\nabc\nget a\n",
		"set k 0 0 3\r\nabc\rdef\r\r\nappend k 0 0 3\r\nabc\r\nprepend k 0 0 1\nx\n\nreplace k 0 0 1\r\n\n\r\n",
		"set k x 0 3\r\nabc\r\nset k 0 0 -1\nset k 0 0\nset k 0 0 2147483648\nversion\r\n",
		"incr a 5\ndecr a 6 noreply\ntouch a 7\nflush_all 0 noreply\nverbosity 1\nstats\nstats 1\ndelete noreply\n",
		"version\nset k 0 0 5\r\nquit\n\r\nquit now\nquit\r\nget a\nset k 0 0 1\r\n",
		"set k 0 0 2147483647\r\nquit\n\n\nget a\n",
		"set k 0 0 1048577 noreply\r\nquit\n\n\nget a\n",
		"get a\n" + strings.Repeat(" ", 2048) + "\n" + strings.Repeat(" ", 2048) + "\r\nget a\n",
		strings.Repeat("x", 2047) + "\r\nset k 0 0 1\n\r\r\n" + strings.Repeat("y", 2049) + "\nget a\n",
	}
}

// P13.3: a text in one piece, in two, cut at each place, and in single bytes.
func TestCutAnywhere(t *testing.T) {
	for _, s := range scripts() {
		want := plainly(s)
		comes(t, want, s)
		comes(t, want, bytewise(s)...)
		for at := range len(s) + 1 {
			if !comes(t, want, s[:at], s[at:]) || !comes(t, want, s[:at], "", s[at:], "") {
				break
			}
		}
	}
}

// Cut at each two places.
func TestCutInThree(t *testing.T) {
	for _, s := range scripts() {
		if len(s) > 200 {
			continue
		}
		want := plainly(s)
		for at := range len(s) {
			for behind := range len(s) - at {
				if !comes(t, want, s[:at], s[at:at+behind], s[at+behind:]) {
					return
				}
			}
		}
	}
}

// An event comes with the byte that makes it, and Left and Shut are right behind each byte.
func TestAsSoonAsItCanBe(t *testing.T) {
	for _, s := range scripts() {
		follows(t, s)
	}
}

// Pieces of one size each.
func TestCutIntoPieces(t *testing.T) {
	n := api.MaxValue + 1
	text := strings.Join(scripts()[:9], "") + fmt.Sprintf("set big 0 0 %d\r\n%s", n, strings.Repeat("get a\n", n)[:n+2]) +
		fmt.Sprintf("set big 0 0 %d\r\n%s\r\n", n-1, strings.Repeat("get a\n", n)[:n-1]) + strings.Join(scripts()[:9], "") + "quit\n"
	want := plainly(text)
	if len(want.events) < 40 || !want.shut {
		t.Fatal(short(want.events))
	}
	for _, size := range []int{1, 2, 3, 5, 13, 64, 1000, 2048, 2049, 65536, 1 << 20, 1 << 22} {
		comes(t, want, pieces(text, size)...)
	}
}

// scrap is a piece of a text in which a little is wrong now and then.
func scrap(next func(int) int) string {
	end := []string{"\r\n", "\n", "\r\n", "\r\r\n", "\r", "", "x\r\n", "\rx\n"}[next(8)]
	data := strings.Repeat("ab\r\ncd\n\r\r\n", 2)[next(10):][:next(7)]
	claimed := len(data)
	switch next(12) {
	case 0:
		claimed += next(3) - 1
	case 1:
		claimed = next(12)
	case 2:
		claimed = 1<<20 + next(3)
	}
	hush := []string{"", "", " noreply"}[next(3)]
	word := []string{"set", "add", "replace", "append", "prepend", "cas"}[next(6)]
	cas := ""
	if word == "cas" && next(5) > 0 || next(20) == 0 {
		cas = " 9"
	}
	switch next(10) {
	case 0, 1, 2, 3, 4:
		return fmt.Sprintf("%s k%d %d %d %d%s%s", word, next(9), next(9), next(9)-4, claimed, cas, hush) +
			[]string{"\r\n", "\n"}[next(2)] + data + []string{"\r\n", "\r\n", end}[next(3)]
	case 5, 6:
		return []string{"get a", "gets a b", "delete a" + hush, "incr a 1" + hush, "version", "stats", "touch a 5", "flush_all"}[next(8)] + end
	case 7:
		return []string{"nix", "", "set k x 0 1", "get", "incr a b", "quit x", " ", "\r"}[next(8)] + end
	case 8:
		return data
	}
	if next(6) > 0 {
		return end
	}
	return []string{"quit", strings.Repeat("x", 2046+next(5))}[next(2)] + end
}

// Many texts, cut in many ways, come to what they make by the chapter's words.
func TestCutOfManyTexts(t *testing.T) {
	next := chance(13)
	told := map[string]int{}
	for range 4000 {
		var text strings.Builder
		for range next(12) {
			text.WriteString(scrap(next))
		}
		s := text.String()
		want := plainly(s)
		ok := comes(t, want, s) && comes(t, want, bytewise(s)...)
		for range 5 {
			var cut []string
			for rest := s; len(rest) > 0; {
				n := min(next(1+next(40)), len(rest))
				cut, rest = append(cut, rest[:n]), rest[n:]
			}
			ok = ok && comes(t, want, cut...)
		}
		if len(s) < 300 {
			ok = ok && follows(t, s)
		}
		if !ok {
			t.Fatalf("%q", s)
		}
		for _, e := range want.events {
			told[fmt.Sprint(e.Request.Verb, " ", e.Answer.Kind, " ", e.Answer.Text)]++
		}
	}
	for _, e := range these(getA, version, wrong, client, chunk, large, closes, sets("k", "")) {
		if n := told[fmt.Sprint(e.Request.Verb, " ", e.Answer.Kind, " ", e.Answer.Text)]; n < 50 {
			t.Errorf("%+v was met %d times only", e, n)
		}
	}
}

// Texts of few bytes, each of them: nothing panics, and each is as it must be.
func TestCutOfEachShortText(t *testing.T) {
	letters := []string{"\r", "\n", "x", " ", "set k 0 0 1\n", "set k 0 0 0\r\n", "get a", "quit"}
	var try func(s string, more int)
	try = func(s string, more int) {
		want := plainly(s)
		if !comes(t, want, s) || !comes(t, want, bytewise(s)...) {
			t.FailNow()
		}
		if more == 0 {
			return
		}
		for _, letter := range letters {
			try(s+letter, more-1)
		}
	}
	try("", 5)
}

// Long texts are gone through once, in one piece and in many.
func TestManyRequestsAtOnce(t *testing.T) {
	const few = "get a\r\nset k 0 0 3\r\nabc\r\nset k 0 0 1\nabc\nnix\n"
	text := strings.Repeat(few, 30000)
	one := plainly(few)
	if len(one.events) != 4 || one.left != 0 {
		t.Fatal(short(one.events))
	}
	for _, size := range []int{1, 1000, len(text)} {
		p := parse.New()
		got := fed(p, pieces(text, size)...)
		is(t, p, false, 0, "many requests")
		if len(got) != 4*30000 {
			t.Fatal(len(got))
		}
		for i, e := range got {
			if !reflect.DeepEqual(e, one.events[i%4]) {
				t.Fatal(i, short(these(e)))
			}
		}
	}
}
