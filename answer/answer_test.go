package answer_test

import (
	"fmt"
	"math"
	"math/big"
	"reflect"
	"slices"
	"strings"
	"testing"
	"unsafe"

	"depot/answer"
	"depot/api"
)

// crlf is 13 10.
var crlf = string([]byte{13, 10})

// alone is what is said of the kinds that say one line, whatever else stands in the answer.
var alone = map[int]string{
	api.AStored: "STORED", api.ANotStored: "NOT_STORED", api.AExists: "EXISTS", api.ANotFound: "NOT_FOUND",
	api.ADeleted: "DELETED", api.ATouched: "TOUCHED", api.AOK: "OK", api.AError: "ERROR", api.AVersion: "VERSION depot",
}

// unknown is kinds that the table doesn't name, the zero kind too.
var unknown = []int{
	0, -1, -2, -api.AStored, api.AClose + 1, api.AClose + 2, 99, 255, 256, 256 + api.AStored, 1<<32 + api.AStored,
	math.MaxInt32, math.MinInt32, math.MaxInt, math.MinInt,
}

// edges is numbers about 0 and about the greatest of their sizes, and below 0.
var edges = []int{
	0, 1, 9, 10, 99, 100, 1<<16 - 1, 1<<31 - 1, 1 << 31, 1<<32 - 1, 1 << 32, 1 << 40, 1<<40 + 1, 1<<53 + 1, math.MaxInt - 1, math.MaxInt,
	-1, -9, -10, -1 << 31, -1 << 32, -1 << 40, math.MinInt + 1, math.MinInt,
}

// kinds is all kinds of the table, and others.
func kinds() []int {
	l := slices.Clone(unknown)
	for k := api.AValues; k <= api.AClose; k++ {
		l = append(l, k)
	}
	return l
}

// full is an answer of that kind, in which each field has something.
func full(kind int) api.Answer {
	return api.Answer{
		Kind:   kind,
		Values: []api.Found{{Key: "a", Flags: 5, Value: "xy", Cas: 9}, {Key: "b", Flags: 6, Value: "z", Cas: 10}},
		Gets:   true, Num: 77, Text: "a text", Stats: [4]int{1, 2, 3, 4},
	}
}

// values is an AValues of these.
func values(gets bool, found ...api.Found) api.Answer {
	return api.Answer{Kind: api.AValues, Gets: gets, Values: found}
}

// lines is the texts, each with 13 10 behind it.
func lines(l ...string) string {
	s := ""
	for _, one := range l {
		s += one + crlf
	}
	return s
}

// brief tells a text in few letters, however long it is.
func brief(s string) string {
	return fmt.Sprintf("%q of %d bytes", s[:min(len(s), 120)], len(s))
}

// says fails if the Text of a isn't want.
func says(t *testing.T, a api.Answer, want string) {
	t.Helper()
	if got := answer.Text(a); got != want {
		t.Errorf("Text of kind %d, %s: %s, not %s", a.Kind, fmt.Sprintf("%.200q", fmt.Sprint(a)), brief(got), brief(want))
	}
}

// told is the digits of n, or of 0, if it is below.
func told(n int) string {
	if n < 0 {
		return "0"
	}
	return big.NewInt(int64(n)).String()
}

// chance is a row of numbers that is the same for the same seed.
func chance(seed uint64) func() uint64 {
	x := seed*0x9e3779b97f4a7c15 + 1
	return func() uint64 {
		x ^= x << 13
		x ^= x >> 7
		x ^= x << 17
		return x >> ((x >> 5) % 64)
	}
}

// The kinds are the table's, in api's order.
func TestKinds(t *testing.T) {
	if api.AValues != 1 || api.AClose != 15 || len(alone) != 9 {
		t.Error(api.AValues, api.AClose, len(alone))
	}
}

// P14.1: kinds of one line

func TestLinesAlone(t *testing.T) {
	for kind, want := range alone {
		says(t, api.Answer{Kind: kind}, want+crlf)
		says(t, full(kind), want+crlf)
	}
}

func TestNumber(t *testing.T) {
	for n, want := range map[uint64]string{
		0: "0", 1: "1", 9: "9", 10: "10", 15: "15", 100: "100", 1<<31 - 1: "2147483647", 1 << 32: "4294967296",
		1<<63 - 1: "9223372036854775807", 1 << 63: "9223372036854775808", 1<<63 + 1: "9223372036854775809",
		1<<64 - 2: "18446744073709551614", math.MaxUint64: "18446744073709551615",
	} {
		says(t, api.Answer{Kind: api.ANumber, Num: n}, want+crlf)
		a := full(api.ANumber)
		a.Num = n
		says(t, a, want+crlf)
	}
	next := chance(1)
	for range 20000 {
		n := next()
		says(t, api.Answer{Kind: api.ANumber, Num: n}, new(big.Int).SetUint64(n).String()+crlf)
	}
}

func TestClientAndServer(t *testing.T) {
	for kind, word := range map[int]string{api.AClient: "CLIENT_ERROR", api.AServer: "SERVER_ERROR"} {
		for _, text := range []string{
			"", " ", "x", "x y", "  two  blanks  ", "bad data chunk", "bad command line format", "object too large for cache",
			"\x00\xff\x80", "é", "END", "a\r\nb", "\r\n", "%s%d", strings.Repeat("long ", 1<<16),
		} {
			says(t, api.Answer{Kind: kind, Text: text}, word+" "+text+crlf)
			a := full(kind)
			a.Text = text
			says(t, a, word+" "+text+crlf)
		}
	}
}

func TestCloseAndOthersSayNothing(t *testing.T) {
	for _, kind := range append([]int{api.AClose}, unknown...) {
		says(t, api.Answer{Kind: kind}, "")
		says(t, full(kind), "")
	}
}

// P14.1: AStats

func TestStats(t *testing.T) {
	says(t, api.Answer{Kind: api.AStats}, lines("STAT slots_up 0", "STAT cmd_get 0", "STAT cmd_set 0", "STAT get_hits 0", "END"))
	says(t, full(api.AStats), lines("STAT slots_up 1", "STAT cmd_get 2", "STAT cmd_set 3", "STAT get_hits 4", "END"))
	says(t, api.Answer{Kind: api.AStats, Stats: [4]int{12, 0, -7, math.MaxInt}},
		lines("STAT slots_up 12", "STAT cmd_get 0", "STAT cmd_set 0", "STAT get_hits 9223372036854775807", "END"))
	says(t, api.Answer{Kind: api.AStats, Stats: [4]int{-1, math.MinInt, math.MaxInt - 1, 10}},
		lines("STAT slots_up 0", "STAT cmd_get 0", "STAT cmd_set 9223372036854775806", "STAT get_hits 10", "END"))
}

// Each number at each place, the others being others.
func TestStatsAtEachPlace(t *testing.T) {
	names := []string{"slots_up", "cmd_get", "cmd_set", "get_hits"}
	for at := range names {
		for _, n := range edges {
			counts := [4]int{21, 22, 23, 24}
			counts[at] = n
			want := ""
			for i, name := range names {
				want += "STAT " + name + " " + told(counts[i]) + crlf
			}
			says(t, api.Answer{Kind: api.AStats, Stats: counts}, want+"END"+crlf)
		}
	}
}

// P14.1: AValues

func TestNoValues(t *testing.T) {
	for _, gets := range []bool{false, true} {
		says(t, values(gets), "END"+crlf)
		says(t, api.Answer{Kind: api.AValues, Gets: gets, Values: []api.Found{}}, "END"+crlf)
		a := full(api.AValues)
		a.Gets, a.Values = gets, a.Values[:0]
		says(t, a, "END"+crlf)
	}
}

func TestValues(t *testing.T) {
	one := api.Found{Key: "a", Flags: 5, Value: "xy", Cas: 9}
	two := api.Found{Key: "long_key", Flags: 4294967295, Value: "0123456789ab", Cas: 1 << 40}
	says(t, values(false, one), lines("VALUE a 5 2", "xy", "END"))
	says(t, values(true, one), lines("VALUE a 5 2 9", "xy", "END"))
	says(t, values(false, one, two), lines("VALUE a 5 2", "xy", "VALUE long_key 4294967295 12", "0123456789ab", "END"))
	says(t, values(true, two, one), lines("VALUE long_key 4294967295 12 1099511627776", "0123456789ab", "VALUE a 5 2 9", "xy", "END"))
	says(t, values(false, one, one, one), lines("VALUE a 5 2", "xy", "VALUE a 5 2", "xy", "VALUE a 5 2", "xy", "END"))
	says(t, values(true, api.Found{}, one, api.Found{}), lines("VALUE  0 0 0", "", "VALUE a 5 2 9", "xy", "VALUE  0 0 0", "", "END"))
	says(t, values(false, api.Found{}), lines("VALUE  0 0", "", "END"))
	says(t, full(api.AValues), lines("VALUE a 5 2 9", "xy", "VALUE b 6 1 10", "z", "END"))
}

// A value is told as it is, and counted in bytes, whatever it holds.
func TestValuesOfAnyBytes(t *testing.T) {
	all := make([]byte, 256)
	for i := range all {
		all[i] = byte(i)
	}
	for _, v := range []string{
		"", " ", "\r", "\n", "\r\n", "\r\n\r\n", "a\r\nb", "\r\nEND\r\n", "END\r\n", "END", "VALUE a 0 0\r\n", "\x00", "\x00\x00",
		"é", "日本", "\xff\xfe", "\xc3", "\x80x", "%s %d %%", "\\r\\n", "\"", string(all), strings.Repeat("\r\n", 1000),
		strings.Repeat("v", api.MaxValue), strings.Repeat("\xff", api.MaxValue+1),
	} {
		n := big.NewInt(int64(len(v))).String()
		found := api.Found{Key: "k", Flags: 1, Value: v, Cas: 2}
		next := api.Found{Key: "n", Value: "w"}
		says(t, values(false, found), "VALUE k 1 "+n+"\r\n"+v+"\r\nEND\r\n")
		says(t, values(true, found), "VALUE k 1 "+n+" 2\r\n"+v+"\r\nEND\r\n")
		says(t, values(false, found, next), "VALUE k 1 "+n+"\r\n"+v+"\r\nVALUE n 0 1\r\nw\r\nEND\r\n")
		says(t, values(true, next, found), "VALUE n 0 1 0\r\nw\r\nVALUE k 1 "+n+" 2\r\n"+v+"\r\nEND\r\n")
	}
	for b := range 256 {
		v := string([]byte{byte(b)})
		says(t, values(false, api.Found{Key: "k", Value: v}), "VALUE k 0 1\r\n"+v+"\r\nEND\r\n")
	}
}

// A key is told as it is, too.
func TestKeysOfAnyBytes(t *testing.T) {
	for _, key := range []string{"", "a", " ", "a b", "é", "\xff\x00", "\r\n", "%d", strings.Repeat("k", api.MaxKey), strings.Repeat("k", 5000)} {
		says(t, values(false, api.Found{Key: key, Value: "v"}), "VALUE "+key+" 0 1\r\nv\r\nEND\r\n")
		says(t, values(true, api.Found{Key: key, Value: "v"}), "VALUE "+key+" 0 1 0\r\nv\r\nEND\r\n")
	}
}

func TestFlagsAndCas(t *testing.T) {
	for _, flags := range edges {
		for _, cas := range edges {
			found := api.Found{Key: "k", Flags: flags, Value: "abc", Cas: cas}
			says(t, values(false, found), "VALUE k "+told(flags)+" 3\r\nabc\r\nEND\r\n")
			says(t, values(true, found), "VALUE k "+told(flags)+" 3 "+told(cas)+"\r\nabc\r\nEND\r\n")
		}
	}
	says(t, values(true, api.Found{Key: "k", Flags: -1, Cas: math.MinInt}), "VALUE k 0 0 0\r\n\r\nEND\r\n")
	says(t, values(true, api.Found{Key: "k", Flags: math.MaxInt, Cas: math.MaxInt}),
		"VALUE k 9223372036854775807 0 9223372036854775807\r\n\r\nEND\r\n")
}

// Many values are gone through once each.
func TestManyValues(t *testing.T) {
	for _, gets := range []bool{false, true} {
		var b strings.Builder
		var found []api.Found
		for i := range 200000 {
			f := api.Found{Key: fmt.Sprint("key", i), Flags: i % 7, Value: strings.Repeat("v", i%5), Cas: i}
			found = append(found, f)
			fmt.Fprintf(&b, "VALUE %s %d %d", f.Key, f.Flags, len(f.Value))
			if gets {
				fmt.Fprintf(&b, " %d", f.Cas)
			}
			fmt.Fprintf(&b, "\r\n%s\r\n", f.Value)
		}
		if got := answer.Text(values(gets, found...)); got != b.String()+"END\r\n" {
			t.Error("many values:", brief(got), "not", brief(b.String()))
		}
	}
}

func TestManyLargeValues(t *testing.T) {
	v := strings.Repeat("0123456789abcdef", api.MaxValue/16)
	found := make([]api.Found, api.MaxMulti)
	for i := range found {
		found[i] = api.Found{Key: "k", Flags: 3, Value: v, Cas: 4}
	}
	want := strings.Repeat("VALUE k 3 1048576 4\r\n"+v+"\r\n", api.MaxMulti) + "END\r\n"
	if got := answer.Text(values(true, found...)); got != want {
		t.Error("large values:", brief(got), "not", brief(want))
	}
}

// plainly is P14.1's table, written by the library.
func plainly(a api.Answer) string {
	s := ""
	switch a.Kind {
	case api.AValues:
		for _, f := range a.Values {
			s += fmt.Sprintf("VALUE %s %s %d", f.Key, told(f.Flags), len(f.Value))
			if a.Gets {
				s += " " + told(f.Cas)
			}
			s += "\r\n" + f.Value + "\r\n"
		}
		return s + "END\r\n"
	case api.AStats:
		return fmt.Sprintf("STAT slots_up %s\r\nSTAT cmd_get %s\r\nSTAT cmd_set %s\r\nSTAT get_hits %s\r\nEND\r\n",
			told(a.Stats[0]), told(a.Stats[1]), told(a.Stats[2]), told(a.Stats[3]))
	case api.ANumber:
		return fmt.Sprintf("%d\r\n", a.Num)
	case api.AClient:
		return "CLIENT_ERROR " + a.Text + "\r\n"
	case api.AServer:
		return "SERVER_ERROR " + a.Text + "\r\n"
	}
	if word, ok := alone[a.Kind]; ok {
		return word + "\r\n"
	}
	return ""
}

// some is a text of few bytes, ends of lines among them.
func some(next func() uint64) string {
	letters := "ab \r\n\x00\xff%0"
	b := make([]byte, next()%9)
	for i := range b {
		b[i] = letters[next()%uint64(len(letters))]
	}
	return string(b)
}

// number is one of any size, one in two below 0.
func number(next func() uint64) int {
	n := int(next() >> 1)
	if next()%2 == 0 {
		return -n
	}
	return n
}

// anyAnswer is one of any kind, of which each field has something or nothing.
func anyAnswer(next func() uint64) api.Answer {
	a := api.Answer{Kind: int(next()%18) - 1, Gets: next()%2 == 0, Num: next(), Text: some(next)}
	for range next() % 5 {
		a.Values = append(a.Values, api.Found{Key: some(next), Flags: number(next), Value: some(next), Cas: number(next)})
	}
	for i := range a.Stats {
		a.Stats[i] = number(next)
	}
	return a
}

func TestManyAnswers(t *testing.T) {
	next := chance(14)
	seen := map[int]int{}
	for range 50000 {
		a := anyAnswer(next)
		seen[a.Kind]++
		says(t, a, plainly(a))
		for _, hush := range []bool{false, true} {
			if got := answer.Quiet(api.Request{NoReply: hush}, a); got != (hush && a.Kind != 13) {
				t.Errorf("Quiet of noreply %v, kind %d = %v", hush, a.Kind, got)
			}
		}
	}
	for kind := -1; kind <= api.AClose+1; kind++ {
		if seen[kind] < 100 {
			t.Error("kind", kind, "was met", seen[kind], "times")
		}
	}
}

// What is said ends with 13 10, wherever something is said.
func TestEachTextEndsALine(t *testing.T) {
	for _, kind := range kinds() {
		got := answer.Text(full(kind))
		if got != "" && !strings.HasSuffix(got, crlf) {
			t.Errorf("kind %d: %q", kind, got)
		}
		if strings.Count(got, "\r") != strings.Count(got, "\n") || strings.Count(got, "\r\n") != strings.Count(got, "\n") {
			t.Errorf("kind %d: %q", kind, got)
		}
		if said := api.AValues <= kind && kind < api.AClose; said != (got != "") {
			t.Errorf("kind %d: %q", kind, got)
		}
	}
}

// P14.2

func TestQuiet(t *testing.T) {
	for _, kind := range kinds() {
		for _, a := range []api.Answer{{Kind: kind}, full(kind)} {
			for verb := -1; verb <= api.VQuit+1; verb++ {
				plain := api.Request{Verb: verb, Keys: []string{"noreply"}, Flags: 1, Exp: 1, Bytes: 1, Cas: 1, Delta: 1, Data: "noreply"}
				hush := plain
				hush.NoReply = true
				if answer.Quiet(plain, a) || answer.Quiet(api.Request{Verb: verb}, a) {
					t.Errorf("Quiet of verb %d without noreply, kind %d", verb, kind)
				}
				if want := kind != api.AClient; answer.Quiet(hush, a) != want || answer.Quiet(api.Request{Verb: verb, NoReply: true}, a) != want {
					t.Errorf("Quiet of verb %d with noreply, kind %d, isn't %v", verb, kind, want)
				}
			}
		}
	}
}

// R2, R4, R5

// shares tells whether the bytes of a and of b stand, in part, at the same place.
func shares(a, b string) bool {
	if a == "" || b == "" {
		return false
	}
	x, y := uintptr(unsafe.Pointer(unsafe.StringData(a))), uintptr(unsafe.Pointer(unsafe.StringData(b)))
	return x < y+uintptr(len(b)) && y < x+uintptr(len(a))
}

// Neither what is handed in nor its spare room is read past its length or changed.
func TestWhatIsHandedInIsNotChanged(t *testing.T) {
	roomy := func(kind int) (api.Answer, []api.Found) {
		room := []api.Found{{Key: "a", Flags: -5, Value: "xy", Cas: -9}, {Key: "b", Value: "z", Cas: 1}, {Key: "spare", Flags: -1, Value: "room", Cas: -2}, {}}
		a := full(kind)
		a.Values, a.Stats = room[:2], [4]int{-1, 2, -3, 4}
		return a, room
	}
	keys := func() []string { return []string{"a", "b", "spare"} }
	for _, kind := range kinds() {
		for _, hush := range []bool{false, true} {
			a, room := roomy(kind)
			same, sameRoom := roomy(kind)
			list := keys()
			r := api.Request{Verb: api.VGet, Keys: list[:2], NoReply: hush, Data: "d"}
			says(t, a, plainly(same))
			answer.Quiet(r, a)
			if !reflect.DeepEqual(a, same) || !reflect.DeepEqual(room, sameRoom) || cap(a.Values) != 4 {
				t.Errorf("kind %d: the answer is %v, its room %v", kind, a, room)
			}
			if !reflect.DeepEqual(r, api.Request{Verb: api.VGet, Keys: keys()[:2], NoReply: hush, Data: "d"}) || !slices.Equal(list, keys()) {
				t.Errorf("kind %d: the request is %v, its room %v", kind, r, list)
			}
		}
	}
}

// A text that was told stands on its own memory, and as it is, whatever becomes of what was handed in.
func TestTextIsNewMemory(t *testing.T) {
	for _, kind := range kinds() {
		key, value, text := []byte("key"), []byte("a value"), []byte("a text")
		view := func(b []byte) string { return unsafe.String(&b[0], len(b)) }
		a := api.Answer{Kind: kind, Gets: true, Text: view(text), Values: []api.Found{{Key: view(key), Value: view(value)}}}
		got := answer.Text(a)
		want := strings.Clone(got)
		for _, part := range []string{a.Text, a.Values[0].Key, a.Values[0].Value} {
			if shares(got, part) {
				t.Errorf("kind %d: its text shares memory with %q", kind, part)
			}
		}
		a.Values[0] = api.Found{}
		for _, b := range [][]byte{key, value, text} {
			clear(b)
		}
		if got != want {
			t.Errorf("kind %d: %q became %q", kind, want, got)
		}
	}
}

// Nothing is kept from call to call.
func TestSameAnswerTellsTheSame(t *testing.T) {
	tell := func() []string {
		var l []string
		next := chance(3)
		for range 2000 {
			l = append(l, answer.Text(anyAnswer(next)))
		}
		return l
	}
	if !slices.Equal(tell(), tell()) {
		t.Error("not the same")
	}
}

// Runs

func TestRuns(t *testing.T) {
	says(t, api.Answer{Kind: api.AValues, Gets: true, Values: []api.Found{{Key: "a", Flags: 5, Value: "xy", Cas: 9}}},
		"VALUE a 5 2 9\x0d\x0axy\x0d\x0aEND\x0d\x0a")
	says(t, api.Answer{Kind: api.AStored}, "STORED\x0d\x0a")
	says(t, api.Answer{Kind: api.AClose}, "")
	says(t, api.Answer{Kind: api.AServer, Text: "x"}, "SERVER_ERROR x\x0d\x0a")
}
