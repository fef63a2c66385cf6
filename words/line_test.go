package words_test

import (
	"fmt"
	"math/big"
	"reflect"
	"regexp"
	"slices"
	"strings"
	"testing"

	"depot/api"
	"depot/words"
)

// asks fails if the line isn't told as want.
func asks(t *testing.T, line string, want api.Request) {
	t.Helper()
	if got, e := words.Line(line); e != api.OK || !reflect.DeepEqual(got, want) {
		t.Errorf("Line(%q) = %+v, %d, not %+v", brief(line), got, e, want)
	}
}

// refuses fails if the line isn't refused for that reason, with a request that is zero.
func refuses(t *testing.T, want api.Errno, lines ...string) {
	t.Helper()
	for _, line := range lines {
		if got, e := words.Line(line); e != want || !reflect.DeepEqual(got, api.Request{}) {
			t.Errorf("Line(%q) = %+v, %d, not %d", brief(line), got, e, want)
		}
	}
}

// keys is so many keys.
func keys(n int) []string {
	var l []string
	for i := range n {
		l = append(l, fmt.Sprint("k", i))
	}
	return l
}

// The limits are the document's.
func TestLimits(t *testing.T) {
	if api.MaxKey != 250 || api.MaxMulti != 64 || api.MaxRid != 1<<40 || api.MaxTime != 1<<40 {
		t.Error(api.MaxKey, api.MaxMulti, api.MaxRid, api.MaxTime)
	}
}

// P12.2: each word with its least and its most arguments

func TestGet(t *testing.T) {
	for word, verb := range map[string]int{"get": api.VGet, "gets": api.VGets} {
		asks(t, word+" a", api.Request{Verb: verb, Keys: []string{"a"}})
		asks(t, word+" a b", api.Request{Verb: verb, Keys: []string{"a", "b"}})
		asks(t, "  "+word+"   b a  a ", api.Request{Verb: verb, Keys: []string{"b", "a", "a"}})
		for _, n := range []int{1, 2, 5, 6, 7, 63, 64} {
			asks(t, word+" "+strings.Join(keys(n), " "), api.Request{Verb: verb, Keys: keys(n)})
		}
		refuses(t, api.ErrForm, word, word+" ", " "+word, word+" "+strings.Join(keys(65), " "), word+" "+strings.Join(keys(1000), " "))
		refuses(t, api.ErrForm, word+" \x01 "+strings.Join(keys(64), " "), word+" "+strings.Join(keys(64), " ")+" \x7f")
		refuses(t, api.ErrArg, word+" \x01", word+" a b\x7f", word+" a\tb", word+" a \r", word+" a\r",
			word+" "+strings.Repeat("k", 251), word+" a "+strings.Repeat("k", 251), word+" "+strings.Join(keys(63), " ")+" \x00")
		long := strings.Repeat("k", 250)
		asks(t, word+" "+long+" "+long, api.Request{Verb: verb, Keys: []string{long, long}})
	}
}

// noreply is a key of get and gets, wherever it stands.
func TestGetOfNoreply(t *testing.T) {
	for word, verb := range map[string]int{"get": api.VGet, "gets": api.VGets} {
		asks(t, word+" noreply", api.Request{Verb: verb, Keys: []string{"noreply"}})
		asks(t, word+" a noreply", api.Request{Verb: verb, Keys: []string{"a", "noreply"}})
		asks(t, word+" noreply a", api.Request{Verb: verb, Keys: []string{"noreply", "a"}})
		asks(t, word+" noreply noreply", api.Request{Verb: verb, Keys: []string{"noreply", "noreply"}})
		asks(t, word+" "+strings.Join(keys(63), " ")+" noreply", api.Request{Verb: verb, Keys: append(keys(63), "noreply")})
		refuses(t, api.ErrForm, word+" "+strings.Join(keys(64), " ")+" noreply")
	}
}

func TestStoringLines(t *testing.T) {
	for word, verb := range map[string]int{
		"set": api.VSet, "add": api.VAdd, "replace": api.VReplace, "append": api.VAppend, "prepend": api.VPrepend,
	} {
		a := []string{"a"}
		asks(t, word+" a 0 0 0", api.Request{Verb: verb, Keys: a})
		asks(t, word+" a 1 2 3", api.Request{Verb: verb, Keys: a, Flags: 1, Exp: 2, Bytes: 3})
		asks(t, word+" a 1 2 3 noreply", api.Request{Verb: verb, Keys: a, Flags: 1, Exp: 2, Bytes: 3, NoReply: true})
		asks(t, word+" a 1 -2 3", api.Request{Verb: verb, Keys: a, Flags: 1, Exp: -2, Bytes: 3})
		asks(t, word+" a 4294967295 1099511627776 2147483647", api.Request{Verb: verb, Keys: a, Flags: 1<<32 - 1, Exp: 1 << 40, Bytes: 1<<31 - 1})
		asks(t, word+" a 4294967294 -1099511627776 2147483646", api.Request{Verb: verb, Keys: a, Flags: 1<<32 - 2, Exp: -1 << 40, Bytes: 1<<31 - 2})
		asks(t, word+" noreply 1 2 3", api.Request{Verb: verb, Keys: []string{"noreply"}, Flags: 1, Exp: 2, Bytes: 3})
		asks(t, word+" noreply 1 2 3 noreply", api.Request{Verb: verb, Keys: []string{"noreply"}, Flags: 1, Exp: 2, Bytes: 3, NoReply: true})
		refuses(t, api.ErrForm, word, word+" a", word+" a 1", word+" a 1 2", word+" noreply", word+" a noreply", word+" a 1 noreply",
			word+" a 1 2 3 4", word+" a 1 2 3 4 5", word+" a 1 2 3 4 noreply", word+" a 1 2 3 noreply noreply", word+" a 1 2 3 noreply 4",
			word+" a 1 2 3 Noreply", word+" a x 2 3 4", word+" \x01 1 2 3 4", word+" a 1 2 3 noreply\r", word+" a x 2")
		refuses(t, api.ErrArg, word+" a 1 2 noreply", word+" a 1 noreply 3", word+" a noreply 2 3", word+" a 1 noreply 3 noreply",
			word+" a noreply noreply noreply noreply", word+" a 1 2 noreply noreply",
			word+" a 4294967296 2 3", word+" a 1 1099511627777 3", word+" a 1 -1099511627777 3", word+" a 1 2 2147483648",
			word+" a -1 2 3", word+" a 1 2 -3", word+" a x 2 3", word+" a 1 x 3", word+" a 1 2 x", word+" a 1 2 3\r", word+" a +1 2 3", word+" a 1 +2 3",
			word+" a\x7f 1 2 3", word+" \x01 1 2 3", word+" "+strings.Repeat("k", 251)+" 1 2 3", word+" \x01 x x x", word+" a x 2 3 noreply")
	}
}

func TestCas(t *testing.T) {
	a := []string{"a"}
	asks(t, "cas a 0 0 0 0", api.Request{Verb: api.VCas, Keys: a})
	asks(t, "cas a 1 2 3 4", api.Request{Verb: api.VCas, Keys: a, Flags: 1, Exp: 2, Bytes: 3, Cas: 4})
	asks(t, "cas a 1 2 3 4 noreply", api.Request{Verb: api.VCas, Keys: a, Flags: 1, Exp: 2, Bytes: 3, Cas: 4, NoReply: true})
	asks(t, "cas noreply 1 -2 3 4", api.Request{Verb: api.VCas, Keys: []string{"noreply"}, Flags: 1, Exp: -2, Bytes: 3, Cas: 4})
	asks(t, "cas a 4294967295 1099511627776 2147483647 1099511627776",
		api.Request{Verb: api.VCas, Keys: a, Flags: 1<<32 - 1, Exp: 1 << 40, Bytes: 1<<31 - 1, Cas: 1 << 40})
	refuses(t, api.ErrForm, "cas", "cas a", "cas a 1", "cas a 1 2", "cas a 1 2 3", "cas a 1 2 noreply", "cas a 1 2 3 4 5", "cas a 1 2 3 4 noreply 5",
		"cas a 1 2 3 4 noreply noreply", "cas a 1 2 3 4 5 noreply", "cas a x 2 3 4 5")
	refuses(t, api.ErrArg, "cas a 1 2 3 noreply", "cas a 1 2 noreply 4", "cas a 1 noreply 3 4", "cas a noreply 2 3 4", "cas a 1 2 3 noreply noreply",
		"cas a 1 2 3 1099511627777", "cas a 1 2 3 -4", "cas a 1 2 3 x", "cas a 1 2 2147483648 4", "cas a 1 1099511627777 3 4", "cas a 4294967296 2 3 4",
		"cas a\x00 1 2 3 4", "cas a 1 2 x 4", "cas a 1 x 3 4", "cas a x 2 3 4")
}

func TestDelete(t *testing.T) {
	asks(t, "delete a", api.Request{Verb: api.VDelete, Keys: []string{"a"}})
	asks(t, "delete a noreply", api.Request{Verb: api.VDelete, Keys: []string{"a"}, NoReply: true})
	asks(t, "delete noreply", api.Request{Verb: api.VDelete, Keys: []string{"noreply"}})
	asks(t, "delete noreply noreply", api.Request{Verb: api.VDelete, Keys: []string{"noreply"}, NoReply: true})
	refuses(t, api.ErrForm, "delete", "delete a b", "delete a 0", "delete noreply a", "delete a b noreply", "delete a noreply noreply",
		"delete noreply noreply noreply", "delete \x01 \x01")
	refuses(t, api.ErrArg, "delete \x01", "delete a\x7f", "delete \x01 noreply", "delete "+strings.Repeat("k", 251), "delete noreply\r")
}

func TestIncrAndDecr(t *testing.T) {
	for word, verb := range map[string]int{"incr": api.VIncr, "decr": api.VDecr} {
		a := []string{"a"}
		asks(t, word+" a 0", api.Request{Verb: verb, Keys: a})
		asks(t, word+" a 7", api.Request{Verb: verb, Keys: a, Delta: 7})
		asks(t, word+" a 7 noreply", api.Request{Verb: verb, Keys: a, Delta: 7, NoReply: true})
		asks(t, word+" a 18446744073709551615", api.Request{Verb: verb, Keys: a, Delta: 1<<64 - 1})
		asks(t, word+" a 18446744073709551614 noreply", api.Request{Verb: verb, Keys: a, Delta: 1<<64 - 2, NoReply: true})
		asks(t, word+" noreply 1", api.Request{Verb: verb, Keys: []string{"noreply"}, Delta: 1})
		refuses(t, api.ErrForm, word, word+" a", word+" noreply", word+" a 1 2", word+" a 1 noreply noreply", word+" a 1 2 noreply", word+" a x 2", word+" \x01")
		refuses(t, api.ErrArg, word+" a noreply", word+" a noreply noreply", word+" noreply noreply", word+" a 18446744073709551616", word+" a -1", word+" a x",
			word+" a 000000000000000000001", word+" \x01 1", word+" a 99999999999999999999", word+" a 1\t")
	}
}

func TestTouch(t *testing.T) {
	a := []string{"a"}
	asks(t, "touch a 0", api.Request{Verb: api.VTouch, Keys: a})
	asks(t, "touch a 5", api.Request{Verb: api.VTouch, Keys: a, Exp: 5})
	asks(t, "touch a -5 noreply", api.Request{Verb: api.VTouch, Keys: a, Exp: -5, NoReply: true})
	asks(t, "touch noreply 5", api.Request{Verb: api.VTouch, Keys: []string{"noreply"}, Exp: 5})
	refuses(t, api.ErrForm, "touch", "touch a", "touch noreply", "touch a 1 2", "touch a 1 2 noreply", "touch a 1 noreply noreply", "touch a x 2", "touch \x01")
	refuses(t, api.ErrArg, "touch a noreply", "touch noreply noreply", "touch a noreply noreply", "touch a x", "touch \x01 5")
}

// A signed number, as touch has it.
func TestSigned(t *testing.T) {
	for s, want := range map[string]int{
		"0": 0, "-0": 0, "00": 0, "-00": 0, "1": 1, "-1": -1, "12": 12, "-12": -12, "007": 7, "-007": -7,
		"1099511627775": 1<<40 - 1, "1099511627776": 1 << 40, "-1099511627775": 1 - 1<<40, "-1099511627776": -1 << 40,
		"00000001099511627776": 1 << 40, "-00000001099511627776": -1 << 40, "-00000000000000000000": 0, "2592000": api.Month, "-2592001": -api.Month - 1,
	} {
		asks(t, "touch a "+s, api.Request{Verb: api.VTouch, Keys: []string{"a"}, Exp: want})
		asks(t, "set a 1 "+s+" 2", api.Request{Verb: api.VSet, Keys: []string{"a"}, Flags: 1, Exp: want, Bytes: 2})
		asks(t, "cas a 1 "+s+" 2 3 noreply", api.Request{Verb: api.VCas, Keys: []string{"a"}, Flags: 1, Exp: want, Bytes: 2, Cas: 3, NoReply: true})
	}
	for _, s := range []string{
		"-", "--", "--1", "-+1", "+1", "+-1", "+", "1-", "1-1", "-1-", "-x", "-1x", "−1", "1099511627777", "-1099511627777", "9223372036854775808",
		"-9223372036854775808", "18446744073709551615", "-18446744073709551615", "18446744073709551616", "-18446744073709551616",
		"000000000000000000000", "-000000000000000000000", "-000000000000000000001", "-\t1", "1.0", "0x1",
	} {
		refuses(t, api.ErrArg, "touch a "+s, "set a 1 "+s+" 2", "cas a 1 "+s+" 2 3", "set a 1 "+s+" 2 noreply")
	}
	refuses(t, api.ErrForm, "touch a - 1")
}

func TestFlush(t *testing.T) {
	asks(t, "flush_all", api.Request{Verb: api.VFlush})
	asks(t, "flush_all 0", api.Request{Verb: api.VFlush})
	asks(t, "flush_all noreply", api.Request{Verb: api.VFlush, NoReply: true})
	asks(t, "flush_all 0 noreply", api.Request{Verb: api.VFlush, NoReply: true})
	refuses(t, api.ErrForm, "flush_all 0 0", "flush_all 0 0 noreply", "flush_all noreply 0", "flush_all 0 noreply noreply", "flush_all noreply noreply noreply",
		"flush_all 1 2", "flush_all 1 2 noreply", "flush_all noreply noreply 0")
	refuses(t, api.ErrArg, "flush_all 1", "flush_all 5", "flush_all 00", "flush_all -0", "flush_all x", "flush_all 1 noreply", "flush_all noreply noreply",
		"flush_all 0\r", "flush_all +0", "flush_all a")
}

func TestWordsAlone(t *testing.T) {
	for word, verb := range map[string]int{"version": api.VVersion, "stats": api.VStats, "quit": api.VQuit} {
		asks(t, word, api.Request{Verb: verb})
		asks(t, "  "+word+" ", api.Request{Verb: verb})
		refuses(t, api.ErrForm, word+" a", word+" 0", word+" noreply", word+" noreply noreply", word+" a noreply", word+" \x01", word+"\r")
	}
}

func TestVerbosity(t *testing.T) {
	for _, s := range []string{"0", "1", "01", "4294967294", "4294967295"} {
		asks(t, "verbosity "+s, api.Request{Verb: api.VVerbosity})
		asks(t, "verbosity "+s+" noreply", api.Request{Verb: api.VVerbosity, NoReply: true})
	}
	refuses(t, api.ErrForm, "verbosity", "verbosity 1 2", "verbosity 1 2 noreply", "verbosity 1 noreply noreply", "verbosity noreply 1", "verbosity x y")
	refuses(t, api.ErrArg, "verbosity noreply", "verbosity noreply noreply", "verbosity x", "verbosity -1", "verbosity 4294967296", "verbosity x noreply",
		"verbosity 99999999999999999999")
}

func TestNoWord(t *testing.T) {
	refuses(t, api.ErrForm, "", " ", "    ", strings.Repeat(" ", 5000))
	refuses(t, api.ErrForm, "nix", "nix a", "nix a b noreply", "noreply", "0", "a", "\r", "\n", "\x00", "\t",
		"GET a", "Get a", "get\ta", "get\r", "\tget a", "geta", "ge a", "getss a", "get\x00 a", "gat a", "gat", "mget a",
		"SET a 1 2 3", "sets a 1 2 3", "Cas a 1 2 3 4", "casn a 1 2 3 4", "del a", "deletes a", "inc a 1", "incrs a 1", "Touch a 1",
		"flush", "flush_al", "flush_all_", "FLUSH_ALL", "flush all", "Version", "versions", "Stats", "stat", "Quit", "exit", "verbose 1", "verbosit 1",
		strings.Repeat("get", 1000))
}

// What is told of a line hangs on its parts alone, not on the blanks between them.
func TestBlanksDoNotCount(t *testing.T) {
	for _, line := range []string{"get a b", "set a 1 -2 3 noreply", "cas a 1 2 3 4", "flush_all 0 noreply", "version", "set a 1 2", "incr a x", "nix a", "quit a"} {
		want, wantE := words.Line(line)
		for _, wide := range []string{" " + line, line + " ", "  " + strings.ReplaceAll(line, " ", "   ") + "    "} {
			if got, e := words.Line(wide); e != wantE || !reflect.DeepEqual(got, want) {
				t.Errorf("Line(%q) = %+v, %d", wide, got, e)
			}
		}
	}
}

// R3: of a line with a wrong number of arguments that are not such either, the number is told.
func TestFormIsAskedFirst(t *testing.T) {
	for word, most := range map[string]int{
		"get": 64, "gets": 64, "set": 4, "add": 4, "replace": 4, "append": 4, "prepend": 4, "cas": 5, "delete": 1,
		"incr": 2, "decr": 2, "touch": 2, "flush_all": 1, "version": 0, "stats": 0, "quit": 0, "verbosity": 1,
	} {
		bad := strings.Repeat(" \x01", most)
		if most > 0 {
			refuses(t, api.ErrArg, word+bad)
		}
		refuses(t, api.ErrForm, word+bad+" \x01", word+bad+" \x01 \x01", word+bad+" \x01 noreply")
	}
}

// R2: Keys are new memory, and what was handed in is as it was.
func TestKeysAreNewMemory(t *testing.T) {
	for line, want := range map[string][]string{
		"get a": {"a"}, "gets ab cd ef": {"ab", "cd", "ef"}, "set key 1 2 3": {"key"}, "cas key 1 2 3 4 noreply": {"key"},
		"delete key": {"key"}, "incr key 1": {"key"}, "touch key 1": {"key"},
	} {
		line := strings.Clone(line)
		before := strings.Clone(line)
		first, _ := words.Line(line)
		second, _ := words.Line(line)
		for _, key := range first.Keys {
			if shares(key, line) {
				t.Errorf("%q of %q is a piece of the line", key, line)
			}
		}
		spoil(first.Keys)
		third, _ := words.Line(line)
		if !slices.Equal(second.Keys, want) || !slices.Equal(third.Keys, want) || line != before {
			t.Errorf("%q: %q %q", line, second.Keys, third.Keys)
		}
	}
}

// The reading of a line by patterns

const (
	part  = `( [^ ]+)`
	key   = ` ([^\x00-\x20\x7f]+)`
	digit = ` ([0-9]{1,20})`
	sign  = ` (-?[0-9]{1,20})`
	hush  = `( noreply)?`
)

// pattern is how a line must look for its form, and for its arguments, and what the parts of the latter are.
type pattern struct {
	verb       int
	form, args *regexp.Regexp
	parts      string // of each: k, a key; f, e, b, c, d, v: a number; n, noreply
}

// patterns is those of each word, with single blanks.
func patterns() map[string]pattern {
	all := make(map[string]pattern)
	put := func(verb int, word, form, args, parts string) {
		all[word] = pattern{verb, regexp.MustCompile("^" + word + form + "$"), regexp.MustCompile("^" + word + args + "$"), parts}
	}
	put(api.VGet, "get", part+"{1,64}", "(("+key+")+)", "")
	put(api.VGets, "gets", part+"{1,64}", "(("+key+")+)", "")
	for i, word := range []string{"set", "add", "replace", "append", "prepend"} {
		put(api.VSet+i, word, part+"{4}"+hush, key+digit+sign+digit+hush, "kfebn")
	}
	put(api.VCas, "cas", part+"{5}"+hush, key+digit+sign+digit+digit+hush, "kfebcn")
	put(api.VDelete, "delete", part+hush, key+hush, "kn")
	put(api.VIncr, "incr", part+"{2}"+hush, key+digit+hush, "kdn")
	put(api.VDecr, "decr", part+"{2}"+hush, key+digit+hush, "kdn")
	put(api.VTouch, "touch", part+"{2}"+hush, key+sign+hush, "ken")
	put(api.VFlush, "flush_all", part+"?"+hush, "(?: 0)?"+hush, "n")
	put(api.VVersion, "version", "", "", "")
	put(api.VStats, "stats", "", "", "")
	put(api.VQuit, "quit", "", "", "")
	put(api.VVerbosity, "verbosity", part+hush, digit+hush, "vn")
	return all
}

// limits is the most of each number.
var limits = map[byte]string{
	'f': "4294967295", 'e': "1099511627776", 'b': "2147483647", 'c': "1099511627776", 'd': "18446744073709551615", 'v': "4294967295",
}

// fill puts one part into the request; false, if it passes its limit.
func fill(r *api.Request, what byte, s string) bool {
	switch what {
	case 'k':
		r.Keys = append(r.Keys, s)
		return len(s) <= 250
	case 'n':
		r.NoReply = s != ""
		return true
	}
	n, _ := new(big.Int).SetString(s, 10)
	most, _ := new(big.Int).SetString(limits[what], 10)
	if n.CmpAbs(most) > 0 {
		return false
	}
	switch what {
	case 'f':
		r.Flags = int(n.Int64())
	case 'e':
		r.Exp = int(n.Int64())
	case 'b':
		r.Bytes = int(n.Int64())
	case 'c':
		r.Cas = int(n.Int64())
	case 'd':
		r.Delta = n.Uint64()
	}
	return true
}

// byPattern is P12.2.
func byPattern(all map[string]pattern, line string) (api.Request, api.Errno) {
	parts := plainly(line)
	line = strings.Join(parts, " ")
	word, _, _ := strings.Cut(line, " ")
	p, ok := all[word]
	if !ok || !p.form.MatchString(line) {
		return api.Request{}, api.ErrForm
	}
	found := p.args.FindStringSubmatch(line)
	if found == nil {
		return api.Request{}, api.ErrArg
	}
	r := api.Request{Verb: p.verb}
	whats := p.parts
	if p.verb == api.VGet || p.verb == api.VGets {
		whats, found = strings.Repeat("k", len(parts)-1), parts
	}
	for i := range len(whats) {
		if !fill(&r, whats[i], found[i+1]) {
			return api.Request{}, api.ErrArg
		}
	}
	return r, api.OK
}

// likely is a line that may be right: a word, and arguments such as its own, or of any kind.
func likely(next func(int) int, all map[string]pattern, names []string) string {
	word := names[next(len(names))]
	numbers := []string{"0", "1", "5", "-1", "-0", "007", "2147483647", "2147483648", "4294967295", "4294967296", "1099511627776", "-1099511627776",
		"1099511627777", "-1099511627777", "18446744073709551615", "18446744073709551616", "00000000000000000001", "000000000000000000001"}
	anything := append([]string{"noreply", "noreply", "a", "key", "\x01", "\x7f", "x1", "-", "--1", "+1", "1\t", "\xff", "é", "Noreply", word,
		strings.Repeat("k", 250), strings.Repeat("k", 251)}, numbers...)
	l := []string{word}
	for _, what := range []byte(all[word].parts) {
		switch {
		case what == 'n' && next(2) == 0:
			l = append(l, "noreply")
		case what == 'k':
			l = append(l, []string{"a", "noreply", "key", "\x80"}[next(4)])
		case what != 'n':
			l = append(l, numbers[next(3)])
		}
	}
	if strings.HasPrefix(word, "get") {
		l = append(l, keys(next(70))...)
	}
	for next(2) == 0 {
		at := next(len(l) + 1)
		switch other := anything[next(len(anything))]; next(4) {
		case 0:
			l = slices.Insert(l, at, other)
		case 1:
			l = l[:at]
		default:
			if at > 0 && at < len(l) {
				l[at] = other
			}
		}
	}
	return strings.Join(l, strings.Repeat(" ", 1+next(2)))
}

func TestManyLines(t *testing.T) {
	all := patterns()
	var names []string
	for word := range all {
		names = append(names, word)
	}
	slices.Sort(names)
	if len(names) != 17 {
		t.Fatal(names)
	}
	next := chance(7)
	told := make(map[api.Errno]map[int]int)
	for range 100000 {
		line := likely(next, all, names)
		got, e := words.Line(line)
		want, wantE := byPattern(all, line)
		if e != wantE || !reflect.DeepEqual(got, want) {
			t.Fatalf("Line(%q) = %+v, %d, not %+v, %d", line, got, e, want, wantE)
		}
		if told[e] == nil {
			told[e] = make(map[int]int)
		}
		told[e][got.Verb]++
	}
	for verb := api.VGet; verb <= api.VQuit; verb++ {
		if told[api.OK][verb] < 100 {
			t.Error("only", told[api.OK][verb], "of verb", verb)
		}
	}
	if told[api.ErrForm][0] < 1000 || told[api.ErrArg][0] < 1000 {
		t.Error(told)
	}
}

// R1: whatever bytes a line has, it is told or refused.
func TestAnyBytes(t *testing.T) {
	next := chance(3)
	letters := "get incr version  noreply 0129-\x00\x7f\xff\r\n\t"
	for range 50000 {
		b := make([]byte, next(40))
		for i := range b {
			b[i] = letters[next(len(letters))]
		}
		if got, e := words.Line(string(b)); e != api.OK && !reflect.DeepEqual(got, api.Request{}) || e != api.OK && e != api.ErrForm && e != api.ErrArg {
			t.Fatalf("Line(%q) = %+v, %d", b, got, e)
		}
	}
	refuses(t, api.ErrForm, strings.Repeat("a", 1<<22), strings.Repeat(" ", 1<<22), "get "+strings.Repeat("a ", 1<<20), "delete "+strings.Repeat("noreply ", 1<<18))
	refuses(t, api.ErrArg, "get "+strings.Repeat("a", 1<<22), "incr a "+strings.Repeat("0", 1<<22), "touch a "+strings.Repeat("-", 1<<22))
}

// R4: the same line is told the same, whatever was asked between.
func TestSameLineTellsTheSame(t *testing.T) {
	for _, line := range []string{"get a b", "set a 1 2 3 noreply", "incr a x", "nix"} {
		want, wantE := words.Line(line)
		for _, other := range []string{"cas z 9 9 9 9 noreply", "", "get c", "get \x01"} {
			words.Line(other)
			if got, e := words.Line(line); e != wantE || !reflect.DeepEqual(got, want) {
				t.Errorf("Line(%q) = %+v, %d behind %q", line, got, e, other)
			}
		}
	}
}

// Runs

func TestRuns(t *testing.T) {
	asks(t, "set a 1 -2 3 noreply", api.Request{Verb: api.VSet, Keys: []string{"a"}, Flags: 1, Exp: -2, Bytes: 3, NoReply: true})
	asks(t, "get a  b", api.Request{Verb: api.VGet, Keys: []string{"a", "b"}})
	refuses(t, api.ErrForm, "nix")
	refuses(t, api.ErrForm, "set a 1 2")
	refuses(t, api.ErrArg, "set a x 0 1")
	asks(t, "incr a 18446744073709551615", api.Request{Verb: api.VIncr, Keys: []string{"a"}, Delta: 1<<64 - 1})
	refuses(t, api.ErrArg, "incr a 18446744073709551616")
	asks(t, "delete noreply", api.Request{Verb: api.VDelete, Keys: []string{"noreply"}})
}
