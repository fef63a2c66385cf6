package words_test

import (
	"math"
	"math/big"
	"slices"
	"strings"
	"testing"
	"unsafe"

	"depot/api"
	"depot/words"
)

// chance is a row of numbers from 0 up to below n, that is the same for the same seed.
func chance(seed uint64) func(n int) int {
	x := seed*0x9e3779b97f4a7c15 + 1
	return func(n int) int {
		x ^= x << 13
		x ^= x >> 7
		x ^= x << 17
		return int((x >> 11) % uint64(n))
	}
}

// brief tells a text in few letters, however long it is.
func brief(s string) string { return s[:min(len(s), 60)] }

// shares tells whether the bytes of a stand among those of b.
func shares(a, b string) bool {
	if a == "" || b == "" {
		return false
	}
	from := uintptr(unsafe.Pointer(unsafe.StringData(b)))
	at := uintptr(unsafe.Pointer(unsafe.StringData(a)))
	return from <= at && at < from+uintptr(len(b))
}

// spoil writes over each place of a list, its spare room too.
func spoil(l []string) {
	l = l[:cap(l)]
	for i := range l {
		l[i] = "spoiled"
	}
}

// P12.1: Split

func TestSplit(t *testing.T) {
	for _, c := range []struct {
		s    string
		want []string
	}{
		{"", nil}, {" ", nil}, {"  ", nil}, {strings.Repeat(" ", 3000), nil},
		{"a", []string{"a"}}, {"abc", []string{"abc"}}, {"a b", []string{"a", "b"}}, {"ab cd ef", []string{"ab", "cd", "ef"}},
		{" a", []string{"a"}}, {"   a", []string{"a"}}, {"a ", []string{"a"}}, {"a   ", []string{"a"}}, {"  a  ", []string{"a"}},
		{"a  b", []string{"a", "b"}}, {"a     b", []string{"a", "b"}}, {"  a  b c ", []string{"a", "b", "c"}},
		{"a a a", []string{"a", "a", "a"}},
		{"a\tb", []string{"a\tb"}}, {"a\nb", []string{"a\nb"}}, {"a\r", []string{"a\r"}}, {"a\x00b c", []string{"a\x00b", "c"}},
		{"\t \n", []string{"\t", "\n"}}, {"\x1f \x21", []string{"\x1f", "!"}}, {"\x7f \x80 \xff", []string{"\x7f", "\x80", "\xff"}},
		{"\u00a0 \u2003", []string{"\u00a0", "\u2003"}}, {"é\u3000é", []string{"é\u3000é"}}, {"\xc2 \xa0", []string{"\xc2", "\xa0"}},
	} {
		if got := words.Split(c.s); !slices.Equal(got, c.want) {
			t.Errorf("Split(%q) = %q", brief(c.s), got[:min(len(got), 20)])
		}
	}
}

// Each byte but the blank is a part like others.
func TestSplitAtBlanksAlone(t *testing.T) {
	for b := range 256 {
		one := string([]byte{byte(b)})
		for s, want := range map[string][]string{
			one:                         {one},
			"a" + one + "b":             {"a" + one + "b"},
			one + one + "x":             {one + one + "x"},
			" " + one + "  x" + one:     {one, "x" + one},
			one + " " + one + " " + one: {one, one, one},
		} {
			if b == ' ' {
				want = strings.Fields(s)
			}
			if got := words.Split(s); !slices.Equal(got, want) {
				t.Fatalf("Split(%q) = %q", s, got)
			}
		}
	}
}

// plainly is Split, by the library.
func plainly(s string) []string {
	return slices.DeleteFunc(strings.Split(s, " "), func(part string) bool { return part == "" })
}

func TestSplitOfManyTexts(t *testing.T) {
	next := chance(12)
	letters := "  \t\x00\x1f!ab\x7f\x80\xff"
	for range 20000 {
		b := make([]byte, next(30))
		for i := range b {
			b[i] = letters[next(len(letters))]
		}
		if got, want := words.Split(string(b)), plainly(string(b)); !slices.Equal(got, want) {
			t.Fatalf("Split(%q) = %q, not %q", b, got, want)
		}
	}
}

// A long text is gone through once.
func TestSplitOfALongText(t *testing.T) {
	for _, s := range []string{
		strings.Repeat(" ", 1<<22), strings.Repeat("a", 1<<22), strings.Repeat("a ", 1<<20), strings.Repeat("  ab", 1<<20),
	} {
		if got := words.Split(s); !slices.Equal(got, plainly(s)) {
			t.Errorf("Split of %d bytes, %q and so on", len(s), brief(s))
		}
	}
}

// R2: what is told is new memory, and what was handed in is as it was.
func TestSplitTellsNewMemory(t *testing.T) {
	line := string([]byte("set  key 1 2 3 "))
	before := strings.Clone(line)
	want := []string{"set", "key", "1", "2", "3"}
	first, second := words.Split(line), words.Split(line)
	for _, part := range first {
		if shares(part, line) {
			t.Errorf("%q is a piece of the line", part)
		}
	}
	spoil(first)
	if !slices.Equal(second, want) || !slices.Equal(words.Split(line), want) || line != before {
		t.Errorf("%q %q %q", second, words.Split(line), line)
	}
}

// P12.1: Number

func TestNumber(t *testing.T) {
	const most = math.MaxUint64
	for _, c := range []struct {
		s    string
		most uint64
		n    uint64
		ok   bool
	}{
		{"", most, 0, false}, {"", 0, 0, false},
		{"0", most, 0, true}, {"1", most, 1, true}, {"9", most, 9, true}, {"10", most, 10, true}, {"1234567890", most, 1234567890, true},
		{"9999999999999999999", most, 9999999999999999999, true}, {"10000000000000000000", most, 10000000000000000000, true},
		{"00000000000000000000", most, 0, true}, {"000000000000000000000", most, 0, false},
		{"00000000000000000001", most, 1, true}, {"000000000000000000001", most, 0, false},
		{"007", 7, 7, true}, {"007", 6, 0, false}, {"00", 0, 0, true}, {"01", 0, 0, false},
		{"9", 9, 9, true}, {"10", 9, 0, false}, {"10", 10, 10, true}, {"11", 10, 0, false}, {"19", 20, 19, true}, {"21", 20, 0, false},
		{"100", 99, 0, false}, {"99", 99, 99, true}, {"255", 255, 255, true}, {"256", 255, 0, false}, {"260", 255, 0, false},
		{"0", 0, 0, true}, {"1", 0, 0, false}, {"5", 3, 0, false}, {"3", 3, 3, true},
		{"4294967295", 1<<32 - 1, 1<<32 - 1, true}, {"4294967296", 1<<32 - 1, 0, false},
		{"18446744073709551614", most, most - 1, true}, {"18446744073709551615", most, most, true}, {"18446744073709551616", most, 0, false},
		{"18446744073709551619", most, 0, false}, {"18446744073709551620", most, 0, false}, {"18446744073709551625", most, 0, false},
		{"20000000000000000000", most, 0, false}, {"99999999999999999999", most, 0, false},
		{"018446744073709551615", most, 0, false}, {"100000000000000000000", most, 0, false}, {"184467440737095516150", most, 0, false},
		{"18446744073709551615", most - 1, 0, false}, {"18446744073709551614", most - 1, most - 1, true},
		{"18446744073709551616", 9, 0, false}, {"18446744073709551617", 9, 0, false},
	} {
		if n, ok := words.Number(c.s, c.most); n != c.n || ok != c.ok {
			t.Errorf("Number(%q, %d) = %d, %v", c.s, c.most, n, ok)
		}
	}
}

// No byte that is no digit stands ahead of, among or behind the digits of one.
func TestNumberOfDigitsAlone(t *testing.T) {
	for b := range 256 {
		one := string([]byte{byte(b)})
		for _, s := range []string{one, one + "1", "1" + one, "1" + one + "2", one + "00000000000000000", "0000000000000000000" + one} {
			n, ok := words.Number(s, math.MaxUint64)
			want, isOne := new(big.Int).SetString(s, 10)
			if isDigit := b >= '0' && b <= '9'; ok != isDigit || isDigit && (!isOne || n != want.Uint64()) || !ok && n != 0 {
				t.Errorf("Number(%q) = %d, %v", s, n, ok)
			}
		}
	}
	for _, s := range []string{"+1", "-1", "-0", " 1", "1 ", "1 2", "0x1", "1e1", "1_0", "1.0", "1,0", "١", "１", "²", "noreply", "-", "+", ""} {
		if n, ok := words.Number(s, math.MaxUint64); n != 0 || ok {
			t.Errorf("Number(%q) = %d, %v", s, n, ok)
		}
	}
}

// reckoned is Number, with numbers that can't wrap round.
func reckoned(s string, most uint64) (uint64, bool) {
	if len(s) == 0 || len(s) > 20 || strings.Trim(s, "0123456789") != "" {
		return 0, false
	}
	n, _ := new(big.Int).SetString(s, 10)
	if n.Cmp(new(big.Int).SetUint64(most)) > 0 {
		return 0, false
	}
	return n.Uint64(), true
}

func TestNumberOfManyTexts(t *testing.T) {
	next := chance(1)
	told := 0
	for range 100000 {
		b := make([]byte, next(23))
		for i := range b {
			b[i] = "0123456789"[next(10)]
		}
		if next(10) == 0 && len(b) > 0 {
			b[next(len(b))] = " -+x/:\x00"[next(7)]
		}
		most := uint64(next(1<<30))<<40 ^ uint64(next(1<<30))<<20 ^ uint64(next(1<<30))
		for _, most := range []uint64{most >> next(64), most, math.MaxUint64, 0, 1<<31 - 1, 1<<32 - 1, 1 << 40} {
			n, ok := words.Number(string(b), most)
			if want, wantOK := reckoned(string(b), most); n != want || ok != wantOK {
				t.Fatalf("Number(%q, %d) = %d, %v", b, most, n, ok)
			}
			if ok {
				told++
			}
		}
	}
	if told < 10000 {
		t.Error("only", told, "were told")
	}
}

// Each number is told up to itself as most, and not below.
func TestNumberAtItsMost(t *testing.T) {
	for _, n := range []uint64{1, 9, 10, 11, 99, 100, 1<<31 - 1, 1 << 31, 1<<32 - 1, 1 << 32, 1 << 40, 1<<63 - 1, 1 << 63, 1<<64 - 10, 1<<64 - 2, 1<<64 - 1} {
		s := new(big.Int).SetUint64(n).String()
		for _, s := range []string{s, strings.Repeat("0", 20-len(s)) + s} {
			if got, ok := words.Number(s, n); got != n || !ok {
				t.Errorf("Number(%q, %d) = %d, %v", s, n, got, ok)
			}
			if got, ok := words.Number(s, n-1); got != 0 || ok {
				t.Errorf("Number(%q, %d) = %d, %v", s, n-1, got, ok)
			}
		}
	}
}

// P12.1: Key

func TestKey(t *testing.T) {
	for _, c := range []struct {
		s    string
		want bool
	}{
		{"", false}, {"a", true}, {"abc", true}, {"noreply", true}, {"0", true}, {"-", true},
		{" ", false}, {"a b", false}, {" a", false}, {"a ", false}, {"\x20", false}, {"!", true}, {"~", true}, {"\x7f", false}, {"\x80", true}, {"\xff", true},
		{"é", true}, {"\u00a0", true}, {"a\x7f", false}, {"\x7fa", false}, {"a\x00", false}, {"a\r", false}, {"a\n", false}, {"a\t", false},
		{strings.Repeat("k", 249), true}, {strings.Repeat("k", 250), true}, {strings.Repeat("k", 251), false}, {strings.Repeat("k", 5000), false},
		{strings.Repeat("\xff", 250), true}, {strings.Repeat("é", 125), true}, {strings.Repeat("é", 126), false}, {strings.Repeat("é", 250), false},
		{strings.Repeat("k", 249) + " ", false}, {"\x7f" + strings.Repeat("k", 249), false}, {strings.Repeat("k", 250) + " ", false},
	} {
		if words.Key(c.s) != c.want {
			t.Errorf("Key(%q of %d bytes) isn't %v", brief(c.s), len(c.s), c.want)
		}
	}
}

// Each byte, alone, and at each place of a key.
func TestKeyOfEachByte(t *testing.T) {
	for b := range 256 {
		want := b > 32 && b != 127
		if one := string([]byte{byte(b)}); words.Key(one) != want {
			t.Errorf("Key(%q) isn't %v", one, want)
		}
		for _, length := range []int{2, 3, 7, api.MaxKey} {
			for at := range length {
				s := []byte(strings.Repeat("k", length))
				s[at] = byte(b)
				if words.Key(string(s)) != want {
					t.Errorf("Key with the byte %d at %d of %d isn't %v", b, at, length, want)
				}
			}
		}
	}
}

// P12.1: Storing

func TestStoring(t *testing.T) {
	for _, verb := range []int{api.VSet, api.VAdd, api.VReplace, api.VAppend, api.VPrepend, api.VCas} {
		if !words.Storing(verb) {
			t.Errorf("Storing(%d) isn't so", verb)
		}
	}
	for _, verb := range []int{
		api.VGet, api.VGets, api.VDelete, api.VIncr, api.VDecr, api.VTouch, api.VFlush, api.VVersion, api.VVerbosity, api.VStats, api.VQuit,
		0, -1, -3, -8, api.VQuit + 1, 100, api.VSet + 256, api.VSet + 1<<32, math.MaxInt, math.MinInt,
	} {
		if words.Storing(verb) {
			t.Errorf("Storing(%d)", verb)
		}
	}
}
