package model_test

import (
	"fmt"
	"math"
	"math/big"
	"reflect"
	"strings"
	"testing"
	"unsafe"

	"depot/api"
	"depot/model"
)

// What the table says.
const (
	large   = "object too large for cache"
	numbers = "cannot increment or decrement non-numeric value"
)

// others is verbs of which Next says nothing: those of api that its table doesn't name, and numbers that are none.
var others = []int{
	0, api.VGet, api.VGets, api.VFlush, api.VVersion, api.VVerbosity, api.VStats, api.VQuit,
	-1, -2, -api.VSet, api.VQuit + 1, 99, 255, 256 + api.VSet, 1<<32 + api.VSet, math.MaxInt, math.MinInt,
}

// changing is the verbs that Next's table names.
var changing = []int{
	api.VSet, api.VAdd, api.VReplace, api.VAppend, api.VPrepend, api.VCas, api.VDelete, api.VIncr, api.VDecr, api.VTouch,
}

// outcome is what Next tells.
type outcome struct {
	a          api.Answer
	x          api.Entry
	keep, drop bool
}

// next is Next, as one value.
func next(r api.Request, e api.Entry, there bool, now, version int) outcome {
	var o outcome
	o.a, o.x, o.keep, o.drop = model.Next(r, e, there, now, version)
	return o
}

// said is an outcome of nothing but an answer of that kind.
func said(kind int) outcome { return outcome{a: api.Answer{Kind: kind}} }

// saidOf is said of a kind with a text.
func saidOf(kind int, text string) outcome { return outcome{a: api.Answer{Kind: kind, Text: text}} }

// keeps is an outcome of an answer of that kind, and of x, which is kept.
func keeps(kind int, x api.Entry) outcome {
	return outcome{a: api.Answer{Kind: kind}, x: x, keep: true}
}

// brief tells something in few letters, however long it is.
func brief(v any) string {
	s := fmt.Sprintf("%+v", v)
	if len(s) > 400 {
		return fmt.Sprintf("%q.. of %d bytes", s[:400], len(s))
	}
	return s
}

// isOutcome fails if the two aren't the same; a list of none and no list are.
func isOutcome(t *testing.T, what any, got, want outcome) {
	t.Helper()
	if len(got.a.Values) == 0 {
		got.a.Values = nil
	}
	if !reflect.DeepEqual(got, want) {
		t.Errorf("%s: %s, not %s", brief(what), brief(got), brief(want))
	}
}

// full is a request of that verb in which each field has something.
func full(verb int) api.Request {
	return api.Request{
		Verb: verb, Keys: []string{"other", "keys"}, Flags: 9, Exp: 20, Bytes: 77, Cas: 4, Delta: 3, NoReply: true, Data: "12",
	}
}

// some is an entry in which each field has something.
func some() api.Entry { return api.Entry{Key: "k", Flags: 3, Deadline: 50, Value: "7", Cas: 4} }

// P15.3

// Each verb, with an entry and with none; the entry's Key is the one that counts.
func TestNextOfEachVerb(t *testing.T) {
	e := some()
	fresh := api.Entry{Key: "k", Flags: 9, Deadline: 25, Value: "12", Cas: 8}
	number := func(n uint64, digits string) outcome {
		o := keeps(api.ANumber, api.Entry{Key: "k", Flags: 3, Deadline: 50, Value: digits, Cas: 8})
		o.a.Num = n
		return o
	}
	for _, c := range []struct {
		verb       int
		with, none outcome
	}{
		{api.VSet, keeps(api.AStored, fresh), keeps(api.AStored, fresh)},
		{api.VAdd, said(api.ANotStored), keeps(api.AStored, fresh)},
		{api.VReplace, keeps(api.AStored, fresh), said(api.ANotStored)},
		{api.VAppend, keeps(api.AStored, api.Entry{Key: "k", Flags: 3, Deadline: 50, Value: "712", Cas: 8}), said(api.ANotStored)},
		{api.VPrepend, keeps(api.AStored, api.Entry{Key: "k", Flags: 3, Deadline: 50, Value: "127", Cas: 8}), said(api.ANotStored)},
		{api.VCas, keeps(api.AStored, fresh), said(api.ANotFound)},
		{api.VDelete, outcome{a: api.Answer{Kind: api.ADeleted}, drop: true}, said(api.ANotFound)},
		{api.VTouch, keeps(api.ATouched, api.Entry{Key: "k", Flags: 3, Deadline: 25, Value: "7", Cas: 4}), said(api.ANotFound)},
		{api.VIncr, number(10, "10"), said(api.ANotFound)},
		{api.VDecr, number(4, "4"), said(api.ANotFound)},
	} {
		isOutcome(t, c.verb, next(full(c.verb), e, true, 5, 8), c.with)
		isOutcome(t, c.verb, next(full(c.verb), e, false, 5, 8), c.none)
		isOutcome(t, c.verb, next(full(c.verb), api.Entry{Key: "k"}, false, 5, 8), c.none)
	}
}

func TestNextOfOtherVerbs(t *testing.T) {
	for _, verb := range others {
		for _, there := range []bool{false, true} {
			isOutcome(t, verb, next(full(verb), some(), there, 5, 8), outcome{})
			isOutcome(t, verb, next(api.Request{Verb: verb}, api.Entry{}, there, 0, 0), outcome{})
		}
	}
}

// Of zero requests and entries: what each verb comes to for the empty key.
func TestNextOfZero(t *testing.T) {
	for verb, want := range map[int]outcome{
		api.VSet: keeps(api.AStored, api.Entry{}), api.VAdd: said(api.ANotStored), api.VReplace: keeps(api.AStored, api.Entry{}),
		api.VAppend: keeps(api.AStored, api.Entry{}), api.VPrepend: keeps(api.AStored, api.Entry{}),
		api.VCas: keeps(api.AStored, api.Entry{}), api.VDelete: {a: api.Answer{Kind: api.ADeleted}, drop: true},
		api.VTouch: keeps(api.ATouched, api.Entry{}), api.VIncr: saidOf(api.AClient, numbers), api.VDecr: saidOf(api.AClient, numbers),
	} {
		isOutcome(t, verb, next(api.Request{Verb: verb}, api.Entry{}, true, 0, 0), want)
	}
}

// There is what counts: whether the entry lives is asked by whoever hands it in.
func TestNextTakesThereAtItsWord(t *testing.T) {
	for _, deadline := range []int{-1, 1, 5, math.MinInt} {
		e := some()
		e.Deadline = deadline
		isOutcome(t, "add", next(full(api.VAdd), e, true, 5, 8), said(api.ANotStored))
		isOutcome(t, "delete", next(full(api.VDelete), e, true, 5, 8), outcome{a: api.Answer{Kind: api.ADeleted}, drop: true})
		isOutcome(t, "touch", next(full(api.VTouch), e, true, 5, 8), keeps(api.ATouched, api.Entry{Key: "k", Flags: 3, Deadline: 25, Value: "7", Cas: 4}))
	}
}

// What a new entry is made of is as it was given.
func TestNextKeepsAnyNumbers(t *testing.T) {
	for _, n := range []int{0, 1, -1, 1<<31 - 1, 1<<32 - 1, 1 << 32, 1 << 40, 1<<40 + 1, math.MaxInt, math.MinInt} {
		for verb, there := range map[int]bool{api.VSet: false, api.VAdd: false, api.VReplace: true, api.VCas: true} {
			r := api.Request{Verb: verb, Flags: n, Data: "v", Cas: 6}
			isOutcome(t, r, next(r, api.Entry{Key: "k", Cas: 6}, there, 5, n), keeps(api.AStored, api.Entry{Key: "k", Flags: n, Value: "v", Cas: n}))
		}
		for _, verb := range []int{api.VAppend, api.VPrepend} {
			e := api.Entry{Key: "k", Flags: n, Deadline: n, Cas: 6}
			isOutcome(t, verb, next(api.Request{Verb: verb, Data: "v"}, e, true, 5, n), keeps(api.AStored, api.Entry{Key: "k", Flags: n, Deadline: n, Value: "v", Cas: n}))
		}
	}
}

// Values of any bytes, longer ones than MaxValue too, but where two are joined.
func TestNextKeepsAnyValue(t *testing.T) {
	for _, v := range []string{"", " ", "\r\n", "\x00\xff", "é", "END", strings.Repeat("v", api.MaxValue), strings.Repeat("v", api.MaxValue+1)} {
		for verb, there := range map[int]bool{api.VSet: true, api.VAdd: false, api.VReplace: true, api.VCas: true} {
			r := api.Request{Verb: verb, Data: v}
			isOutcome(t, r, next(r, api.Entry{Key: "k"}, there, 5, 2), keeps(api.AStored, api.Entry{Key: "k", Value: v, Cas: 2}))
		}
	}
}

func TestNextOfEachExp(t *testing.T) {
	for _, c := range []struct{ exp, now, want int }{
		{0, 100, 0}, {-1, 100, -1}, {math.MinInt, 100, -1}, {1, 100, 101}, {10, 100, 110}, {10, -7, 10},
		{2592000, 100, 2592100}, {2592001, 100, 2592001}, {1 << 40, 100, 1 << 40}, {1<<40 + 1, 100, 1 << 40}, {math.MaxInt, math.MaxInt, 1 << 40},
		{5, math.MaxInt, 1<<40 + 5}, {2592000, math.MaxInt, 1<<40 + 2592000}, {5, math.MinInt, 5},
	} {
		for verb, there := range map[int]bool{api.VSet: true, api.VAdd: false, api.VReplace: true, api.VCas: true} {
			r := api.Request{Verb: verb, Exp: c.exp}
			isOutcome(t, c, next(r, api.Entry{Key: "k", Deadline: 7}, there, c.now, 2), keeps(api.AStored, api.Entry{Key: "k", Deadline: c.want, Cas: 2}))
		}
		e := api.Entry{Key: "k", Flags: 1, Deadline: 7, Value: "v", Cas: 3}
		isOutcome(t, c, next(api.Request{Verb: api.VTouch, Exp: c.exp, Flags: 9, Data: "d"}, e, true, c.now, 2),
			keeps(api.ATouched, api.Entry{Key: "k", Flags: 1, Deadline: c.want, Value: "v", Cas: 3}))
	}
}

func TestNextJoins(t *testing.T) {
	for _, c := range []struct{ value, data string }{
		{"", ""}, {"a", ""}, {"", "b"}, {"a", "b"}, {"ab", "cd"}, {"\r\n", "\x00\xff"}, {"\xc3", "\xa9"}, {"1", "2"},
	} {
		e := api.Entry{Key: "k", Flags: 3, Deadline: 50, Value: c.value, Cas: 4}
		want := api.Entry{Key: "k", Flags: 3, Deadline: 50, Value: c.value + c.data, Cas: 8}
		r := api.Request{Verb: api.VAppend, Data: c.data, Flags: 9, Exp: 20, Cas: 1}
		isOutcome(t, c, next(r, e, true, 5, 8), keeps(api.AStored, want))
		r.Verb, want.Value = api.VPrepend, c.data+c.value
		isOutcome(t, c, next(r, e, true, 5, 8), keeps(api.AStored, want))
	}
}

// As many bytes as MaxValue together, and one more.
func TestNextJoinsUpToTheLimit(t *testing.T) {
	const most = 1 << 20
	for _, n := range []int{0, 1, 2, most / 2, most - 1, most, most + 1, most + 2, 2 * most} {
		for _, sum := range []int{most - 1, most, most + 1} {
			if sum < n {
				continue
			}
			value, data := strings.Repeat("v", n), strings.Repeat("d", sum-n)
			e := api.Entry{Key: "k", Flags: 3, Deadline: 50, Value: value, Cas: 4}
			behind, ahead := saidOf(api.AServer, large), saidOf(api.AServer, large)
			if sum <= most {
				behind = keeps(api.AStored, api.Entry{Key: "k", Flags: 3, Deadline: 50, Value: value + data, Cas: 8})
				ahead = keeps(api.AStored, api.Entry{Key: "k", Flags: 3, Deadline: 50, Value: data + value, Cas: 8})
			}
			isOutcome(t, []int{n, sum}, next(api.Request{Verb: api.VAppend, Data: data}, e, true, 5, 8), behind)
			isOutcome(t, []int{n, sum}, next(api.Request{Verb: api.VPrepend, Data: data}, e, true, 5, 8), ahead)
		}
		if n > most {
			e := api.Entry{Key: "k", Value: strings.Repeat("v", n)}
			isOutcome(t, n, next(api.Request{Verb: api.VAppend}, e, true, 5, 8), saidOf(api.AServer, large))
			isOutcome(t, n, next(api.Request{Verb: api.VPrepend}, e, true, 5, 8), saidOf(api.AServer, large))
		}
	}
	// That there is none comes first.
	long := strings.Repeat("d", most+1)
	for _, verb := range []int{api.VAppend, api.VPrepend} {
		isOutcome(t, verb, next(api.Request{Verb: verb, Data: long}, api.Entry{Key: "k", Value: "v"}, false, 5, 8), said(api.ANotStored))
	}
}

func TestNextOfCas(t *testing.T) {
	list := []int{0, 1, 2, -1, 7, 1<<32 + 7, 1 << 40, math.MaxInt, math.MinInt}
	for _, has := range list {
		for _, asks := range list {
			r := api.Request{Verb: api.VCas, Cas: asks, Data: "new", Flags: 6}
			e := api.Entry{Key: "k", Flags: 3, Value: "old", Cas: has}
			want := said(api.AExists)
			if has == asks {
				want = keeps(api.AStored, api.Entry{Key: "k", Flags: 6, Value: "new", Cas: 99})
			}
			isOutcome(t, r, next(r, e, true, 5, 99), want)
			isOutcome(t, r, next(r, e, false, 5, 99), said(api.ANotFound))
		}
	}
}

func TestNextCounts(t *testing.T) {
	const most = math.MaxUint64
	for _, c := range []struct {
		value      string
		delta      uint64
		incr, decr string
	}{
		{"5", 10, "15", "0"}, {"5", 0, "5", "5"}, {"0", 0, "0", "0"}, {"0", 1, "1", "0"}, {"10", 1, "11", "9"}, {"5", 5, "10", "0"}, {"5", 6, "11", "0"}, {"6", 5, "11", "1"},
		{"007", 0, "7", "7"}, {"0010", 3, "13", "7"}, {"00000000000000000005", 2, "7", "3"}, {"00000000000000000000", 0, "0", "0"},
		{"18446744073709551615", 0, "18446744073709551615", "18446744073709551615"}, {"18446744073709551615", 1, "0", "18446744073709551614"},
		{"18446744073709551615", 2, "1", "18446744073709551613"}, {"18446744073709551615", most, "18446744073709551614", "0"},
		{"18446744073709551614", 1, "18446744073709551615", "18446744073709551613"}, {"18446744073709551614", most, "18446744073709551613", "0"},
		{"1", most, "0", "0"}, {"0", most, "18446744073709551615", "0"}, {"10000000000000000000", 1, "10000000000000000001", "9999999999999999999"},
		{"9223372036854775807", 1, "9223372036854775808", "9223372036854775806"}, {"9223372036854775808", 1 << 63, "0", "0"},
		{"9999999999999999999", 1, "10000000000000000000", "9999999999999999998"},
	} {
		e := api.Entry{Key: "k", Flags: 3, Deadline: 50, Value: c.value, Cas: 4}
		for verb, digits := range map[int]string{api.VIncr: c.incr, api.VDecr: c.decr} {
			n, _ := new(big.Int).SetString(digits, 10)
			want := keeps(api.ANumber, api.Entry{Key: "k", Flags: 3, Deadline: 50, Value: digits, Cas: 8})
			want.a.Num = n.Uint64()
			isOutcome(t, c, next(api.Request{Verb: verb, Delta: c.delta, Flags: 9, Exp: 20, Data: "d"}, e, true, 5, 8), want)
		}
	}
}

func TestNextCountsNumbersAlone(t *testing.T) {
	for _, value := range []string{
		"", " ", "x", "1x", "x1", "1 ", " 1", "-1", "+1", "-0", "1.0", "1e3", "0x10", "1_0", "1\r\n", "1\n", "\x00", "1\x00", "١", "\xff",
		"18446744073709551616", "18446744073709551617", "18446744073709551620", "20000000000000000000", "99999999999999999999",
		"000000000000000000001", "000000000000000000000", "100000000000000000000", "184467440737095516150", strings.Repeat("1", api.MaxValue),
	} {
		for _, verb := range []int{api.VIncr, api.VDecr} {
			for _, delta := range []uint64{0, 1, math.MaxUint64} {
				isOutcome(t, value, next(api.Request{Verb: verb, Delta: delta}, api.Entry{Key: "k", Value: value}, true, 5, 8), saidOf(api.AClient, numbers))
				isOutcome(t, value, next(api.Request{Verb: verb, Delta: delta}, api.Entry{Key: "k", Value: value}, false, 5, 8), said(api.ANotFound))
			}
		}
	}
}

// Sums and differences are those of numbers that can't wrap round, brought into 0 to 2^64 - 1 by the two verbs' ways.
func TestNextCountsAsBigNumbersDo(t *testing.T) {
	roll := chance(15)
	whole := new(big.Int).Lsh(big.NewInt(1), 64)
	for range 50000 {
		value, delta := roll(), roll()
		a, b := new(big.Int).SetUint64(value), new(big.Int).SetUint64(delta)
		sum := new(big.Int).Add(a, b)
		sum.Mod(sum, whole)
		less := new(big.Int).Sub(a, b)
		if less.Sign() < 0 {
			less.SetInt64(0)
		}
		for verb, want := range map[int]*big.Int{api.VIncr: sum, api.VDecr: less} {
			o := next(api.Request{Verb: verb, Delta: delta}, api.Entry{Key: "k", Value: a.String()}, true, 0, 1)
			if !o.keep || o.drop || o.a.Kind != api.ANumber || o.a.Num != want.Uint64() || o.x.Value != want.String() {
				t.Errorf("verb %d of %d and %d: %s, not %s", verb, value, delta, brief(o), want)
			}
		}
	}
}

// R2, R3

// Where nothing is kept, the entry is zero; kept and dropped are never both so.
func TestNextIsZeroBesideNothingKept(t *testing.T) {
	for _, verb := range append(others, changing...) {
		for _, there := range []bool{false, true} {
			for _, value := range []string{"7", "x", strings.Repeat("v", api.MaxValue)} {
				for _, cas := range []int{4, 5} {
					e, r := some(), full(verb)
					e.Value, r.Cas = value, cas
					o := next(r, e, there, 5, 8)
					if !o.keep && o.x != (api.Entry{}) || o.keep && o.drop || o.drop && verb != api.VDelete {
						t.Error(verb, there, brief(o))
					}
					if o.a.Kind != api.ANumber && o.a.Num != 0 || o.a.Gets || o.a.Values != nil || o.a.Stats != [4]int{} {
						t.Error(verb, there, brief(o))
					}
				}
			}
		}
	}
}

// shares tells whether the bytes of a and of b stand, in part, at the same place.
func shares(a, b string) bool {
	if a == "" || b == "" {
		return false
	}
	x, y := uintptr(unsafe.Pointer(unsafe.StringData(a))), uintptr(unsafe.Pointer(unsafe.StringData(b)))
	return x < y+uintptr(len(b)) && y < x+uintptr(len(a))
}

// What Next keeps stands on its own memory.
func TestNextKeepsNothingOfWhatIsHandedIn(t *testing.T) {
	for _, verb := range changing {
		for _, there := range []bool{false, true} {
			for _, data := range []string{"", "12"} {
				r, e := full(verb), some()
				r.Data, e.Key, e.Value = strings.Clone(data), strings.Clone("key"), strings.Clone("7777")
				o := next(r, e, there, 5, 8)
				if shares(o.x.Key, e.Key) || shares(o.x.Value, e.Value) || shares(o.x.Value, r.Data) {
					t.Error(verb, there, brief(o))
				}
			}
		}
	}
}

func TestNextChangesNothingOfWhatIsHandedIn(t *testing.T) {
	for _, verb := range append(others, changing...) {
		for _, there := range []bool{false, true} {
			room := []string{"a", "b", "spare"}
			r, e := full(verb), some()
			r.Keys = room[:2]
			same := full(verb)
			same.Keys = []string{"a", "b"}
			next(r, e, there, 5, 8)
			if !reflect.DeepEqual(r, same) || e != some() || !reflect.DeepEqual(room, []string{"a", "b", "spare"}) {
				t.Error(verb, there, r, e, room)
			}
		}
	}
}
