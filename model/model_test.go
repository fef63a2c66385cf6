package model_test

import (
	"fmt"
	"math"
	"reflect"
	"slices"
	"sort"
	"strings"
	"testing"
	"unsafe"

	"depot/api"
	"depot/model"
)

// chance is a row of numbers of all sizes that is the same for the same seed.
func chance(seed uint64) func() uint64 {
	x := seed*0x9e3779b97f4a7c15 + 1
	return func() uint64 {
		x ^= x << 13
		x ^= x >> 7
		x ^= x << 17
		return x >> ((x >> 5) % 64)
	}
}

// ask is a request of that verb for one key.
func ask(verb int, key, data string) api.Request {
	return api.Request{Verb: verb, Keys: []string{key}, Data: data}
}

// set stores a value for ever, with that version.
func set(m *model.Model, key, data string, version int) {
	m.Apply(ask(api.VSet, key, data), 0, version)
}

// isAnswer fails if the two aren't the same; a list of none and no list are.
func isAnswer(t *testing.T, what any, got, want api.Answer) {
	t.Helper()
	isOutcome(t, what, outcome{a: got}, outcome{a: want})
}

// has fails if the model's entries aren't these.
func has(t *testing.T, what any, m *model.Model, want ...api.Entry) {
	t.Helper()
	if got := m.List(); !slices.Equal(got, want) {
		t.Errorf("%s: List is %s, not %s", brief(what), brief(got), brief(want))
	}
}

// gets is what a gets of the keys tells.
func gets(m *model.Model, now int, keys ...string) []api.Found {
	return m.Apply(api.Request{Verb: api.VGets, Keys: keys}, now, 0).Values
}

// tells fails if a gets of the keys doesn't tell just these.
func tells(t *testing.T, what any, m *model.Model, now int, keys []string, want ...api.Found) {
	t.Helper()
	isAnswer(t, what, m.Apply(api.Request{Verb: api.VGets, Keys: keys}, now, 0), api.Answer{Kind: api.AValues, Gets: true, Values: want})
	isAnswer(t, what, m.Apply(api.Request{Verb: api.VGet, Keys: keys}, now, 0), api.Answer{Kind: api.AValues, Values: want})
}

// filled is a model with an entry that lives for ever, one that lives till 110, one that was over at once, and the empty key's.
func filled() *model.Model {
	m := model.New()
	m.Apply(api.Request{Verb: api.VSet, Keys: []string{"till"}, Flags: 2, Exp: 10, Data: "t"}, 100, 2)
	m.Apply(api.Request{Verb: api.VSet, Keys: []string{"over"}, Flags: 3, Exp: -1, Data: "o"}, 100, 3)
	m.Apply(api.Request{Verb: api.VSet, Keys: []string{"ever"}, Flags: 1, Data: "e"}, 100, 1)
	m.Apply(api.Request{Verb: api.VSet, Keys: []string{""}, Data: ""}, 100, 4)
	return m
}

// entries is those of filled, by rising keys.
func entries() []api.Entry {
	return []api.Entry{
		{Key: "", Cas: 4},
		{Key: "ever", Flags: 1, Value: "e", Cas: 1},
		{Key: "over", Flags: 3, Deadline: -1, Value: "o", Cas: 3},
		{Key: "till", Flags: 2, Deadline: 110, Value: "t", Cas: 2},
	}
}

// P15.1

func TestNewHasNoEntries(t *testing.T) {
	m := model.New()
	has(t, "new", m)
	has(t, "a twin of it", m.Twin())
	tells(t, "new", m, 0, []string{"a", ""})
	set(m, "a", "x", 1)
	has(t, "another new one", model.New())
}

func TestListTellsAllByRisingKeys(t *testing.T) {
	has(t, "filled", filled(), entries()...)
	m := model.New()
	keys := []string{"b", "", "a", "ab", "B", "\xff", "\x00", "aa", "é", "z", "10", "9", "a\x00", "\x80", "~", "b "}
	for i, key := range keys {
		set(m, key, key+"!", i)
	}
	sorted := slices.Clone(keys)
	sort.Strings(sorted)
	var want []api.Entry
	for _, key := range sorted {
		want = append(want, api.Entry{Key: key, Value: key + "!", Cas: slices.Index(keys, key)})
	}
	has(t, "keys of any bytes", m, want...)
}

func TestListOfMany(t *testing.T) {
	m := model.New()
	const many = 20000
	for i := range many {
		set(m, fmt.Sprint("key", (i*7919)%many), "v", i)
	}
	l := m.List()
	if len(l) != many || !slices.IsSortedFunc(l, func(a, b api.Entry) int { return strings.Compare(a.Key, b.Key) }) {
		t.Error(len(l), "entries, or not rising")
	}
	for i := 1; i < len(l); i++ {
		if l[i].Key == l[i-1].Key {
			t.Error(l[i].Key, "twice")
		}
	}
}

// Those that live no more are told till something else becomes of them.
func TestListTellsThoseThatAreOver(t *testing.T) {
	m := filled()
	tells(t, "over", m, math.MaxInt, []string{"till", "over"})
	m.Apply(ask(api.VDelete, "over", ""), 200, 9)
	m.Apply(ask(api.VTouch, "till", ""), 200, 9)
	m.Apply(ask(api.VReplace, "till", "x"), 200, 9)
	has(t, "over", m, entries()...)
	m.Apply(ask(api.VAdd, "over", "n"), 200, 9)
	want := entries()
	want[2] = api.Entry{Key: "over", Value: "n", Cas: 9}
	has(t, "added", m, want...)
}

func TestListIsNewMemory(t *testing.T) {
	m := filled()
	one, two := m.List(), m.List()
	for i := range one {
		one[i] = api.Entry{Key: "changed", Value: "changed"}
	}
	_ = append(one[:1], api.Entry{Key: "more"})
	if !slices.Equal(two, entries()) {
		t.Error(two)
	}
	has(t, "a list was changed", m, entries()...)
	_ = append(two, api.Entry{Key: "more"})
	has(t, "a list was made longer", m, entries()...)
	l := m.List()
	m.Apply(api.Request{Verb: api.VFlush}, 0, 0)
	if !slices.Equal(l, entries()) {
		t.Error("a list was changed by a flush:", l)
	}
}

func TestTwinsGoTheirOwnWays(t *testing.T) {
	changes := map[string]func(m *model.Model){
		"set":    func(m *model.Model) { set(m, "ever", "new", 9) },
		"added":  func(m *model.Model) { set(m, "more", "new", 9) },
		"append": func(m *model.Model) { m.Apply(ask(api.VAppend, "ever", "x"), 0, 9) },
		"touch":  func(m *model.Model) { m.Apply(ask(api.VTouch, "till", ""), 0, 9) },
		"delete": func(m *model.Model) { m.Apply(ask(api.VDelete, "ever", ""), 0, 9) },
		"forget": func(m *model.Model) { m.Forget("over") },
		"flush":  func(m *model.Model) { m.Apply(api.Request{Verb: api.VFlush}, 0, 9) },
	}
	for name, change := range changes {
		m := filled()
		x := m.Twin()
		has(t, name, x, entries()...)
		change(m)
		has(t, name+" of the elder", x, entries()...)
		if slices.Equal(m.List(), entries()) {
			t.Error(name, "did nothing")
		}
		m = filled()
		x = m.Twin().Twin()
		change(x)
		has(t, name+" of the twin", m, entries()...)
		if slices.Equal(x.List(), entries()) {
			t.Error(name, "did nothing to the twin")
		}
	}
	m := model.New()
	x := m.Twin()
	set(x, "a", "x", 1)
	has(t, "a twin of none", x, api.Entry{Key: "a", Value: "x", Cas: 1})
	has(t, "none", m)
}

// P15.2

func TestForget(t *testing.T) {
	m := filled()
	for _, key := range []string{"none", "eve", "everr", "EVER", " ever", "\x00", strings.Repeat("k", 5000)} {
		if m.Forget(key) {
			t.Errorf("Forget(%.20q) is true", key)
		}
	}
	has(t, "nothing forgotten", m, entries()...)
	left := entries()
	for _, key := range []string{"over", "", "till", "ever"} {
		left = slices.DeleteFunc(left, func(e api.Entry) bool { return e.Key == key })
		if !m.Forget(key) || m.Forget(key) {
			t.Errorf("Forget(%q) isn't true, then false", key)
		}
		has(t, key+" forgotten", m, left...)
		tells(t, key, m, 100, []string{key})
	}
	isAnswer(t, "delete", m.Apply(ask(api.VDelete, "ever", ""), 0, 1), api.Answer{Kind: api.ANotFound})
	isAnswer(t, "add", m.Apply(ask(api.VAdd, "ever", "again"), 0, 7), api.Answer{Kind: api.AStored})
	tells(t, "again", m, 0, []string{"ever"}, api.Found{Key: "ever", Value: "again", Cas: 7})
	if model.New().Forget("") || model.New().Forget("a") {
		t.Error("something was forgotten of none")
	}
}

// P15.4: VGet, VGets

func TestGet(t *testing.T) {
	m := filled()
	ever, till, empty := api.Found{Key: "ever", Flags: 1, Value: "e", Cas: 1}, api.Found{Key: "till", Flags: 2, Value: "t", Cas: 2}, api.Found{Cas: 4}
	tells(t, "no key", m, 100, nil)
	tells(t, "no key", m, 100, []string{})
	tells(t, "one", m, 100, []string{"ever"}, ever)
	tells(t, "none", m, 100, []string{"none"})
	tells(t, "over", m, 100, []string{"over"})
	tells(t, "empty", m, 100, []string{""}, empty)
	tells(t, "in the keys' order", m, 109, []string{"till", "none", "ever", "over", ""}, till, ever, empty)
	tells(t, "in the keys' order", m, 109, []string{"", "ever", "till"}, empty, ever, till)
	tells(t, "a key twice", m, 109, []string{"ever", "till", "ever", "ever"}, ever, till, ever, ever)
	tells(t, "later", m, 110, []string{"till", "ever", "till"}, ever)
	has(t, "after gets", m, entries()...)
}

// What else stands in the request says nothing.
func TestGetOfAFullRequest(t *testing.T) {
	for _, verb := range []int{api.VGet, api.VGets} {
		r := full(verb)
		r.Keys = []string{"ever"}
		want := api.Answer{Kind: api.AValues, Gets: verb == api.VGets, Values: []api.Found{{Key: "ever", Flags: 1, Value: "e", Cas: 1}}}
		m := filled()
		isAnswer(t, verb, m.Apply(r, 100, 77), want)
		has(t, verb, m, entries()...)
	}
}

func TestGetOfManyKeys(t *testing.T) {
	m := model.New()
	var keys []string
	var want []api.Found
	for i := range 5000 {
		key := fmt.Sprint("key", i*7919%5000)
		keys = append(keys, key)
		if i%3 != 0 {
			set(m, key, fmt.Sprint(i), i)
			want = append(want, api.Found{Key: key, Value: fmt.Sprint(i), Cas: i})
		}
	}
	tells(t, "many", m, 0, keys, want...)
}

// Values that were told are new memory.
func TestValuesAreNewMemory(t *testing.T) {
	m := filled()
	one, two := gets(m, 100, "ever", "till"), gets(m, 100, "ever", "till")
	want := slices.Clone(two)
	one[0] = api.Found{Key: "changed"}
	_ = append(one[:1], api.Found{Key: "more"})
	if !slices.Equal(two, want) || !slices.Equal(gets(m, 100, "ever", "till"), want) {
		t.Error(two)
	}
	has(t, "values were changed", m, entries()...)
}

// P15.4: VFlush

func TestFlush(t *testing.T) {
	for _, keys := range [][]string{nil, {}, {"ever"}, {"none"}, {"a", "b"}} {
		m := filled()
		r := full(api.VFlush)
		r.Keys = keys
		isAnswer(t, "flush", m.Apply(r, 100, 9), api.Answer{Kind: api.AOK})
		has(t, "flushed", m)
		tells(t, "flushed", m, 100, []string{"ever", "till", "over", ""})
		if m.Forget("ever") {
			t.Error("forgotten behind a flush")
		}
		isAnswer(t, "flush of none", m.Apply(r, 100, 9), api.Answer{Kind: api.AOK})
		isAnswer(t, "add", m.Apply(ask(api.VAdd, "ever", "again"), 100, 10), api.Answer{Kind: api.AStored})
		has(t, "added", m, api.Entry{Key: "ever", Value: "again", Cas: 10})
	}
}

// P15.4: others

// Each verb but those of many keys, with no key, and with two.
func TestOthersAskForOneKey(t *testing.T) {
	for _, verb := range append(slices.Clone(others), changing...) {
		if verb == api.VGet || verb == api.VGets || verb == api.VFlush {
			continue
		}
		for _, keys := range [][]string{nil, {}, {"ever", "till"}, {"ever", "ever"}, {"none", "ever"}, {"", ""}, {"a", "b", "c"}} {
			m := filled()
			r := full(verb)
			r.Keys, r.Cas = keys, 1
			isAnswer(t, r, m.Apply(r, 100, 9), api.Answer{})
			has(t, r, m, entries()...)
		}
	}
}

func TestOthersThatAreNoneSayNothing(t *testing.T) {
	for _, verb := range others {
		if verb == api.VGet || verb == api.VGets || verb == api.VFlush {
			continue
		}
		for _, key := range []string{"ever", "till", "over", "none", ""} {
			m := filled()
			isAnswer(t, verb, m.Apply(ask(verb, key, "1"), 100, 9), api.Answer{})
			has(t, verb, m, entries()...)
		}
	}
}

// Each verb of the table, with an entry that lives, with one that lives no more, and with none.
func TestEachVerb(t *testing.T) {
	elder := api.Entry{Key: "k", Flags: 3, Deadline: 50, Value: "7", Cas: 4}
	fresh := api.Entry{Key: "k", Flags: 9, Deadline: 69, Value: "12", Cas: 8}
	for _, c := range []struct {
		verb       int
		with, none int
		num        uint64
		kept       []api.Entry // with an entry that lives
		made       bool        // without one: is one made?
	}{
		{api.VSet, api.AStored, api.AStored, 0, []api.Entry{fresh}, true},
		{api.VAdd, api.ANotStored, api.AStored, 0, []api.Entry{elder}, true},
		{api.VReplace, api.AStored, api.ANotStored, 0, []api.Entry{fresh}, false},
		{api.VAppend, api.AStored, api.ANotStored, 0, []api.Entry{{Key: "k", Flags: 3, Deadline: 50, Value: "712", Cas: 8}}, false},
		{api.VPrepend, api.AStored, api.ANotStored, 0, []api.Entry{{Key: "k", Flags: 3, Deadline: 50, Value: "127", Cas: 8}}, false},
		{api.VCas, api.AStored, api.ANotFound, 0, []api.Entry{fresh}, false},
		{api.VDelete, api.ADeleted, api.ANotFound, 0, nil, false},
		{api.VTouch, api.ATouched, api.ANotFound, 0, []api.Entry{{Key: "k", Flags: 3, Deadline: 69, Value: "7", Cas: 4}}, false},
		{api.VIncr, api.ANumber, api.ANotFound, 10, []api.Entry{{Key: "k", Flags: 3, Deadline: 50, Value: "10", Cas: 8}}, false},
		{api.VDecr, api.ANumber, api.ANotFound, 4, []api.Entry{{Key: "k", Flags: 3, Deadline: 50, Value: "4", Cas: 8}}, false},
	} {
		r := full(c.verb)
		r.Keys = []string{"k"}
		m := model.New()
		m.Apply(api.Request{Verb: api.VSet, Keys: r.Keys, Flags: 3, Exp: 10, Data: "7"}, 40, 4)
		has(t, c.verb, m, elder)
		dead := m.Twin()
		isAnswer(t, c.verb, m.Apply(r, 49, 8), api.Answer{Kind: c.with, Num: c.num})
		has(t, c.verb, m, c.kept...)

		later := fresh
		later.Deadline = 70
		left := []api.Entry{elder}
		var made []api.Entry
		if c.made {
			left, made = []api.Entry{later}, []api.Entry{later}
		}
		isAnswer(t, c.verb, dead.Apply(r, 50, 8), api.Answer{Kind: c.none})
		has(t, c.verb, dead, left...)
		empty := model.New()
		isAnswer(t, c.verb, empty.Apply(r, 50, 8), api.Answer{Kind: c.none})
		has(t, c.verb, empty, made...)
	}
}

func TestCasOfAnotherNumber(t *testing.T) {
	m := filled()
	r := ask(api.VCas, "ever", "new")
	for _, cas := range []int{0, 2, -1, 1 << 40, 1<<32 + 1, math.MaxInt} {
		r.Cas = cas
		isAnswer(t, cas, m.Apply(r, 100, 9), api.Answer{Kind: api.AExists})
		has(t, cas, m, entries()...)
	}
	r.Cas = 1
	isAnswer(t, "cas", m.Apply(r, 100, 9), api.Answer{Kind: api.AStored})
	isAnswer(t, "cas again", m.Apply(r, 100, 10), api.Answer{Kind: api.AExists})
	tells(t, "cas", m, 100, []string{"ever"}, api.Found{Key: "ever", Value: "new", Cas: 9})
}

// Refusals leave the entry as it was.
func TestRefusedChangesNothing(t *testing.T) {
	m := model.New()
	long := strings.Repeat("v", api.MaxValue)
	set(m, "k", long, 1)
	want := api.Entry{Key: "k", Value: long, Cas: 1}
	for _, verb := range []int{api.VAppend, api.VPrepend} {
		isAnswer(t, verb, m.Apply(ask(verb, "k", "x"), 0, 2), api.Answer{Kind: api.AServer, Text: large})
		has(t, verb, m, want)
	}
	for _, verb := range []int{api.VIncr, api.VDecr} {
		isAnswer(t, verb, m.Apply(ask(verb, "k", ""), 0, 2), api.Answer{Kind: api.AClient, Text: numbers})
		has(t, verb, m, want)
	}
	isAnswer(t, "append of none", m.Apply(ask(api.VAppend, "k", ""), 0, 3), api.Answer{Kind: api.AStored})
	want.Cas = 3
	has(t, "append of none", m, want)
}

// Each Exp: told on its last tick, and not on the next.
func TestEachExp(t *testing.T) {
	const month, most, ever = 2592000, 1 << 40, -5
	for _, c := range []struct{ exp, now, over int }{
		{0, 100, ever}, {0, most, ever}, {1, 100, 101}, {10, 100, 110}, {month - 1, 100, month + 99}, {month, 100, month + 100}, {month, 0, month},
		{month + 1, 100, month + 1}, {month + 2, 100, month + 2}, {most - 1, 100, most - 1}, {most, 100, most}, {most + 1, 100, most},
		{10, -100, 10}, {10, most + 7, most + 10},
	} {
		for _, verb := range []int{api.VSet, api.VTouch} {
			m := model.New()
			set(m, "k", "v", 1)
			m.Apply(api.Request{Verb: verb, Keys: []string{"k"}, Exp: c.exp, Data: "v"}, c.now, 1)
			v := api.Found{Key: "k", Value: "v", Cas: 1}
			tells(t, c, m, c.now, []string{"k"}, v)
			if c.over == ever {
				tells(t, c, m, math.MaxInt, []string{"k"}, v)
				continue
			}
			tells(t, c, m, c.over-1, []string{"k"}, v)
			tells(t, c, m, c.over, []string{"k"})
			tells(t, c, m, c.over+1, []string{"k"})
			tells(t, c, m, math.MaxInt, []string{"k"})
		}
	}
	for _, exp := range []int{-1, -2, -month, -most, math.MinInt} {
		for _, verb := range []int{api.VSet, api.VTouch} {
			m := model.New()
			set(m, "k", "v", 1)
			m.Apply(api.Request{Verb: verb, Keys: []string{"k"}, Exp: exp, Data: "v"}, 100, 1)
			for _, now := range []int{math.MinInt, -1, 0, 99, 100, 101, math.MaxInt} {
				tells(t, exp, m, now, []string{"k"})
			}
			has(t, exp, m, api.Entry{Key: "k", Deadline: -1, Value: "v", Cas: 1})
		}
	}
	// A time that has gone by already.
	m := model.New()
	m.Apply(api.Request{Verb: api.VSet, Keys: []string{"k"}, Exp: month + 1, Data: "v"}, month+1, 1)
	tells(t, "gone by", m, month+1, []string{"k"})
}

// R2

// Neither a request's keys nor their spare room are changed or kept.
func TestWhatIsHandedInIsNotChangedOrKept(t *testing.T) {
	for _, verb := range append(slices.Clone(others), changing...) {
		for _, n := range []int{1, 2} {
			room := []string{"ever", "till", "spare"}
			r, same := full(verb), full(verb)
			r.Keys, same.Keys = room[:n], []string{"ever", "till"}[:n]
			m := filled()
			m.Apply(r, 100, 9)
			if !reflect.DeepEqual(r, same) || !slices.Equal(room, []string{"ever", "till", "spare"}) {
				t.Error(verb, r, room)
			}
			l := m.List()
			room[0], room[1], room[2] = "x", "y", "z"
			has(t, verb, m, l...)
		}
	}
}

// view is bytes as a text that changes with them.
func view(b []byte) string { return unsafe.String(&b[0], len(b)) }

// What is kept stands on its own memory, whatever becomes of the bytes that were handed in.
func TestEntriesAreOnTheirOwnMemory(t *testing.T) {
	for _, verb := range changing {
		for _, there := range []bool{false, true} {
			m := model.New()
			if there {
				set(m, "key", "77", 4)
			}
			key, data := []byte("key"), []byte("12")
			m.Apply(api.Request{Verb: verb, Keys: []string{view(key)}, Cas: 4, Data: view(data)}, 0, 5)
			var want []api.Entry
			for _, e := range m.List() {
				e.Key, e.Value = strings.Clone(e.Key), strings.Clone(e.Value)
				want = append(want, e)
			}
			copy(key, "xyz")
			copy(data, "99")
			has(t, verb, m, want...)
			if m.Forget("key") != (len(want) > 0) || m.Forget("xyz") {
				t.Error(verb, there, "the key isn't its own")
			}
		}
	}
}

// Runs

func TestRuns(t *testing.T) {
	m := model.New()
	a := []string{"a"}
	isAnswer(t, "set", m.Apply(api.Request{Verb: api.VSet, Keys: a, Flags: 1, Data: "5"}, 0, 1), api.Answer{Kind: api.AStored})
	isAnswer(t, "incr", m.Apply(api.Request{Verb: api.VIncr, Keys: a, Delta: 10}, 0, 2), api.Answer{Kind: api.ANumber, Num: 15})
	tells(t, "get", m, 0, a, api.Found{Key: "a", Flags: 1, Value: "15", Cas: 2})
	isAnswer(t, "add", m.Apply(ask(api.VAdd, "a", "x"), 0, 3), api.Answer{Kind: api.ANotStored})
	isAnswer(t, "delete", m.Apply(ask(api.VDelete, "a", ""), 0, 4), api.Answer{Kind: api.ADeleted})
	tells(t, "get", m, 0, a)

	m.Apply(api.Request{Verb: api.VSet, Keys: a, Exp: 10, Data: "v"}, 100, 5)
	tells(t, "109", m, 109, a, api.Found{Key: "a", Value: "v", Cas: 5})
	tells(t, "110", m, 110, a)
}
