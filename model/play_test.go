package model_test

import (
	"fmt"
	"math/big"
	"slices"
	"testing"

	"depot/api"
	"depot/model"
)

// P15.5: a value that was stored is told till it is changed, dropped, forgotten, or over.

// Whatever is done to other keys, and whatever is refused, a value is told on.
func TestAValueIsToldTillSomethingBecomesOfIt(t *testing.T) {
	v := api.Found{Key: "k", Flags: 6, Value: "word", Cas: 1}
	stored := func() *model.Model {
		m := model.New()
		m.Apply(api.Request{Verb: api.VSet, Keys: []string{"k"}, Flags: 6, Exp: 1000, Data: "word"}, 0, 1)
		return m
	}
	m := stored()
	version := 1
	for _, verb := range append(slices.Clone(others), changing...) {
		if verb == api.VFlush {
			continue
		}
		for now, key := range []string{"", "K", "kk", "j", "l", "k "} {
			version++
			m.Apply(ask(verb, key, "1"), now, version)
			m.Forget(key)
			tells(t, verb, m, now, []string{"k"}, v)
		}
	}
	for i, r := range []api.Request{
		ask(api.VAdd, "k", "x"), {Verb: api.VCas, Keys: []string{"k"}, Cas: 2, Data: "x"}, {Verb: api.VIncr, Keys: []string{"k"}, Delta: 1},
		{Verb: api.VDecr, Keys: []string{"k"}, Delta: 1}, ask(api.VAppend, "k", string(make([]byte, api.MaxValue))),
		{Verb: api.VSet, Keys: []string{"k", "k"}}, {Verb: api.VDelete}, ask(api.VVersion, "k", ""), ask(99, "k", ""),
	} {
		m.Apply(r, 500+i, 70+i)
		tells(t, r.Verb, m, 999, []string{"k"}, v)
		has(t, r.Verb, m, api.Entry{Key: "k", Flags: 6, Deadline: 1000, Value: "word", Cas: 1})
	}
	tells(t, "over", m, 1000, []string{"k"})

	for name, end := range map[string]func(m *model.Model){
		"dropped":   func(m *model.Model) { m.Apply(ask(api.VDelete, "k", ""), 5, 2) },
		"forgotten": func(m *model.Model) { m.Forget("k") },
		"flushed":   func(m *model.Model) { m.Apply(api.Request{Verb: api.VFlush}, 5, 2) },
		"touched":   func(m *model.Model) { m.Apply(api.Request{Verb: api.VTouch, Keys: []string{"k"}, Exp: 1}, 5, 2) },
	} {
		m := stored()
		tells(t, name, m, 6, []string{"k"}, v)
		end(m)
		tells(t, name, m, 6, []string{"k"})
	}
}

// row is the promises of the chapter, written plainly: entries in a row, gone through one by one.
type row struct{ l []api.Entry }

// at is the place of the key's entry, or -1.
func (w *row) at(key string) int {
	return slices.IndexFunc(w.l, func(e api.Entry) bool { return e.Key == key })
}

// lives tells whether e does at now.
func lives(e api.Entry, now int) bool { return e.Deadline == 0 || e.Deadline > 0 && now < e.Deadline }

// until is the deadline of exp at now, now being within its limits.
func until(exp, now int) int {
	if exp > 0 && exp <= 2592000 {
		return now + exp
	}
	return max(-1, min(exp, 1<<40))
}

// number reads up to 20 digits.
func number(s string) (*big.Int, bool) {
	for _, b := range []byte(s) {
		if b < '0' || b > '9' {
			return nil, false
		}
	}
	n, ok := new(big.Int).SetString(s, 10)
	return n, ok && len(s) <= 20 && n.IsUint64()
}

// apply is P15.4.
func (w *row) apply(r api.Request, now, version int) api.Answer {
	if r.Verb == api.VGet || r.Verb == api.VGets {
		a := api.Answer{Kind: api.AValues, Gets: r.Verb == api.VGets}
		for _, key := range r.Keys {
			if at := w.at(key); at >= 0 && lives(w.l[at], now) {
				e := w.l[at]
				a.Values = append(a.Values, api.Found{Key: e.Key, Flags: e.Flags, Value: e.Value, Cas: e.Cas})
			}
		}
		return a
	}
	if r.Verb == api.VFlush {
		w.l = nil
		return api.Answer{Kind: api.AOK}
	}
	if len(r.Keys) != 1 {
		return api.Answer{}
	}
	at := w.at(r.Keys[0])
	if at >= 0 && lives(w.l[at], now) {
		return w.change(r, at, now, version)
	}
	switch r.Verb {
	case api.VSet, api.VAdd:
		if at >= 0 {
			w.l = slices.Delete(w.l, at, at+1)
		}
		w.l = append(w.l, api.Entry{Key: r.Keys[0], Flags: r.Flags, Deadline: until(r.Exp, now), Value: r.Data, Cas: version})
		return api.Answer{Kind: api.AStored}
	case api.VReplace, api.VAppend, api.VPrepend:
		return api.Answer{Kind: api.ANotStored}
	case api.VCas, api.VDelete, api.VTouch, api.VIncr, api.VDecr:
		return api.Answer{Kind: api.ANotFound}
	}
	return api.Answer{}
}

// change is P15.3 for an entry that lives, at that place.
func (w *row) change(r api.Request, at, now, version int) api.Answer {
	e := &w.l[at]
	switch r.Verb {
	case api.VAdd:
		return api.Answer{Kind: api.ANotStored}
	case api.VDelete:
		w.l = slices.Delete(w.l, at, at+1)
		return api.Answer{Kind: api.ADeleted}
	case api.VTouch:
		e.Deadline = until(r.Exp, now)
		return api.Answer{Kind: api.ATouched}
	case api.VIncr, api.VDecr:
		n, ok := number(e.Value)
		if !ok {
			return api.Answer{Kind: api.AClient, Text: numbers}
		}
		d := new(big.Int).SetUint64(r.Delta)
		if r.Verb == api.VIncr {
			n.Mod(n.Add(n, d), new(big.Int).Lsh(big.NewInt(1), 64))
		} else if n.Sub(n, d); n.Sign() < 0 {
			n.SetInt64(0)
		}
		e.Value, e.Cas = n.String(), version
		return api.Answer{Kind: api.ANumber, Num: n.Uint64()}
	case api.VAppend, api.VPrepend:
		if len(e.Value)+len(r.Data) > 1<<20 {
			return api.Answer{Kind: api.AServer, Text: large}
		}
		if e.Cas = version; r.Verb == api.VAppend {
			e.Value += r.Data
		} else {
			e.Value = r.Data + e.Value
		}
		return api.Answer{Kind: api.AStored}
	case api.VCas:
		if e.Cas != r.Cas {
			return api.Answer{Kind: api.AExists}
		}
		fallthrough
	case api.VSet, api.VReplace:
		*e = api.Entry{Key: e.Key, Flags: r.Flags, Deadline: until(r.Exp, now), Value: r.Data, Cas: version}
		return api.Answer{Kind: api.AStored}
	}
	return api.Answer{}
}

// list is the entries by rising keys.
func (w *row) list() []api.Entry {
	l := slices.Clone(w.l)
	for i := range l {
		for j := i; j > 0 && l[j].Key < l[j-1].Key; j-- {
			l[j], l[j-1] = l[j-1], l[j]
		}
	}
	return l
}

// anyRequest is one of any verb, for few keys, so that they meet.
func anyRequest(roll func() uint64, version int) api.Request {
	keys := []string{"a", "b", "c", ""}
	data := []string{"", "0", "7", "99", "18446744073709551615", "18446744073709551616", "x", "1 "}
	exps := []int{0, 0, 0, -1, 1, 3, 10, 40, 2592000, 2592001, 1 << 40, 1<<40 + 5}
	r := api.Request{Verb: int(roll()%20) - 1, Flags: int(roll() % 9), Delta: roll(), Data: data[roll()%8], Exp: exps[roll()%12]}
	r.Cas = max(0, version-int(roll()%4))
	n := 1
	if roll()%8 == 0 || r.Verb == api.VGets {
		n = int(roll() % 4)
	}
	for range n {
		r.Keys = append(r.Keys, keys[roll()%4])
	}
	return r
}

// Many requests, held against the plain writing, with twins on the way.
func TestManyRequests(t *testing.T) {
	seen := map[string]int{}
	for seed := range uint64(400) {
		roll := chance(seed)
		m, w := model.New(), &row{}
		now := 0
		for version := range 150 {
			now += int(roll() % 3)
			r := anyRequest(roll, version)
			if r.Verb == api.VFlush && roll()%4 != 0 {
				r.Verb = api.VSet
			}
			want := w.apply(r, now, version)
			got := m.Apply(r, now, version)
			isAnswer(t, fmt.Sprint(seed, now, version, r), got, want)
			seen[fmt.Sprint(r.Verb, " ", want.Kind)]++
			if roll()%16 == 0 {
				key := []string{"a", "b", "c", "none"}[roll()%4]
				at := w.at(key)
				if at >= 0 {
					w.l = slices.Delete(w.l, at, at+1)
				}
				if m.Forget(key) != (at >= 0) {
					t.Error(seed, "Forget", key)
				}
			}
			has(t, r, m, w.list()...)
			if roll()%16 == 0 {
				elder := m
				m = m.Twin()
				elder.Apply(api.Request{Verb: api.VFlush}, now, version)
			}
			if t.Failed() {
				return
			}
		}
	}
	for _, met := range []string{
		"1 1", "2 1", "3 2", "4 2", "4 3", "5 2", "5 3", "6 2", "6 3", "7 2", "7 3", "8 2", "8 4", "8 5", "9 5", "9 6",
		"10 5", "10 8", "10 13", "11 5", "11 8", "11 13", "12 5", "12 7", "13 9", "14 0", "17 0", "0 0", "-1 0", "18 0",
	} {
		if seen[met] < 10 {
			t.Error("verb and kind", met, "were met", seen[met], "times")
		}
	}
}

// Answers hang on what was given alone.
func TestTheSameRequestsTellTheSame(t *testing.T) {
	play := func() string {
		roll, m, s := chance(3), model.New(), ""
		for version := range 500 {
			s += fmt.Sprint(m.Apply(anyRequest(roll, version), version, version), m.List())
		}
		return s
	}
	first := play()
	for range 5 {
		if play() != first {
			t.Error("not the same")
		}
	}
}
