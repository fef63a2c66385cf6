package view_test

import (
	"strings"
	"testing"

	"depot/api"
	"depot/view"
)

// past is the events that applied to a slot, one letter each: what it is told is read off them anew each time.
type past string

// letter is an event's; none is no event's.
func letter(event int) string {
	switch event {
	case view.Again:
		return "A"
	case view.Began:
		return "B"
	case view.Filled:
		return "F"
	}
	return ""
}

// inc is how often the slot was to begin anew.
func (p past) inc() int { return strings.Count(string(p), "A") }

// ofThis is what applied in this incarnation.
func (p past) ofThis() string { return string(p)[strings.LastIndex(string(p), "A")+1:] }

// state is what the events of this incarnation come to.
func (p past) state(t *testing.T) int {
	switch p.ofThis() {
	case "":
		return api.Out
	case "B":
		return api.Filling
	case "BF":
		return api.Up
	}
	t.Fatalf("%q is no slot's past", p)
	return 0
}

// next is the past with that event, and whether it applies.
func (p past) next(event int) (past, bool) {
	l := letter(event)
	ok := l == "A" || l == "B" && p.inc() > 0 && p.ofThis() == "" || l == "F" && p.ofThis() == "B"
	if !ok {
		return p, false
	}
	return p + past(l), true
}

// played is a view, and what applied to each of its slots.
type played struct {
	*testing.T
	v     *view.View
	pasts []past
}

// begin is a new view to play with.
func begin(t *testing.T, slots int) *played { return &played{t, made(t, slots), make([]past, slots)} }

// next does one step, and fails if the view makes anything else of it than P18.1 to P18.3 ask.
func (p *played) next(i, event int) {
	p.Helper()
	ok := false
	inc, state := p.v.Inc(i), p.v.State(i)
	if i >= 0 && i < len(p.pasts) {
		p.pasts[i], ok = p.pasts[i].next(event)
	}
	if got := p.v.Next(i, event); got != ok {
		p.Fatalf("event %d of slot %d, behind %q: %v", event, i, p.pasts, got)
	}
	if p.v.Inc(i) < inc {
		p.Fatalf("event %d of slot %d: inc %d, behind %d", event, i, p.v.Inc(i), inc)
	}
	if p.v.State(i) == api.Up && (p.v.Inc(i) != inc || state == api.Out) {
		p.Fatalf("event %d of slot %d: Up of inc %d, behind %d of inc %d", event, i, p.v.Inc(i), state, inc)
	}
	p.seen()
}

// seen fails if the view tells anything else of its slots than their pasts do.
func (p *played) seen() {
	p.Helper()
	count := [3]int{}
	for i, past := range p.pasts {
		state := past.state(p.T)
		is(p.T, p.v, i, state, past.inc())
		count[state]++
	}
	is(p.T, p.v, -1, api.Out, 0)
	is(p.T, p.v, len(p.pasts), api.Out, 0)
	for state, n := range count {
		few(p.T, p.v, n, state)
		few(p.T, p.v, len(p.pasts)-n, (state+1)%3, (state+2)%3)
	}
}

// step is an event of a slot.
type step struct{ slot, event int }

// each plays each list of so many of the steps, from the beginning.
func each(t *testing.T, slots, length int, steps []step) {
	t.Helper()
	all := 1
	for range length {
		all *= len(steps)
	}
	for n := range all {
		p := begin(t, slots)
		for range length {
			s := steps[n%len(steps)]
			n /= len(steps)
			p.next(s.slot, s.event)
		}
	}
}

// P18.2, P18.3: each list of seven events of one slot, one that is none among them.
func TestEachPlayOfOneSlot(t *testing.T) {
	each(t, 1, 7, []step{{0, view.Again}, {0, view.Began}, {0, view.Filled}, {0, 0}})
}

// P18.2, P18.3: each list of six events of two slots.
func TestEachPlayOfTwoSlots(t *testing.T) {
	each(t, 2, 6, []step{{0, view.Again}, {0, view.Began}, {0, view.Filled}, {1, view.Again}, {1, view.Began}, {1, view.Filled}})
}

// P18.2, P18.3: long plays, of each number of slots, with what is no slot and no event in between.
func TestLongPlays(t *testing.T) {
	for slots := 1; slots <= api.MaxN; slots++ {
		p := begin(t, slots)
		seed := uint32(slots)
		roll := func(n int) int {
			seed = seed*1664525 + 1013904223
			return int(seed>>16) % n
		}
		up := 0
		for range 1500 {
			p.next(roll(slots+2)-1, roll(5))
			up = max(up, p.v.Few(api.Up))
		}
		if up == 0 {
			t.Errorf("none of %d slots was ever Up", slots)
		}
	}
}

// P18.3: none but the three events, of one incarnation and in that order, makes a slot Up.
func TestUpOnlyBehindAllThree(t *testing.T) {
	for _, c := range []struct {
		events string
		state  int
		inc    int
	}{
		{"", api.Out, 0}, {"B", api.Out, 0}, {"F", api.Out, 0}, {"BF", api.Out, 0}, {"A", api.Out, 1}, {"BA", api.Out, 1}, {"BAF", api.Out, 1},
		{"AF", api.Out, 1}, {"AFB", api.Filling, 1}, {"AFBF", api.Up, 1}, {"AB", api.Filling, 1}, {"ABB", api.Filling, 1}, {"ABF", api.Up, 1},
		{"ABFB", api.Up, 1}, {"ABFF", api.Up, 1}, {"ABAF", api.Out, 2}, {"ABABF", api.Up, 2}, {"ABFA", api.Out, 2}, {"ABFAF", api.Out, 2},
		{"ABFAB", api.Filling, 2}, {"ABFABF", api.Up, 2}, {"ABFAA", api.Out, 3}, {"AAABF", api.Up, 3}, {"ABFAABBFFBF", api.Up, 3},
	} {
		v := made(t, 3)
		for _, l := range c.events {
			v.Next(1, strings.IndexRune(" ABF", l))
		}
		is(t, v, 1, c.state, c.inc)
		is(t, v, 0, api.Out, 0)
		is(t, v, 2, api.Out, 0)
	}
}
