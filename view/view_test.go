package view_test

import (
	"math"
	"slices"
	"testing"

	"depot/api"
	"depot/view"
)

// events is each event, and states each state.
func events() []int { return []int{view.Again, view.Began, view.Filled} }
func states() []int { return []int{api.Out, api.Filling, api.Up} }

// to is the events that bring a slot to a state, behind an Again.
func to(state int) []int {
	return map[int][]int{api.Out: nil, api.Filling: {view.Began}, api.Up: {view.Began, view.Filled}}[state]
}

// far is numbers about the bounds of int and of 32 bits: none of them is a slot, an event or a state, though the lowest bits of some are those of one.
func far() []int {
	l := []int{math.MinInt, math.MinInt + 1, math.MinInt + 2, math.MinInt + 3, math.MaxInt - 2, math.MaxInt - 1, math.MaxInt}
	for _, n := range []int{-1 << 62, -1 << 32, -1 << 31, -1 << 16, -1 << 8, 1 << 8, 1 << 16, 1 << 31, 1 << 32, 1 << 62} {
		l = append(l, n-1, n, n+1, n+2, n+3)
	}
	return l
}

// made is a new view.
func made(t *testing.T, slots int) *view.View {
	t.Helper()
	v, e := view.New(slots)
	if v == nil || e != api.OK {
		t.Fatalf("New(%d) = %v, %d", slots, v, e)
	}
	return v
}

// next fails if Next of the slot i and these events, each in turn, isn't ok.
func next(t *testing.T, v *view.View, ok bool, i int, events ...int) {
	t.Helper()
	for at, event := range events {
		if v.Next(i, event) != ok {
			t.Fatalf("event %d of %v of slot %d: %v", at, events, i, !ok)
		}
	}
}

// brought is a new view of slots in these states, the incarnation of the slot i being i + 1.
func brought(t *testing.T, states ...int) *view.View {
	t.Helper()
	v := made(t, len(states))
	for i, state := range states {
		for range i + 1 {
			next(t, v, true, i, view.Again)
		}
		next(t, v, true, i, to(state)...)
	}
	return v
}

// is fails if the slot i stands in another way.
func is(t *testing.T, v *view.View, i, state, inc int) {
	t.Helper()
	if gotState, gotInc := v.State(i), v.Inc(i); gotState != state || gotInc != inc {
		t.Fatalf("slot %d of %d: state %d, inc %d, not %d, %d", i, v.Slots(), gotState, gotInc, state, inc)
	}
}

// few fails if not so many slots are in one of the states.
func few(t *testing.T, v *view.View, want int, states ...int) {
	t.Helper()
	if got := v.Few(states...); got != want {
		t.Fatalf("Few(%v) = %d, not %d", states, got, want)
	}
}

// same fails if anything that v tells of itself is not as a view that was brought to these states tells it.
func same(t *testing.T, v *view.View, states ...int) {
	t.Helper()
	if v.Slots() != len(states) {
		t.Fatalf("%d slots, not %d", v.Slots(), len(states))
	}
	for i, state := range states {
		is(t, v, i, state, i+1)
	}
}

// The numbers are the document's.
func TestWhatIsTakenForGranted(t *testing.T) {
	if api.MaxN != 12 || !slices.Equal(states(), []int{0, 1, 2}) || !slices.Equal(events(), []int{1, 2, 3}) {
		t.Error(api.MaxN, states(), events())
	}
}

// P18.1

func TestNewOfWrongNumbers(t *testing.T) {
	for _, slots := range append(far(), -13, -12, -2, -1, 0, 13, 14, 24, 64, 255) {
		if v, e := view.New(slots); v != nil || e != api.ErrArg {
			t.Errorf("New(%d) = %v, %d", slots, v, e)
		}
	}
}

func TestNewOfEachNumber(t *testing.T) {
	for slots := 1; slots <= 12; slots++ {
		v := made(t, slots)
		if v.Slots() != slots {
			t.Errorf("Slots() = %d, not %d", v.Slots(), slots)
		}
		for i := range slots {
			is(t, v, i, api.Out, 0)
		}
		few(t, v, slots, api.Out)
		few(t, v, 0, api.Filling, api.Up)
	}
}

// The slots at both ends are Up, so that a number that was brought to the nearest one would tell.
func TestOfNoSlot(t *testing.T) {
	for slots := 1; slots <= 12; slots++ {
		up := slices.Repeat([]int{api.Up}, slots)
		v := brought(t, up...)
		for _, i := range append(far(), -13, -12, -2, -1, slots, slots+1, 13, 255) {
			is(t, v, i, api.Out, 0)
		}
		is(t, v, 0, api.Up, 1)
		is(t, v, slots-1, api.Up, slots)
		same(t, v, up...)
	}
}

func TestFew(t *testing.T) {
	v := brought(t, api.Up, api.Out, api.Filling, api.Up, api.Up, api.Filling)
	few(t, v, 0)
	few(t, v, 0, []int{}...)
	few(t, v, 1, api.Out)
	few(t, v, 2, api.Filling)
	few(t, v, 3, api.Up)
	few(t, v, 3, api.Out, api.Filling)
	few(t, v, 4, api.Up, api.Out)
	few(t, v, 5, api.Filling, api.Up)
	few(t, v, 6, api.Up, api.Out, api.Filling)
	// The same state more than once.
	few(t, v, 3, api.Up, api.Up)
	few(t, v, 1, api.Out, api.Out, api.Out)
	few(t, v, 5, api.Up, api.Filling, api.Up, api.Filling, api.Up)
	few(t, v, 3, slices.Repeat([]int{api.Up}, 1000)...)
	same(t, v, api.Up, api.Out, api.Filling, api.Up, api.Up, api.Filling)
}

func TestFewOfNoStates(t *testing.T) {
	v := brought(t, api.Up, api.Out, api.Filling, api.Up)
	none := append(far(), -2, -1, 3, 4, 9)
	for _, n := range none {
		few(t, v, 0, n)
		few(t, v, 2, n, api.Up)
		few(t, v, 1, api.Out, n)
		few(t, v, 3, n, api.Up, n, api.Filling, n)
	}
	few(t, v, 0, none...)
	few(t, v, 4, append(none, api.Up, api.Out, api.Filling)...)
}

// Of slots that no longer stand as at first, and lists of up to four states, each one is counted by hand.
func TestFewOfManyLists(t *testing.T) {
	for _, now := range lists(3, 0, 3) {
		if len(now) == 0 {
			continue
		}
		v := brought(t, now...)
		for _, asked := range lists(4, -1, 4) {
			want := 0
			for _, state := range now {
				for _, a := range asked {
					if a == state {
						want++
						break
					}
				}
			}
			few(t, v, want, asked...)
		}
		same(t, v, now...)
	}
}

// lists is each list of up to most numbers from least on and below end.
func lists(most, least, end int) [][]int {
	all, last := [][]int{nil}, [][]int{nil}
	for range most {
		var longer [][]int
		for _, l := range last {
			for n := least; n < end; n++ {
				longer = append(longer, append(slices.Clone(l), n))
			}
		}
		all, last = append(all, longer...), longer
	}
	return all
}

// What is handed in stays as it was, its spare room too, and isn't kept.
func TestFewLeavesItsList(t *testing.T) {
	v := brought(t, api.Up, api.Out, api.Filling)
	asked := []int{api.Up, 7, api.Out, api.Up, -1, api.Filling, 5}
	few(t, v, 2, asked[:4]...)
	if !slices.Equal(asked, []int{api.Up, 7, api.Out, api.Up, -1, api.Filling, 5}) {
		t.Error(asked)
	}
	// The Filling behind the length isn't read.
	few(t, v, 2, asked[:5]...)
	few(t, v, 3, asked[:6]...)
	clear(asked)
	few(t, v, 2, api.Filling, api.Up)
	same(t, v, api.Up, api.Out, api.Filling)
}

// P18.2

// outcome is what an event makes of a slot; if it doesn't apply, ok is false, and the others as the slot was.
type outcome struct {
	ok         bool
	state, inc int
}

// Each event in each state, of incarnations 1 to 4.
func TestEachEventInEachState(t *testing.T) {
	for _, c := range []struct {
		state, event int
		ok           bool
		then, more   int
	}{
		{api.Out, view.Again, true, api.Out, 1},
		{api.Out, view.Began, true, api.Filling, 0},
		{api.Out, view.Filled, false, api.Out, 0},
		{api.Filling, view.Again, true, api.Out, 1},
		{api.Filling, view.Began, false, api.Filling, 0},
		{api.Filling, view.Filled, true, api.Up, 0},
		{api.Up, view.Again, true, api.Out, 1},
		{api.Up, view.Began, false, api.Up, 0},
		{api.Up, view.Filled, false, api.Up, 0},
	} {
		for inc := 1; inc <= 4; inc++ {
			v := made(t, 1)
			next(t, v, true, 0, slices.Repeat([]int{view.Again}, inc)...)
			next(t, v, true, 0, to(c.state)...)
			next(t, v, c.ok, 0, c.event)
			is(t, v, 0, c.then, inc+c.more)
			few(t, v, 1, c.then)
		}
	}
}

// A slot whose incarnation is 0 can only begin anew.
func TestOfIncarnationZero(t *testing.T) {
	for slots := 1; slots <= 12; slots++ {
		v := made(t, slots)
		for i := range slots {
			next(t, v, false, i, view.Began, view.Filled, view.Filled, view.Began)
			is(t, v, i, api.Out, 0)
		}
		few(t, v, slots, api.Out)
		for i := range slots {
			next(t, v, true, i, view.Again)
			is(t, v, i, api.Out, 1)
			next(t, v, true, i, view.Began)
			is(t, v, i, api.Filling, 1)
		}
		few(t, v, slots, api.Filling)
	}
}

func TestOfNoEvent(t *testing.T) {
	none := append(far(), -3, -2, -1, 0, 4, 5, 6, 7, 255)
	for _, state := range states() {
		v := brought(t, state, state)
		for i := range 2 {
			next(t, v, false, i, none...)
			same(t, v, state, state)
		}
	}
	v := made(t, 1)
	next(t, v, false, 0, none...)
	is(t, v, 0, api.Out, 0)
}

// Each event of what is no slot, the slots standing so that it would apply to one of them.
func TestNextOfNoSlot(t *testing.T) {
	for slots := 1; slots <= 12; slots++ {
		for _, state := range states() {
			now := slices.Repeat([]int{state}, slots)
			v := brought(t, now...)
			for _, i := range append(far(), -13, -12, -2, -1, slots, slots+1, 13, 255) {
				next(t, v, false, i, view.Again, view.Began, view.Filled, view.Again, 0, 4, -1)
				is(t, v, i, api.Out, 0)
			}
			same(t, v, now...)
		}
	}
}

// What becomes of one slot is nothing to the others, nor to another view.
func TestOthersStayAsTheyAre(t *testing.T) {
	for slots := 1; slots <= 12; slots++ {
		for i := range slots {
			now := make([]int, slots)
			for other := range now {
				now[other] = states()[other%3]
			}
			now[i] = api.Out
			v, twin := brought(t, now...), brought(t, now...)
			for _, c := range []struct{ event, state, inc int }{
				{view.Began, api.Filling, i + 1}, {view.Filled, api.Up, i + 1}, {view.Again, api.Out, i + 2}, {view.Again, api.Out, i + 3},
			} {
				next(t, v, true, i, c.event)
				is(t, v, i, c.state, c.inc)
				for other, state := range now {
					if other != i {
						is(t, v, other, state, other+1)
					}
				}
			}
			same(t, twin, now...)
		}
	}
}

// The chapter's run.
func TestRun(t *testing.T) {
	v := made(t, 2)
	for at, c := range []struct {
		event int
		want  outcome
	}{
		{view.Began, outcome{false, api.Out, 0}},
		{view.Again, outcome{true, api.Out, 1}},
		{view.Again, outcome{true, api.Out, 2}},
		{view.Began, outcome{true, api.Filling, 2}},
		{view.Filled, outcome{true, api.Up, 2}},
		{view.Again, outcome{true, api.Out, 3}},
	} {
		got := outcome{v.Next(0, c.event), v.State(0), v.Inc(0)}
		if got != c.want {
			t.Errorf("step %d: %v, not %v", at, got, c.want)
		}
	}
	is(t, v, 0, api.Out, 3)
	is(t, v, 1, api.Out, 0)
}
