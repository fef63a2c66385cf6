package ask_test

import (
	"fmt"
	"math"
	"slices"
	"strings"
	"testing"

	"depot/api"
	"depot/ask"
)

// inc is the incarnation of most requests of these tests.
const inc = 5

// to is a request to a slot.
func to(slot int) api.Frame { return api.Frame{Kind: api.FScan, Slot: slot, Inc: inc} }

// reply is the right answer to a request.
func reply(f api.Frame) api.Frame {
	return api.Frame{Kind: api.FAnswer, Slot: f.Slot, Inc: f.Inc, Rid: f.Rid, Role: f.Role, Key: f.Key}
}

// with is f, changed.
func with(f api.Frame, change func(*api.Frame)) api.Frame {
	change(&f)
	return f
}

// brief tells frames in few letters, however long their texts are.
func brief(l ...api.Frame) string {
	var b strings.Builder
	for _, f := range l {
		fmt.Fprintf(&b, "{kind %d slot %d inc %d rid %d floor %d role %d key %.12q of %d version %d data %.12q of %d}",
			f.Kind, f.Slot, f.Inc, f.Rid, f.Floor, f.Role, f.Key, len(f.Key), f.Version, f.Data, len(f.Data))
	}
	return "[" + b.String() + "]"
}

// far is numbers about the bounds of int and of 32 bits: none of them is a slot, a kind or a role.
func far() []int {
	l := []int{math.MinInt, math.MinInt + 1, math.MinInt + 4, math.MaxInt - 1, math.MaxInt}
	for _, n := range []int{-1 << 62, -1 << 40, -1 << 32, -1 << 31, -1 << 16, -1 << 8, 1 << 8, 1 << 16, 1 << 31, 1 << 32, 1 << 40, 1 << 62} {
		l = append(l, n-1, n, n+1, n+2, n+4)
	}
	return l
}

// desk is asks that are tried.
type desk struct {
	*testing.T
	a *ask.Asks
}

// open is the desk of new asks.
func open(t *testing.T) *desk {
	t.Helper()
	a := ask.New()
	if a == nil {
		t.Fatal("New() = nil")
	}
	return &desk{t, a}
}

// under fails if others are under way.
func (d *desk) under(want ...api.Frame) {
	d.Helper()
	if got := d.a.List(); !slices.Equal(got, want) {
		d.Fatalf("under way: %s, not %s", brief(got...), brief(want...))
	}
}

// begins fails if f isn't begun with that number and floor. It tells it as it was sent.
func (d *desk) begins(f api.Frame, rid, floor int) api.Frame {
	d.Helper()
	want := with(f, func(f *api.Frame) { f.Rid, f.Floor = rid, floor })
	if got, ok := d.a.Begin(f); got != want || !ok {
		d.Fatalf("Begin(%s) = %s, %v, not %s", brief(f), brief(got), ok, brief(want))
	}
	return want
}

// refuses fails if any of these is begun, or changes what is under way.
func (d *desk) refuses(l ...api.Frame) {
	d.Helper()
	before := d.a.List()
	for _, f := range l {
		if got, ok := d.a.Begin(f); got != (api.Frame{}) || ok {
			d.Fatalf("Begin(%s) = %s, %v", brief(f), brief(got), ok)
		}
		d.under(before...)
	}
}

// hears fails if f doesn't answer that request, or if it is still under way then.
func (d *desk) hears(f, want api.Frame) {
	d.Helper()
	left := slices.DeleteFunc(d.a.List(), func(r api.Frame) bool { return r == want })
	if got, ok := d.a.Answer(f); got != want || !ok {
		d.Fatalf("Answer(%s) = %s, %v, not %s", brief(f), brief(got), ok, brief(want))
	}
	d.under(left...)
}

// deaf fails if any of these answers a request, or changes what is under way.
func (d *desk) deaf(l ...api.Frame) {
	d.Helper()
	before := d.a.List()
	for _, f := range l {
		if got, ok := d.a.Answer(f); got != (api.Frame{}) || ok {
			d.Fatalf("Answer(%s) = %s, %v", brief(f), brief(got), ok)
		}
		d.under(before...)
	}
}

// tick fails if a tick doesn't tell these requests and slots, or changes what is under way.
func (d *desk) tick(again []api.Frame, late []int) {
	d.Helper()
	before := d.a.List()
	gotAgain, gotLate := d.a.Tick()
	if !slices.Equal(gotAgain, again) || !slices.Equal(gotLate, late) {
		d.Fatalf("Tick() = %s, %v, not %s, %v", brief(gotAgain...), gotLate, brief(again...), late)
	}
	d.under(before...)
}

// quiet is so many ticks, of which none tells anything.
func (d *desk) quiet(ticks int) {
	d.Helper()
	d.quietBut(ticks, nil)
}

// quietBut is so many ticks that tell these slots, and nothing else.
func (d *desk) quietBut(ticks int, late []int) {
	d.Helper()
	for range ticks {
		d.tick(nil, late)
	}
}

// pass is so many ticks, whatever they tell.
func (d *desk) pass(ticks int) {
	for range ticks {
		d.a.Tick()
	}
}

// cancels fails if others are cancelled, or are still under way then.
func (d *desk) cancels(slot int, want ...api.Frame) {
	d.Helper()
	left := slices.DeleteFunc(d.a.List(), func(r api.Frame) bool { return r.Slot == slot })
	if got := d.a.Cancel(slot); !slices.Equal(got, want) {
		d.Fatalf("Cancel(%d) = %s, not %s", slot, brief(got...), brief(want...))
	}
	d.under(left...)
}

// floored is f with another floor.
func floored(f api.Frame, floor int) api.Frame {
	return with(f, func(f *api.Frame) { f.Floor = floor })
}

func TestWhatIsTakenForGranted(t *testing.T) {
	if api.Resend != 4 || api.Timeout != 40 || api.MaxN != 12 || api.MaxRid != 1<<40 || api.MaxKey != 250 || api.MaxData != 1<<20+1024 {
		t.Error("other limits")
	}
	if api.FPut != 1 || api.FGet != 2 || api.FDrop != 3 || api.FScan != 4 || api.FReset != 5 || api.FAnswer != 6 || api.FRefused != 7 {
		t.Error("other kinds")
	}
}

// P19.1

func TestNew(t *testing.T) {
	d := open(t)
	d.under()
	d.quiet(2 * api.Timeout)
	for slot := range api.MaxN {
		d.cancels(slot)
		d.deaf(reply(with(to(slot), func(f *api.Frame) { f.Rid = 1 })), reply(to(slot)))
	}
	d.under(d.begins(to(3), 1, 1))
	// Others have their own numbers, and know nothing of it.
	e := open(t)
	e.under()
	e.deaf(api.Frame{Kind: api.FAnswer, Slot: 3, Inc: inc, Rid: 1})
	e.under(e.begins(to(3), 1, 1))
}

func TestListRisesByNumbersWhateverTheSlots(t *testing.T) {
	d := open(t)
	floors := map[int]int{}
	var want []api.Frame
	for i, slot := range []int{11, 0, 7, 7, 3, 0, 11, 5, 1, 7, 0, 11, 11, 2, 10, 9, 8, 6, 4, 0} {
		if floors[slot] == 0 {
			floors[slot] = i + 1
		}
		want = append(want, d.begins(to(slot), i+1, floors[slot]))
		d.under(want...)
	}
	// Out of the order in which they were begun.
	for _, at := range []int{7, 0, 17, 3, 3, 9, 0, 12, 1, 1} {
		d.hears(reply(want[at]), want[at])
		want = slices.Delete(want, at, at+1)
		d.under(want...)
	}
}

// As they were sent first: the floors with which they are sent again are others.
func TestListTellsThemAsTheyWereSentFirst(t *testing.T) {
	d := open(t)
	x, y, z := d.begins(to(2), 1, 1), d.begins(to(2), 2, 1), d.begins(to(2), 3, 1)
	d.hears(reply(x), x)
	d.under(y, z)
	d.quiet(api.Resend - 1)
	d.tick([]api.Frame{floored(y, 2), floored(z, 2)}, nil)
	d.under(y, z)
	d.hears(reply(y), y)
	d.quiet(api.Resend - 1)
	d.tick([]api.Frame{floored(z, 3)}, nil)
	d.under(z)
	d.cancels(2, z)
	d.under()
}

// P19.2

// each is requests of each kind that is one, with the texts and numbers that they may have.
func each() []api.Frame {
	long, full := strings.Repeat("k", api.MaxKey), strings.Repeat("\xff", api.MaxData)
	var l []api.Frame
	for _, kind := range []int{api.FPut, api.FGet, api.FDrop} {
		for _, role := range []int{api.RMeta, api.RPart} {
			l = append(l, api.Frame{Kind: kind, Role: role}, api.Frame{Kind: kind, Slot: 11, Inc: 3, Role: role, Key: "key", Version: 9, Data: "data"},
				api.Frame{Kind: kind, Slot: 1, Inc: api.MaxRid, Role: role, Key: long, Version: api.MaxRid, Data: full})
		}
	}
	for _, kind := range []int{api.FScan, api.FReset} {
		l = append(l, api.Frame{Kind: kind}, api.Frame{Kind: kind, Slot: 11, Inc: 3, Key: "key", Version: 9, Data: "data"},
			api.Frame{Kind: kind, Slot: 1, Inc: api.MaxRid, Key: long, Version: api.MaxRid, Data: full})
	}
	return l
}

func TestBeginOfEachKind(t *testing.T) {
	d, floors := open(t), map[int]int{}
	var want []api.Frame
	for i, f := range each() {
		if floors[f.Slot] == 0 {
			floors[f.Slot] = i + 1
		}
		want = append(want, d.begins(f, i+1, floors[f.Slot]))
	}
	d.under(want...)
	for _, f := range want {
		d.hears(reply(f), f)
	}
	d.under()
}

// The Rid and the Floor that f has are nothing to it, even such as aren't right.
func TestBeginAsksForNoRidAndNoFloor(t *testing.T) {
	d := open(t)
	rid := 0
	for _, n := range append(far(), -2, -1, 0, 1, 2, 3, 1000, api.MaxRid, api.MaxRid+1) {
		for _, f := range []api.Frame{{Rid: n}, {Floor: n}, {Rid: n, Floor: n}, {Rid: n, Floor: -n}} {
			f.Kind = api.FReset
			rid++
			d.begins(f, rid, 1)
		}
	}
}

// wrong is frames none of which is right, whatever their Rid and Floor.
func wrong() []api.Frame {
	var l []api.Frame
	add := func(f api.Frame, changes ...func(*api.Frame)) {
		for _, change := range changes {
			l = append(l, with(f, change))
		}
	}
	keyed := []api.Frame{{Kind: api.FPut, Role: api.RMeta}, {Kind: api.FGet, Role: api.RPart}, {Kind: api.FDrop, Role: api.RMeta}}
	plain := []api.Frame{{Kind: api.FScan}, {Kind: api.FReset}, {Kind: api.FRefused}, {Kind: api.FAnswer}}
	for _, f := range append(slices.Clone(keyed), plain...) {
		for _, n := range append(far(), -1, 12, 13) {
			add(f, func(f *api.Frame) { f.Slot = n })
		}
		for _, n := range append(far(), -1, 0, 8) {
			add(f, func(f *api.Frame) { f.Kind = n })
		}
		for _, n := range append(far(), -1, 3, 4) {
			add(f, func(f *api.Frame) { f.Role = n })
		}
		for _, n := range []int{math.MinInt, -1 << 40, -1, api.MaxRid + 1, api.MaxRid + 2, math.MaxInt} {
			add(f, func(f *api.Frame) { f.Inc = n }, func(f *api.Frame) { f.Version = n })
		}
		add(f, func(f *api.Frame) { f.Key = strings.Repeat("k", api.MaxKey+1) }, func(f *api.Frame) { f.Data = strings.Repeat("d", api.MaxData+1) })
	}
	for _, f := range keyed {
		add(f, func(f *api.Frame) { f.Role = 0 })
	}
	for _, f := range plain[:3] {
		add(f, func(f *api.Frame) { f.Role = api.RMeta }, func(f *api.Frame) { f.Role = api.RPart })
	}
	return append(l, api.Frame{})
}

func TestBeginOfWhatIsNotRight(t *testing.T) {
	d := open(t)
	d.refuses(wrong()...)
	x := d.begins(to(0), 1, 1)
	d.refuses(wrong()...)
	y := d.begins(to(0), 2, 1)
	d.hears(reply(x), x)
	d.refuses(wrong()...)
	d.begins(to(0), 3, 2)
	d.hears(reply(y), y)
}

// Answers are right, and yet no requests.
func TestBeginOfAnswers(t *testing.T) {
	var l []api.Frame
	for _, slot := range []int{0, 3, 11} {
		for _, role := range []int{0, api.RMeta, api.RPart} {
			l = append(l, api.Frame{Kind: api.FAnswer, Slot: slot, Role: role}, api.Frame{Kind: api.FAnswer, Slot: slot, Inc: inc, Rid: 7, Floor: 2, Role: role, Key: "a", Version: 1, Data: "b"})
		}
		l = append(l, api.Frame{Kind: api.FRefused, Slot: slot}, api.Frame{Kind: api.FRefused, Slot: slot, Inc: inc, Rid: 7, Floor: 2})
	}
	d := open(t)
	d.refuses(l...)
	d.under(d.begins(to(3), 1, 1))
	d.refuses(l...)
	d.begins(to(3), 2, 1)
}

// A request that is the same as another one is one of its own.
func TestBeginOfTheSameTwice(t *testing.T) {
	d := open(t)
	f := api.Frame{Kind: api.FPut, Slot: 4, Inc: inc, Role: api.RPart, Key: "a", Version: 3, Data: "b"}
	x, y := d.begins(f, 1, 1), d.begins(f, 2, 1)
	z := d.begins(x, 3, 1)
	d.under(x, y, z)
	d.hears(reply(y), y)
	d.under(x, z)
}

// Floors

func TestFloorOfOne(t *testing.T) {
	for slot := range api.MaxN {
		d := open(t)
		x := d.begins(to(slot), 1, 1)
		d.hears(reply(x), x)
		// None is under way but itself.
		y := d.begins(to(slot), 2, 2)
		d.cancels(slot, y)
		z := d.begins(to(slot), 3, 3)
		d.quiet(api.Resend - 1)
		d.tick([]api.Frame{z}, nil)
	}
}

func TestFloorOfSeveral(t *testing.T) {
	d := open(t)
	u, v, w, x := d.begins(to(6), 1, 1), d.begins(to(6), 2, 1), d.begins(to(6), 3, 1), d.begins(to(6), 4, 1)
	// One that isn't the least, then the least, then the two least.
	d.hears(reply(v), v)
	y := d.begins(to(6), 5, 1)
	d.hears(reply(u), u)
	z := d.begins(to(6), 6, 3)
	d.hears(reply(x), x)
	d.hears(reply(w), w)
	d.begins(to(6), 7, 5)
	d.hears(reply(y), y)
	d.begins(to(6), 8, 6)
	d.hears(reply(z), z)
	d.begins(to(6), 9, 7)
}

// Requests to other slots are nothing to a floor.
func TestFloorOfSlotsEachItsOwn(t *testing.T) {
	d := open(t)
	var a, b []api.Frame
	for i := range 5 {
		a = append(a, d.begins(to(0), 2*i+1, 1))
		b = append(b, d.begins(to(11), 2*i+2, 2))
	}
	d.hears(reply(a[0]), a[0])
	d.begins(to(11), 11, 2)
	d.begins(to(0), 12, 3)
	d.hears(reply(b[0]), b[0])
	d.hears(reply(b[1]), b[1])
	d.begins(to(0), 13, 3)
	d.begins(to(11), 14, 6)
	d.begins(to(5), 15, 15)
	d.a.Cancel(0)
	d.begins(to(11), 16, 6)
	d.begins(to(5), 17, 15)
	d.begins(to(0), 18, 18)
	d.a.Cancel(11)
	d.begins(to(0), 19, 18)
	d.begins(to(11), 20, 20)
	d.begins(to(5), 21, 15)
}

// Of other incarnations of the slot, too: what is under way to it counts.
func TestFloorOfSeveralIncarnations(t *testing.T) {
	d := open(t)
	x := d.begins(api.Frame{Kind: api.FReset, Slot: 1, Inc: 9}, 1, 1)
	d.begins(api.Frame{Kind: api.FReset, Slot: 1, Inc: 2}, 2, 1)
	d.begins(api.Frame{Kind: api.FGet, Slot: 1, Role: api.RPart}, 3, 1)
	d.hears(reply(x), x)
	d.begins(api.Frame{Kind: api.FReset, Slot: 1, Inc: 9}, 4, 2)
}

// P19.3

func TestAnswerOfEachKind(t *testing.T) {
	for _, f := range each() {
		for _, a := range []api.Frame{
			{Kind: api.FAnswer}, {Kind: api.FRefused}, {Kind: api.FAnswer, Role: api.RMeta}, {Kind: api.FAnswer, Role: api.RPart},
			// What else it has is nothing to it, as long as it is right.
			{Kind: api.FAnswer, Floor: 77, Role: api.RPart, Key: "other", Version: 4, Data: "more"},
			{Kind: api.FRefused, Floor: api.MaxRid, Key: "other", Version: api.MaxRid, Data: "more"},
		} {
			d := open(t)
			sent := d.begins(f, 1, 1)
			a.Slot, a.Inc, a.Rid = f.Slot, f.Inc, 1
			d.hears(a, sent)
			d.deaf(a)
		}
	}
}

// strangers is frames that don't answer f, which is the only request under way.
func strangers(f api.Frame) []api.Frame {
	var l []api.Frame
	for _, a := range []api.Frame{reply(f), {Kind: api.FRefused, Slot: f.Slot, Inc: f.Inc, Rid: f.Rid}} {
		for slot := -1; slot <= api.MaxN; slot++ {
			if slot != f.Slot {
				l = append(l, with(a, func(a *api.Frame) { a.Slot = slot }))
			}
		}
		for _, n := range append(far(), -1, 0, f.Rid-1, f.Rid+1, f.Rid+2, -f.Rid, api.MaxRid) {
			l = append(l, with(a, func(a *api.Frame) { a.Rid = n }))
		}
		for _, n := range append(far(), -1, 0, f.Inc-1, f.Inc+1, -f.Inc, api.MaxRid) {
			l = append(l, with(a, func(a *api.Frame) { a.Inc = n }))
		}
		// Such as aren't right.
		for _, n := range append(far(), -1, 3, 9) {
			l = append(l, with(a, func(a *api.Frame) { a.Role = n }), with(a, func(a *api.Frame) { a.Kind = n }))
		}
		for _, n := range []int{math.MinInt, -1, api.MaxRid + 1, math.MaxInt} {
			l = append(l, with(a, func(a *api.Frame) { a.Floor = n }), with(a, func(a *api.Frame) { a.Version = n }))
		}
		l = append(l, with(a, func(a *api.Frame) { a.Key = strings.Repeat("k", api.MaxKey+1) }),
			with(a, func(a *api.Frame) { a.Data = strings.Repeat("d", api.MaxData+1) }))
	}
	refused := api.Frame{Kind: api.FRefused, Slot: f.Slot, Inc: f.Inc, Rid: f.Rid}
	l = append(l, with(refused, func(a *api.Frame) { a.Role = api.RMeta }), with(refused, func(a *api.Frame) { a.Role = api.RPart }))
	// Such as are right, and no answers: the request itself among them.
	for kind := api.FPut; kind <= api.FReset; kind++ {
		for _, role := range []int{0, api.RMeta, api.RPart} {
			l = append(l, with(f, func(a *api.Frame) { a.Kind, a.Role = kind, role }))
		}
	}
	return append(l, f, api.Frame{}, api.Frame{Kind: api.FAnswer}, api.Frame{Kind: api.FRefused})
}

func TestAnswerOfWhatIsNoAnswer(t *testing.T) {
	for _, f := range []api.Frame{to(0), to(7), {Kind: api.FGet, Slot: 11, Inc: 1, Role: api.RPart, Key: "a"}, {Kind: api.FReset, Slot: 4, Inc: api.MaxRid - 4}} {
		d := open(t)
		// A request that was begun and ended ahead of it, so that its number is 2.
		x := d.begins(to(f.Slot), 1, 1)
		d.hears(reply(x), x)
		sent := d.begins(f, 2, 2)
		d.deaf(strangers(sent)...)
		d.hears(reply(sent), sent)
		d.deaf(reply(sent), with(reply(sent), func(a *api.Frame) { a.Kind, a.Role, a.Key = api.FRefused, 0, "" }))
	}
}

// Of several requests under way just the one that is meant is told, and told as it was sent first.
func TestAnswerOfOneOfSeveral(t *testing.T) {
	const many = 7
	for first := range many {
		for second := range many {
			d := open(t)
			var l []api.Frame
			for i := range many {
				floor := 1
				if i%2 == 1 {
					floor = 2
				}
				l = append(l, d.begins(to(3+i%2), i+1, floor))
			}
			d.hears(reply(l[first]), l[first])
			if second == first {
				d.deaf(reply(l[second]))
				continue
			}
			// The slot and the incarnation of the one, the number of the other.
			d.deaf(with(reply(l[second]), func(f *api.Frame) { f.Rid = l[first].Rid }), with(reply(l[second]), func(f *api.Frame) { f.Inc++ }),
				with(reply(l[second]), func(f *api.Frame) { f.Slot = 7 - f.Slot }))
			d.hears(reply(l[second]), l[second])
			d.deaf(reply(l[first]), reply(l[second]))
			l = slices.DeleteFunc(l, func(f api.Frame) bool { return f.Rid == first+1 || f.Rid == second+1 })
			d.under(l...)
		}
	}
}

// One slot's requests of several incarnations are told apart.
func TestAnswerOfSeveralIncarnations(t *testing.T) {
	d := open(t)
	var l []api.Frame
	for i := range 4 {
		l = append(l, d.begins(api.Frame{Kind: api.FReset, Slot: 2, Inc: 4 - i}, i+1, 1))
	}
	for i, f := range l {
		for inc := range 6 {
			if inc != f.Inc {
				d.deaf(api.Frame{Kind: api.FAnswer, Slot: 2, Inc: inc, Rid: i + 1})
			}
		}
	}
	for _, i := range []int{2, 0, 3, 1} {
		d.hears(reply(l[i]), l[i])
	}
}

// What was cancelled is answered no more.
func TestAnswerOfWhatWasCancelled(t *testing.T) {
	d := open(t)
	x, y, z := d.begins(to(1), 1, 1), d.begins(to(2), 2, 2), d.begins(to(1), 3, 1)
	d.cancels(1, x, z)
	d.deaf(reply(x), reply(z))
	d.hears(reply(y), y)
}

// P19.4

// A request that stands alone, tick by tick.
func TestTicksOfOne(t *testing.T) {
	for slot := range api.MaxN {
		d := open(t)
		x := d.begins(to(slot), 1, 1)
		for tick := 1; tick <= 3*api.Timeout; tick++ {
			var again []api.Frame
			var late []int
			if tick%4 == 0 {
				again = []api.Frame{x}
			}
			if tick >= 40 {
				late = []int{slot}
			}
			d.tick(again, late)
		}
		d.hears(reply(x), x)
		d.quiet(api.Timeout)
	}
}

// A tick is counted from the Begin on, whatever ticks there were ahead of it.
func TestTicksOfDifferentAges(t *testing.T) {
	for ahead := range 2 * api.Resend {
		for between := range 2 * api.Resend {
			d := open(t)
			d.quiet(ahead)
			x := d.begins(to(9), 1, 1)
			begun := map[int]api.Frame{0: x}
			for tick := 1; tick <= 2*api.Timeout; tick++ {
				if tick == between+1 {
					begun[between+1] = d.begins(to(4), 2, 2)
				}
				var again []api.Frame
				var late []int
				if tick%4 == 0 {
					again = append(again, x)
				}
				// The second one was begun behind between ticks of the first one.
				if age := tick - between; age > 0 && age%4 == 0 {
					again = append(again, begun[between+1])
				}
				if tick-between >= 40 {
					late = append(late, 4)
				}
				if tick >= 40 {
					late = append(late, 9)
				}
				d.tick(again, late)
			}
		}
	}
}

// Several requests to one slot: each is sent again at its own time, with the floor as it is then.
func TestSentAgainWithTheFloorOfNow(t *testing.T) {
	d := open(t)
	x := d.begins(to(0), 1, 1)
	d.quiet(1)
	y := d.begins(to(0), 2, 1)
	d.quiet(1)
	z, o := d.begins(to(0), 3, 1), d.begins(to(8), 4, 4)
	d.quiet(1)
	d.tick([]api.Frame{x}, nil)
	d.tick([]api.Frame{y}, nil)
	d.tick([]api.Frame{z, o}, nil)
	d.hears(reply(x), x)
	d.quiet(2)
	d.tick([]api.Frame{floored(y, 2)}, nil)
	d.hears(reply(y), y)
	d.tick([]api.Frame{floored(z, 3), o}, nil)
	// A later one has the floor of the elder one, and lets it as it is.
	w := d.begins(to(0), 5, 3)
	d.quiet(3)
	d.tick([]api.Frame{floored(z, 3), o, w}, nil)
	d.hears(reply(z), z)
	d.hears(reply(o), o)
	d.quiet(3)
	d.tick([]api.Frame{floored(w, 5)}, nil)
}

// One that was answered or cancelled isn't sent again, and makes no slot late.
func TestTickOfWhatIsNoLongerUnderWay(t *testing.T) {
	d := open(t)
	x, y, z := d.begins(to(1), 1, 1), d.begins(to(2), 2, 2), d.begins(to(3), 3, 3)
	d.quiet(3)
	d.hears(reply(x), x)
	d.tick([]api.Frame{y, z}, nil)
	d.pass(35)
	d.cancels(2, y)
	d.tick([]api.Frame{z}, []int{3})
	d.hears(reply(z), z)
	d.quiet(api.Timeout)
}

func TestSlotsThatAreLate(t *testing.T) {
	d := open(t)
	var l []api.Frame
	// Not in the slots' order, and several requests to some of them.
	for i, slot := range []int{11, 3, 3, 0, 7, 11, 3} {
		f, _ := d.a.Begin(to(slot))
		if f.Rid != i+1 {
			t.Fatal(f)
		}
		l = append(l, f)
	}
	d.pass(api.Timeout - 1)
	young := d.begins(to(5), 8, 8)
	d.tick(l, []int{0, 3, 7, 11})
	d.tick(nil, []int{0, 3, 7, 11})
	// One of several that are late: its slot goes on being so.
	d.hears(reply(l[1]), l[1])
	d.tick(nil, []int{0, 3, 7, 11})
	d.hears(reply(l[2]), l[2])
	d.hears(reply(l[6]), l[6])
	d.hears(reply(l[3]), l[3])
	d.tick([]api.Frame{young}, []int{7, 11})
	d.cancels(7, l[4])
	d.tick([]api.Frame{l[0], l[5]}, []int{11})
	d.cancels(11, l[0], l[5])
	d.under(young)
	d.pass(api.Timeout - 6 - 1)
	d.tick(nil, nil)
	d.tick([]api.Frame{young}, []int{5})
}

// A slot is late by its eldest request, however many younger ones there are, and no longer when that was answered.
func TestLateByOneOfSeveral(t *testing.T) {
	d := open(t)
	old := d.begins(to(6), 1, 1)
	d.quiet(1)
	var young []api.Frame
	for i := range 3 {
		young = append(young, d.begins(to(6), i+2, 1))
	}
	d.pass(api.Timeout - 2)
	d.tick([]api.Frame{old}, []int{6})
	d.hears(reply(old), old)
	for i, f := range young {
		young[i] = floored(f, 2)
	}
	d.tick(young, []int{6})
	d.a.Cancel(6)
	d.under()
	// The time of those that are gone isn't the time of one that comes.
	x := d.begins(to(6), 5, 5)
	d.pass(api.Timeout - 1)
	d.tick([]api.Frame{x}, []int{6})
}

// P19.5

func TestCancel(t *testing.T) {
	d := open(t)
	var l []api.Frame
	for i, slot := range []int{4, 9, 4, 2, 4} {
		floor := i + 1
		if slot == 4 {
			floor = 1
		}
		l = append(l, d.begins(to(slot), i+1, floor))
	}
	// None is under way to these.
	for _, slot := range []int{0, 1, 3, 5, 6, 7, 8, 10, 11} {
		d.cancels(slot)
	}
	d.cancels(9, l[1])
	d.cancels(9)
	d.cancels(4, l[0], l[2], l[4])
	d.cancels(4)
	d.under(l[3])
	// The numbers aren't used again, and the floor is that of those that come.
	x := d.begins(to(4), 6, 6)
	d.cancels(2, l[3])
	d.cancels(4, x)
	d.under()
	d.begins(to(4), 7, 7)
}

// As they were sent first, though the floor has risen.
func TestCancelTellsThemAsTheyWereSentFirst(t *testing.T) {
	d := open(t)
	x, y, z := d.begins(to(3), 1, 1), d.begins(to(3), 2, 1), d.begins(to(3), 3, 1)
	d.hears(reply(x), x)
	d.pass(api.Resend)
	d.cancels(3, y, z)
}

func TestCancelOfNoSlot(t *testing.T) {
	d := open(t)
	for slot := range api.MaxN {
		d.begins(to(slot), slot+1, slot+1)
	}
	all := d.a.List()
	for _, slot := range append(far(), -13, -12, -2, -1, 12, 13, 24) {
		d.cancels(slot)
		d.under(all...)
	}
}

// P19.6: no number is used twice, whatever became of those that had it.
func TestNumbersAreNotUsedAgain(t *testing.T) {
	d := open(t)
	for rid := 1; rid <= 300; rid++ {
		// From the third one on, one of the same slot was begun two ahead of it, and is under way.
		floor := rid
		if rid > 2 {
			floor = rid - 2
		}
		f := d.begins(to(rid%2), rid, floor)
		switch {
		case rid <= 2:
			continue
		case rid%2 == 0:
			eldest := d.a.List()[0]
			d.hears(reply(eldest), eldest)
		default:
			d.refuses(api.Frame{}, reply(f))
			eldest := d.a.List()[0]
			d.hears(with(reply(eldest), func(a *api.Frame) { a.Kind = api.FRefused }), eldest)
		}
	}
	d.a.Cancel(0)
	d.a.Cancel(1)
	d.begins(to(0), 301, 301)
}

// The chapter's runs.
func TestRuns(t *testing.T) {
	d := open(t)
	x := d.begins(api.Frame{Kind: api.FScan}, 1, 1)
	d.begins(api.Frame{Kind: api.FScan}, 2, 1)
	d.hears(api.Frame{Kind: api.FAnswer, Rid: 1}, x)
	d.begins(api.Frame{Kind: api.FScan}, 3, 2)

	d = open(t)
	x = d.begins(api.Frame{Kind: api.FScan}, 1, 1)
	d.quiet(3)
	d.tick([]api.Frame{x}, nil)
	d.pass(35)
	d.tick([]api.Frame{x}, []int{0})
}

// R2: what is answered is new memory: what becomes of it, its spare room too, is nothing to the requests, nor to other answers.
func TestAnswersAreNewMemory(t *testing.T) {
	d := open(t)
	var l []api.Frame
	for i := range 6 {
		l = append(l, d.begins(to(i/3), i+1, i/3*3+1))
	}
	spoil := func(l []api.Frame) {
		l = l[:cap(l)]
		for i := range l {
			l[i] = api.Frame{Kind: 99, Slot: 99, Rid: 99}
		}
	}
	first, second := d.a.List(), d.a.List()
	spoil(first)
	if !slices.Equal(second, l) {
		t.Fatal(brief(second...))
	}
	d.under(l...)
	d.pass(api.Timeout - 1)
	again, late := d.a.Tick()
	spoil(again)
	late = late[:cap(late)]
	for i := range late {
		late[i] = 99
	}
	d.under(l...)
	d.quietBut(3, []int{0, 1})
	d.tick(l, []int{0, 1})
	gone := d.a.Cancel(0)
	spoil(gone)
	d.under(l[3:]...)
	d.begins(to(0), 7, 7)
	d.cancels(1, l[3:]...)
}
