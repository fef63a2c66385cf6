package slot_test

import (
	"fmt"
	"math"
	"slices"
	"strings"
	"testing"

	"depot/api"
	"depot/item"
	"depot/pack"
	"depot/slot"
)

// The number of most slots of these tests, and the incarnation in which they begin.
const (
	own   = 5
	first = 7
)

// roles is what a slot keeps.
var roles = []int{api.RMeta, api.RPart}

// keys is keys of many kinds.
func keys() []string {
	return []string{"", "a", "aa", "b", "m", "ma", "p", "p\x0aa", "\x00", "\x7f", "\x80", "\xff", "\xff\xff", "\xc3\xa4", " ",
		strings.Repeat("k", api.MaxKey), strings.Repeat("\xff", api.MaxKey)}
}

func put(role int, key string, version int, data string) api.Frame {
	return api.Frame{Kind: api.FPut, Role: role, Key: key, Version: version, Data: data}
}

func get(role int, key string, version int) api.Frame {
	return api.Frame{Kind: api.FGet, Role: role, Key: key, Version: version}
}

func drop(role int, key string, version int) api.Frame {
	return api.Frame{Kind: api.FDrop, Role: role, Key: key, Version: version}
}

func scan(key string) api.Frame { return api.Frame{Kind: api.FScan, Key: key} }

func reset(inc, rid int) api.Frame {
	return api.Frame{Kind: api.FReset, Slot: own, Inc: inc, Rid: rid}
}

// brief tells a frame in few letters, however long its texts are.
func brief(f api.Frame) string {
	return fmt.Sprintf("{kind %d slot %d inc %d rid %d floor %d role %d key %.12q of %d version %d data %.12q of %d}",
		f.Kind, f.Slot, f.Inc, f.Rid, f.Floor, f.Role, f.Key, len(f.Key), f.Version, f.Data, len(f.Data))
}

// unbegun is a slot that hasn't begun.
func unbegun(t *testing.T, id, pages, page int) *slot.Slot {
	t.Helper()
	s, e := slot.New(id, pages, page)
	if s == nil || e != api.OK {
		t.Fatalf("New(%d, %d, %d) = %v, %d", id, pages, page, s, e)
	}
	return s
}

// takes fails if f isn't answered by want.
func takes(t *testing.T, s *slot.Slot, f, want api.Frame) {
	t.Helper()
	if got, ok := s.Take(f); got != want || !ok {
		t.Fatalf("Take(%s) = %s, %v, not %s", brief(f), brief(got), ok, brief(want))
	}
}

// silent fails if anything is answered to f, or seen of it.
func silent(t *testing.T, s *slot.Slot, f api.Frame) {
	t.Helper()
	before := seen(s)
	if got, ok := s.Take(f); got != (api.Frame{}) || ok {
		t.Fatalf("Take(%s) = %s, %v", brief(f), brief(got), ok)
	}
	if after := seen(s); after != before {
		t.Fatalf("Take(%s) made %s of %s", brief(f), after, before)
	}
}

// seen is what a slot tells of itself.
func seen(s *slot.Slot) string {
	used, left := s.Pages()
	return fmt.Sprintf("on %v inc %d len %d pages %d %d", s.On(), s.Inc(), s.Len(), used, left)
}

// is fails if the slot tells anything else of itself.
func is(t *testing.T, s *slot.Slot, on bool, inc, length, used, left int) {
	t.Helper()
	if got, want := seen(s), fmt.Sprintf("on %v inc %d len %d pages %d %d", on, inc, length, used, left); got != want {
		t.Fatalf("%s, not %s", got, want)
	}
}

// desk asks a slot that has begun, each time with a Rid above those it asked with.
type desk struct {
	*testing.T
	s   *slot.Slot
	rid int
}

// begin is the desk of a new slot that has begun.
func begin(t *testing.T, pages, page int) *desk {
	t.Helper()
	s := unbegun(t, own, pages, page)
	takes(t, s, reset(first, 1), api.Frame{Kind: api.FAnswer, Slot: own, Inc: first, Rid: 1})
	is(t, s, true, first, 0, 0, pages)
	return &desk{t, s, 1}
}

// next is f as the desk's next request.
func (d *desk) next(f api.Frame) api.Frame {
	d.rid++
	f.Slot, f.Inc, f.Rid = own, d.s.Inc(), d.rid
	return f
}

// answer is what a request is answered, if that has this version and data.
func answer(f api.Frame, version int, data string) api.Frame {
	return api.Frame{Kind: api.FAnswer, Slot: f.Slot, Inc: f.Inc, Rid: f.Rid, Role: f.Role, Key: f.Key, Version: version, Data: data}
}

// refusal is what a request is answered for which there is no room.
func refusal(f api.Frame) api.Frame {
	return api.Frame{Kind: api.FRefused, Slot: f.Slot, Inc: f.Inc, Rid: f.Rid}
}

// tells asks, and fails if the answer hasn't this version and data. It tells the request.
func (d *desk) tells(f api.Frame, version int, data string) api.Frame {
	d.Helper()
	f = d.next(f)
	takes(d.T, d.s, f, answer(f, version, data))
	return f
}

// put asks to keep it, and fails if that version doesn't stand there then.
func (d *desk) put(role int, key string, version int, data string) api.Frame {
	d.Helper()
	return d.tells(put(role, key, version, data), version, "")
}

// refuses asks, and fails if there is room.
func (d *desk) refuses(f api.Frame) api.Frame {
	d.Helper()
	f = d.next(f)
	takes(d.T, d.s, f, refusal(f))
	return f
}

// has fails if another number of things stands in the store.
func (d *desk) has(want int) {
	d.Helper()
	if got := d.s.Len(); got != want {
		d.Fatalf("Len = %d, not %d", got, want)
	}
}

// chance is a row of numbers that is the same for the same seed.
func chance(seed uint64) func(n int) int {
	x := seed*0x9e3779b97f4a7c15 + 1
	return func(n int) int {
		x ^= x << 13
		x ^= x >> 7
		x ^= x << 17
		return int(x>>33) % n
	}
}

// P17.1

func TestNewRefuses(t *testing.T) {
	fits := [][2]int{{1, 64}, {4, 1024}, {api.MaxPages, api.MaxPage}}
	bad := [][2]int{{0, 64}, {-1, 64}, {api.MaxPages + 1, 64}, {1, 63}, {1, api.MaxPage + 1}, {0, 0}, {-1, -1}, {1, 0}, {1, -64},
		{math.MinInt, 64}, {math.MaxInt, 64}, {1, math.MinInt}, {1, math.MaxInt}, {1 << 32, 64}, {1<<32 + 1, 64}, {1, 1<<32 + 64}}
	refuses := func(id int, size [2]int, want api.Errno) {
		if s, e := slot.New(id, size[0], size[1]); s != nil || e != want {
			t.Errorf("New(%d, %v) = %v, %d, not nil, %d", id, size, s, e, want)
		}
	}
	for _, id := range []int{-1, api.MaxN, -2, api.MaxN + 1, math.MinInt, math.MaxInt, 1 << 32, -1 << 32} {
		for _, size := range slices.Concat(fits, bad) {
			refuses(id, size, api.ErrArg)
		}
	}
	for id := range api.MaxN {
		for _, size := range bad {
			_, want := item.New(size[0], size[1])
			refuses(id, size, want)
		}
		for _, size := range fits {
			is(t, unbegun(t, id, size[0], size[1]), false, 0, 0, 0, size[0])
		}
	}
}

func TestNewHasNothingKeptAndNothingDone(t *testing.T) {
	for id := range api.MaxN {
		s := unbegun(t, id, 2, 256)
		takes(t, s, api.Frame{Kind: api.FReset, Slot: id, Inc: 1, Rid: 9}, api.Frame{Kind: api.FAnswer, Slot: id, Inc: 1, Rid: 9})
		is(t, s, true, 1, 0, 0, 2)
		// From the floor 0 on, none was done.
		for rid := range 20 {
			f := api.Frame{Kind: api.FGet, Slot: id, Inc: 1, Rid: rid, Role: api.RMeta, Key: "a"}
			takes(t, s, f, answer(f, 0, ""))
		}
		f := api.Frame{Kind: api.FScan, Slot: id, Inc: 1, Rid: 20}
		takes(t, s, f, answer(f, 0, ""))
	}
}

func TestSlotsShareNothing(t *testing.T) {
	d, other := begin(t, 1, 128), begin(t, 1, 128)
	d.put(api.RMeta, "a", 5, "x")
	other.tells(get(api.RMeta, "a", 0), 0, "")
	is(t, other.s, true, first, 0, 0, 1)
	d.s.Wipe()
	other.put(api.RMeta, "b", 6, "y")
	is(t, other.s, true, first, 1, 1, 0)
	is(t, d.s, false, first, 0, 0, 1)
}

// Len and Pages are those of a store to which the same was done.
func TestLenAndPagesAreTheStores(t *testing.T) {
	d := begin(t, 3, 512)
	store, _ := item.New(3, 512)
	roll := chance(4)
	for i := range 400 {
		key, data, version := fmt.Sprint(roll(30)), strings.Repeat("x", roll(600)), i/40
		f := put(roles[roll(2)], key, version, data)
		d.s.Take(d.next(f))
		store.Put(stored(f), string(pack.Num(nil, version))+data, false)
		used, left := store.Pages()
		is(t, d.s, true, first, store.Len(), used, left)
		if t.Failed() {
			return
		}
	}
}

// P17.2

func TestWipeForgetsAllButTheIncarnation(t *testing.T) {
	d := begin(t, 2, 256)
	a := d.put(api.RMeta, "a", 5, "x")
	d.put(api.RPart, "a", 5, strings.Repeat("y", 200))
	f := d.next(get(api.RMeta, "a", 0))
	f.Floor = 3
	takes(t, d.s, f, answer(f, 5, "x"))
	is(t, d.s, true, first, 2, 2, 0)
	d.s.Wipe()
	is(t, d.s, false, first, 0, 0, 2)
	for _, f := range []api.Frame{a, f, d.next(get(api.RMeta, "a", 0)), d.next(put(api.RMeta, "a", 6, "")), d.next(drop(api.RMeta, "a", 9)),
		d.next(scan("")), reset(first, 1), reset(first, 99), reset(first-1, 99), reset(0, 99)} {
		silent(t, d.s, f)
	}
	d.s.Wipe()
	is(t, d.s, false, first, 0, 0, 2)

	takes(t, d.s, reset(first+1, 99), api.Frame{Kind: api.FAnswer, Slot: own, Inc: first + 1, Rid: 99})
	is(t, d.s, true, first+1, 0, 0, 2)
	// Nothing was done, and the floor is 0.
	for rid := range a.Rid + 3 {
		f := api.Frame{Kind: api.FGet, Slot: own, Inc: first + 1, Rid: rid, Role: api.RMeta, Key: "a"}
		takes(t, d.s, f, answer(f, 0, ""))
	}
}

func TestWipeOfOneThatHasNotBegun(t *testing.T) {
	s := unbegun(t, own, 2, 256)
	s.Wipe()
	is(t, s, false, 0, 0, 0, 2)
	silent(t, s, reset(0, 1))
	takes(t, s, reset(1, 1), api.Frame{Kind: api.FAnswer, Slot: own, Inc: 1, Rid: 1})
	is(t, s, true, 1, 0, 0, 2)
}

// P17.3

// wrong is f with one field past its limits each time.
func wrong(f api.Frame) []api.Frame {
	var l []api.Frame
	for _, n := range []int{-1, api.MaxRid + 1, math.MinInt, math.MaxInt} {
		for at := range 4 {
			g := f
			*[]*int{&g.Inc, &g.Rid, &g.Floor, &g.Version}[at] = n
			l = append(l, g)
		}
	}
	for _, role := range []int{-1, 0, 1, 2, 3, math.MinInt, math.MaxInt} {
		g := f
		g.Role = role
		// Of a scan or a reset, no role is right; of others, two are.
		if (f.Kind == api.FScan || f.Kind == api.FReset) == (role != 0) || role < 0 || role > 2 {
			l = append(l, g)
		}
	}
	for _, kind := range []int{-1, 0, api.FRefused + 1, math.MinInt, math.MaxInt} {
		g := f
		g.Kind = kind
		l = append(l, g)
	}
	g := f
	g.Key = strings.Repeat("k", api.MaxKey+1)
	l = append(l, g)
	g = f
	g.Data = strings.Repeat("d", api.MaxData+1)
	return append(l, g)
}

func TestTakeOfWhatIsNoRequest(t *testing.T) {
	d := begin(t, 2, 256)
	d.put(api.RMeta, "a", 5, "x")
	for _, f := range []api.Frame{put(api.RMeta, "a", 9, "z"), get(api.RMeta, "a", 0), drop(api.RMeta, "a", 9), scan(""),
		put(api.RPart, "a", 9, "z"), get(api.RPart, "a", 9), drop(api.RPart, "a", 9), {Kind: api.FReset}} {
		// Each of them would raise the floor, or begin anew.
		f = d.next(f)
		f.Floor = f.Rid
		if f.Kind == api.FReset {
			f.Inc++
		}
		for _, g := range wrong(f) {
			silent(t, d.s, g)
		}
		for _, id := range []int{-1, 0, own - 1, own + 1, api.MaxN - 1, api.MaxN, math.MinInt, math.MaxInt} {
			g := f
			g.Slot = id
			silent(t, d.s, g)
		}
		for _, kind := range []int{api.FAnswer, api.FRefused} {
			for role := range 3 {
				g := f
				g.Kind, g.Role = kind, role
				silent(t, d.s, g)
				g.Inc++
				silent(t, d.s, g)
			}
		}
		if f.Kind != api.FReset {
			for _, inc := range []int{0, first - 1, first + 1, api.MaxRid} {
				g := f
				g.Inc = inc
				silent(t, d.s, g)
			}
		}
	}
	silent(t, d.s, api.Frame{})
	// Neither did any of them count as done.
	for rid := 3; rid <= d.rid; rid++ {
		f := api.Frame{Kind: api.FGet, Slot: own, Inc: first, Rid: rid, Role: api.RMeta, Key: "a"}
		takes(t, d.s, f, answer(f, 5, "x"))
	}
}

func TestNothingIsAnsweredAheadOfTheBeginning(t *testing.T) {
	for _, role := range roles {
		for _, f := range []api.Frame{put(role, "a", 5, "x"), get(role, "a", 5), drop(role, "a", 5), scan("")} {
			s := unbegun(t, own, 1, 128)
			for _, inc := range []int{0, 1, api.MaxRid} {
				f.Slot, f.Inc, f.Rid, f.Floor = own, inc, 4, 2
				silent(t, s, f)
			}
			takes(t, s, reset(1, 1), api.Frame{Kind: api.FAnswer, Slot: own, Inc: 1, Rid: 1})
			// Neither was it done, nor is there a floor.
			f = api.Frame{Kind: api.FGet, Slot: own, Inc: 1, Rid: 4, Role: role, Key: "a", Version: 5}
			takes(t, s, f, answer(f, 0, ""))
			f.Rid = 0
			takes(t, s, f, answer(f, 0, ""))
		}
	}
}

func TestResets(t *testing.T) {
	s := unbegun(t, own, 2, 256)
	begun := func(inc, rid int) api.Frame {
		return api.Frame{Kind: api.FAnswer, Slot: own, Inc: inc, Rid: rid}
	}
	silent(t, s, reset(0, 1))
	is(t, s, false, 0, 0, 0, 2)
	for _, inc := range []int{1, 3, 4, 1000, api.MaxRid - 1} {
		elder := s.Inc()
		takes(t, s, reset(inc, 8), begun(inc, 8))
		takes(t, s, reset(inc, 8), begun(inc, 8))
		for _, rid := range []int{0, 7, 9, api.MaxRid} {
			takes(t, s, reset(inc, rid), begun(inc, rid))
		}
		silent(t, s, reset(0, 8))
		silent(t, s, reset(elder, 8))
		silent(t, s, reset(inc-1, 8))
		is(t, s, true, inc, 0, 0, 2)
		f := api.Frame{Kind: api.FPut, Slot: own, Inc: inc, Rid: 9, Floor: 9, Role: api.RMeta, Key: "a", Version: 1}
		takes(t, s, f, answer(f, 1, ""))
		is(t, s, true, inc, 1, 1, 1)
	}
	takes(t, s, reset(api.MaxRid, 8), begun(api.MaxRid, 8))
	silent(t, s, reset(api.MaxRid+1, 8))
	is(t, s, true, api.MaxRid, 0, 0, 2)
}

// A reset of the slot's own incarnation changes nothing: what is kept, what was done and the floor stay.
func TestResetAgainChangesNothing(t *testing.T) {
	d := begin(t, 2, 256)
	a := d.put(api.RMeta, "a", 5, "x")
	f := d.next(get(api.RMeta, "a", 0))
	f.Floor = a.Rid
	takes(t, d.s, f, answer(f, 5, "x"))
	d.put(api.RMeta, "a", 6, "y")
	// Whatever else it has, its Rid and its Floor are held against nothing, and it isn't kept as done.
	for _, rid := range []int{0, a.Rid, f.Rid, 50} {
		r := reset(first, rid)
		r.Floor, r.Key, r.Version, r.Data = 90, "key", 9, "data"
		takes(t, d.s, r, api.Frame{Kind: api.FAnswer, Slot: own, Inc: first, Rid: rid})
		is(t, d.s, true, first, 1, 1, 1)
	}
	takes(t, d.s, a, answer(a, 5, ""))
	takes(t, d.s, f, answer(f, 5, "x"))
	silent(t, d.s, api.Frame{Kind: api.FGet, Slot: own, Inc: first, Rid: a.Rid - 1, Role: api.RMeta, Key: "a"})
	g := api.Frame{Kind: api.FGet, Slot: own, Inc: first, Rid: 50, Role: api.RMeta, Key: "a"}
	takes(t, d.s, g, answer(g, 6, "y"))
}

// A later incarnation begins anew: nothing is kept, nothing was done, the floor is 0.
func TestResetOfALaterIncarnationBeginsAnew(t *testing.T) {
	d := begin(t, 2, 256)
	a := d.put(api.RMeta, "a", 5, "x")
	f := d.next(get(api.RMeta, "a", 0))
	f.Floor = f.Rid
	takes(t, d.s, f, answer(f, 5, "x"))
	r := reset(first+1, 0)
	r.Floor, r.Key, r.Version, r.Data = 90, "key", 9, "data"
	takes(t, d.s, r, api.Frame{Kind: api.FAnswer, Slot: own, Inc: first + 1})
	is(t, d.s, true, first+1, 0, 0, 2)
	silent(t, d.s, a)
	silent(t, d.s, f)
	for rid := range f.Rid + 2 {
		g := api.Frame{Kind: api.FGet, Slot: own, Inc: first + 1, Rid: rid, Role: api.RMeta, Key: "a"}
		takes(t, d.s, g, answer(g, 0, ""))
	}
}

// at is a get of the record a with that Rid and Floor.
func at(rid, floor int) api.Frame {
	return api.Frame{Kind: api.FGet, Slot: own, Inc: first, Rid: rid, Floor: floor, Role: api.RMeta, Key: "a"}
}

func TestFloor(t *testing.T) {
	d := begin(t, 2, 256)
	d.put(api.RMeta, "a", 5, "x")
	said := func(f api.Frame) { t.Helper(); takes(t, d.s, f, answer(f, 5, "x")) }
	said(at(10, 0))
	said(at(20, 10))
	silent(t, d.s, at(9, 0))
	silent(t, d.s, at(0, 0))
	said(at(10, 0))
	said(at(11, 0))
	// A lower floor, or the same, changes nothing.
	said(at(21, 9))
	said(at(22, 10))
	said(at(12, 0))
	silent(t, d.s, at(9, 0))
	// Its own Rid is on the floor.
	said(at(15, 15))
	silent(t, d.s, at(14, 0))
	said(at(15, 0))
	said(at(20, 0))
	// One that isn't answered, because its Rid is below the floor, raises nothing.
	silent(t, d.s, at(14, 20))
	said(at(15, 0))
	// A Floor above its own Rid is the floor all the same.
	silent(t, d.s, at(20, 21))
	silent(t, d.s, at(20, 0))
	said(at(21, 0))
	silent(t, d.s, at(30, 31))
	silent(t, d.s, at(30, 0))
	said(at(31, 0))
	silent(t, d.s, at(31, api.MaxRid))
	silent(t, d.s, at(api.MaxRid-1, 0))
	said(at(api.MaxRid, api.MaxRid))
	said(at(api.MaxRid, 0))
}

// One whose Floor is above its Rid does nothing but to raise the floor.
func TestBelowItsOwnFloorNothingIsDone(t *testing.T) {
	d := begin(t, 2, 256)
	d.put(api.RMeta, "a", 5, "x")
	for _, f := range []api.Frame{put(api.RMeta, "a", 6, "y"), drop(api.RMeta, "a", 9), put(api.RPart, "b", 6, "y")} {
		f = d.next(f)
		f.Floor = f.Rid + 1
		silent(t, d.s, f)
		f.Floor = 0
		silent(t, d.s, f)
		d.tells(get(api.RMeta, "a", 0), 5, "x")
	}
}

// A request that was done is answered as it was, whatever was done meanwhile, and whatever comes with its Rid.
func TestDoneOnceIsToldAgain(t *testing.T) {
	d := begin(t, 2, 256)
	var asked, told []api.Frame
	keep := func(f api.Frame, want api.Frame) {
		t.Helper()
		takes(t, d.s, f, want)
		asked, told = append(asked, f), append(told, want)
	}
	said := func(f api.Frame, version int, data string) {
		t.Helper()
		f = d.next(f)
		keep(f, answer(f, version, data))
	}
	said(get(api.RMeta, "a", 0), 0, "")
	said(put(api.RMeta, "a", 5, "x"), 5, "")
	said(get(api.RMeta, "a", 0), 5, "x")
	said(put(api.RMeta, "a", 4, "y"), 5, "")
	said(scan(""), 0, "\x02a")
	said(put(api.RMeta, "b", 4, "y"), 4, "")
	long := d.next(put(api.RMeta, "c", 4, strings.Repeat("z", 300)))
	keep(long, refusal(long))
	said(drop(api.RMeta, "a", 9), 9, "")
	said(drop(api.RMeta, "b", 3), 3, "")
	said(get(api.RMeta, "a", 0), 0, "")
	said(scan(""), 0, "\x02b")
	said(put(api.RMeta, "a", 1, ""), 1, "")
	again := func() {
		t.Helper()
		before := seen(d.s)
		for i, f := range asked {
			takes(t, d.s, f, told[i])
			for _, other := range asked {
				other.Rid = f.Rid
				takes(t, d.s, other, told[i])
			}
		}
		if after := seen(d.s); after != before {
			t.Errorf("what came again made %s of %s", after, before)
		}
		f := d.next(get(api.RMeta, "b", 0))
		takes(t, d.s, f, answer(f, 4, "y"))
	}
	again()
	slices.Reverse(asked)
	slices.Reverse(told)
	again()
	// From the floor on they are told on; below it they are not.
	for i := range asked {
		f := d.next(get(api.RMeta, "b", 0))
		f.Floor = asked[len(asked)-1-i].Rid + 1
		takes(t, d.s, f, answer(f, 4, "y"))
		for j, g := range asked {
			if g.Rid < f.Floor {
				silent(t, d.s, g)
			} else {
				takes(t, d.s, g, told[j])
			}
		}
	}
}

// P17.4

func TestPutOfVersions(t *testing.T) {
	for _, key := range keys() {
		d := begin(t, 4, 1024)
		d.put(api.RMeta, key, 5, "x")
		for _, below := range []int{0, 1, 4} {
			d.tells(put(api.RMeta, key, below, "below"), 5, "")
			d.tells(get(api.RMeta, key, 0), 5, "x")
		}
		d.put(api.RMeta, key, 5, "on")
		d.tells(get(api.RMeta, key, 0), 5, "on")
		for _, above := range []int{6, 63, 64, 8191, 8192, 1 << 32, api.MaxRid} {
			d.put(api.RMeta, key, above, "above")
			d.tells(get(api.RMeta, key, 0), above, "above")
			d.tells(put(api.RMeta, key, above-1, "below"), above, "")
			d.tells(get(api.RMeta, key, 0), above, "above")
		}
		d.has(1)
	}
}

// Fragments of other versions stand beside each other, and beside the record: none stands in the way of another.
func TestFragmentsOfVersions(t *testing.T) {
	for _, key := range keys() {
		d := begin(t, 8, 4096)
		versions := []int{5, 0, 1, 4, 6, 63, 64, 97, 8191, 8192, 1 << 32, api.MaxRid}
		d.put(api.RMeta, key, 7, "record")
		for i, version := range versions {
			d.tells(get(api.RPart, key, version), 0, "")
			d.put(api.RPart, key, version, fmt.Sprint("part ", version))
			d.has(i + 2)
		}
		d.put(api.RPart, key, 5, "again")
		d.put(api.RMeta, key, 8, "anew")
		for i, version := range versions {
			data := fmt.Sprint("part ", version)
			if version == 5 {
				data = "again"
			}
			d.tells(get(api.RPart, key, version), version, data)
			d.tells(drop(api.RPart, key, version), version, "")
			d.tells(get(api.RPart, key, version), 0, "")
			d.has(len(versions) - i)
		}
		d.tells(get(api.RMeta, key, 0), 8, "anew")
	}
}

// Keys of one role don't meet those of the other, nor a version's number its key.
func TestThingsDoNotMeet(t *testing.T) {
	d := begin(t, api.MaxPages, api.MaxPage)
	type thing struct {
		role    int
		key     string
		version int
	}
	var all []thing
	for _, key := range keys() {
		all = append(all, thing{api.RMeta, key, 3})
		for version := range 130 {
			all = append(all, thing{api.RPart, key, version})
		}
	}
	for _, it := range all {
		d.tells(get(it.role, it.key, it.version), 0, "")
		d.put(it.role, it.key, it.version, fmt.Sprint(it))
	}
	for _, it := range all {
		d.tells(get(it.role, it.key, it.version), it.version, fmt.Sprint(it))
	}
	d.has(len(all))
}

func TestGet(t *testing.T) {
	for _, key := range keys() {
		d := begin(t, 4, 4096)
		for _, role := range roles {
			for _, version := range []int{0, 5, api.MaxRid} {
				d.tells(get(role, key, version), 0, "")
			}
			for _, data := range []string{"", "x", "\x00", "\xff\x80\x01", strings.Repeat("y", 3000)} {
				d.put(role, key, 5, data)
				f := d.next(get(role, key, 5))
				// What else it has means nothing.
				f.Data, f.Floor = "of the asker", 2
				takes(t, d.s, f, answer(f, 5, data))
			}
		}
		d.tells(get(api.RMeta, key, 0), 5, strings.Repeat("y", 3000))
		d.tells(get(api.RMeta, key, 99), 5, strings.Repeat("y", 3000))
		d.tells(get(api.RPart, key, 0), 0, "")
		d.tells(get(api.RPart, key, 4), 0, "")
		d.tells(get(api.RPart, key, 6), 0, "")
	}
}

func TestDrop(t *testing.T) {
	for _, key := range keys() {
		d := begin(t, 4, 4096)
		d.tells(drop(api.RMeta, key, 0), 0, "")
		d.tells(drop(api.RMeta, key, 5), 5, "")
		for _, most := range []int{5, 6, 64, api.MaxRid} {
			d.put(api.RMeta, key, 5, "x")
			for _, below := range []int{0, 1, 4} {
				d.tells(drop(api.RMeta, key, below), below, "")
				d.tells(get(api.RMeta, key, 0), 5, "x")
			}
			d.tells(drop(api.RMeta, key, most), most, "")
			d.tells(get(api.RMeta, key, 0), 0, "")
			d.has(0)
		}
		// Of a fragment, the one of that very version goes, and nothing else.
		d.put(api.RMeta, key, 1, "x")
		d.put(api.RPart, key, 5, "y")
		d.put(api.RPart, key, 6, "z")
		for _, version := range []int{0, 4, 7, api.MaxRid} {
			d.tells(drop(api.RPart, key, version), version, "")
		}
		d.tells(drop(api.RPart, key, 6), 6, "")
		d.tells(get(api.RPart, key, 5), 5, "y")
		d.tells(get(api.RPart, key, 6), 0, "")
		d.tells(get(api.RMeta, key, 0), 1, "x")
		d.has(2)
		// What went may come again, of any version.
		d.tells(drop(api.RMeta, key, 9), 9, "")
		d.put(api.RMeta, key, 0, "")
		d.tells(drop(api.RMeta, key, 0), 0, "")
		d.has(1)
	}
}

// texts is the keys as texts one behind the other.
func texts(l ...string) string {
	var b []byte
	for _, key := range l {
		b = pack.Text(b, key)
	}
	return string(b)
}

func TestScan(t *testing.T) {
	for _, count := range []int{0, 1, 2, api.MaxScan - 1, api.MaxScan, api.MaxScan + 1, 3 * api.MaxScan} {
		d := begin(t, 8, 4096)
		var there []string
		for i := range count {
			// 37 and 50 have no divisor but 1: in no order.
			key := fmt.Sprintf("k%02d", i*37%50)
			there = append(there, key)
			d.put(api.RMeta, key, 1+i%3, "data")
		}
		// Of fragments, whichever keys they have, nothing is told.
		for i := range 50 {
			d.put(api.RPart, fmt.Sprintf("k%02d", i), i, "data")
			d.put(api.RPart, fmt.Sprintf("part %d", i), i, "data")
		}
		slices.Sort(there)
		for _, from := range append([]string{"", "k", "k00", "k10", "k10+", "k2", "k49", "j", "l", "z", "K", "\xff", "m", "p", "part 3"}, there...) {
			var above []string
			for _, key := range there {
				if key > from {
					above = append(above, key)
				}
			}
			f := scan(from)
			f.Version, f.Data = 99, "of the asker"
			d.tells(f, 0, texts(above[:min(len(above), api.MaxScan)]...))
		}
		// Each scan from the last key that the one ahead of it told, all of them are told.
		var all []string
		for from := ""; len(all) < count; from = all[len(all)-1] {
			some := there[len(all):min(len(all)+api.MaxScan, count)]
			d.tells(scan(from), 0, texts(some...))
			all = append(all, some...)
		}
		d.tells(scan(strings.Repeat("\xff", api.MaxKey)), 0, "")
	}
}

func TestScanOfKeysOfManyKinds(t *testing.T) {
	d := begin(t, 8, 4096)
	for _, key := range keys() {
		d.put(api.RMeta, key, 1, "data")
	}
	// The empty key is above none.
	l := keys()[1:]
	slices.Sort(l)
	d.tells(scan(""), 0, texts(l[:api.MaxScan]...))
	for i, key := range l {
		d.tells(scan(key), 0, texts(l[i+1:]...))
	}
	d.tells(drop(api.RMeta, "b", 1), 1, "")
	d.tells(scan("aa"), 0, texts(l[slices.Index(l, "b")+1:]...))
	// The greatest answer there is.
	d = begin(t, api.MaxPages, 4096)
	var want []string
	for i := range 40 {
		key := strings.Repeat("\xee", api.MaxKey-1) + string([]byte{byte(i * 5)})
		d.put(api.RMeta, key, 1, "")
		want = append(want, key)
	}
	d.tells(scan("\xee"), 0, texts(want[:api.MaxScan]...))
	d.tells(scan(want[30]), 0, texts(want[31:]...))
}

// room is how many bytes of data there is room for beside a key and a version, in a chunk of 64.
func room(role int, key string, version int) int {
	number := len(pack.Num(nil, version))
	if role == api.RPart {
		return 64 - 1 - number - len(key) - number
	}
	return 64 - 1 - len(key) - number
}

func TestPutForWhichThereIsNoRoom(t *testing.T) {
	for _, role := range roles {
		for _, key := range []string{"", "a", "\xff\x80", "key of more bytes"} {
			for _, version := range []int{0, 1, 63, 64, 8192, api.MaxRid} {
				d := begin(t, 1, 64)
				most := room(role, key, version)
				for _, n := range []int{most + 1, most + 2, 64, 1000, api.MaxValue, api.MaxData} {
					f := d.refuses(put(role, key, version, strings.Repeat("x", n)))
					f.Data = ""
					takes(t, d.s, f, refusal(f))
					d.tells(get(role, key, version), 0, "")
					is(t, d.s, true, first, 0, 0, 1)
				}
				d.put(role, key, version, strings.Repeat("x", most))
				d.tells(get(role, key, version), version, strings.Repeat("x", most))
				is(t, d.s, true, first, 1, 1, 0)
			}
		}
	}
}

// item.Put takes what stood there away ahead of all else; a later version that stands there isn't asked to go.
func TestNoRoomForWhatStandsThere(t *testing.T) {
	for _, role := range roles {
		d := begin(t, 1, 64)
		d.put(role, "a", 5, "x")
		d.refuses(put(role, "a", 5, strings.Repeat("x", 100)))
		d.tells(get(role, "a", 5), 0, "")
		is(t, d.s, true, first, 0, 1, 0)
	}
	d := begin(t, 1, 64)
	d.put(api.RMeta, "a", 5, "x")
	d.tells(put(api.RMeta, "a", 4, strings.Repeat("x", 100)), 5, "")
	d.tells(get(api.RMeta, "a", 0), 5, "x")
}

// Where each page is another class's, there is no room, and nobody goes for it.
func TestNoRoomInItsClass(t *testing.T) {
	d := begin(t, 1, 128)
	d.put(api.RMeta, "a", 5, "x")
	d.put(api.RMeta, "b", 5, "y")
	for _, role := range roles {
		d.refuses(put(role, "c", 5, strings.Repeat("x", 100)))
	}
	d.tells(get(api.RMeta, "a", 0), 5, "x")
	d.tells(get(api.RMeta, "b", 0), 5, "y")
	is(t, d.s, true, first, 2, 1, 0)
}

// Nothing is pinned: for each one that comes another one goes.
func TestNothingIsPinned(t *testing.T) {
	d := begin(t, 2, 128)
	for i := range 300 {
		d.put(roles[i%2], fmt.Sprint(i), i, "")
		is(t, d.s, true, first, min(i+1, 4), min(i/2+1, 2), max(1-i/2, 0))
	}
	for i := range 300 {
		version := 0
		if i >= 296 {
			version = i
		}
		d.tells(get(roles[i%2], fmt.Sprint(i), i), version, "")
	}
}

// pair is the desk of a slot that has room for two, in which a stands, and then b.
func pair(t *testing.T) *desk {
	t.Helper()
	d := begin(t, 1, 128)
	d.put(api.RMeta, "a", 5, "of a")
	d.put(api.RMeta, "b", 5, "of b")
	return d
}

// goes fails if for a third one another one than key goes.
func (d *desk) goes(key string) {
	d.Helper()
	d.put(api.RMeta, "c", 5, "of c")
	for _, k := range []string{"a", "b", "c"} {
		if k == key {
			d.tells(get(api.RMeta, k, 0), 0, "")
		} else {
			d.tells(get(api.RMeta, k, 0), 5, "of "+k)
		}
	}
}

func TestWhatTouches(t *testing.T) {
	touching := map[string]func(d *desk){
		"a put of a later version":                    func(d *desk) { d.put(api.RMeta, "a", 5, "of a") },
		"a put of an elder version, which isn't done": func(d *desk) { d.tells(put(api.RMeta, "a", 4, "x"), 5, "") },
		"a get": func(d *desk) { d.tells(get(api.RMeta, "a", 0), 5, "of a") },
		"a drop of an elder version, which isn't done": func(d *desk) { d.tells(drop(api.RMeta, "a", 4), 4, "") },
	}
	others := map[string]func(d *desk){
		"nothing":            func(d *desk) {},
		"a scan":             func(d *desk) { d.tells(scan(""), 0, texts("a", "b")) },
		"what isn't there":   func(d *desk) { d.tells(get(api.RPart, "a", 5), 0, ""); d.tells(get(api.RMeta, "A", 0), 0, "") },
		"drops of no effect": func(d *desk) { d.tells(drop(api.RPart, "a", 5), 5, ""); d.tells(drop(api.RMeta, "A", 9), 9, "") },
		"a reset again": func(d *desk) {
			takes(d.T, d.s, reset(first, 1), api.Frame{Kind: api.FAnswer, Slot: own, Inc: first, Rid: 1})
		},
		"what is refused": func(d *desk) { d.refuses(put(api.RMeta, "d", 5, strings.Repeat("x", 200))) },
		"what came for another": func(d *desk) {
			f := d.next(get(api.RMeta, "a", 0))
			f.Inc--
			silent(d.T, d.s, f)
			f.Inc, f.Slot = first, own+1
			silent(d.T, d.s, f)
		},
	}
	for name, do := range touching {
		t.Run(name, func(t *testing.T) { d := pair(t); do(d); d.goes("b") })
	}
	for name, do := range others {
		t.Run(name, func(t *testing.T) { d := pair(t); do(d); d.goes("a") })
	}
}

// What comes again touches nothing, either.
func TestWhatComesAgainTouchesNothing(t *testing.T) {
	for _, f := range []api.Frame{put(api.RMeta, "a", 5, "of a"), put(api.RMeta, "a", 4, "x"), get(api.RMeta, "a", 0), drop(api.RMeta, "a", 4)} {
		d := pair(t)
		f = d.next(f)
		want, _ := d.s.Take(f)
		d.tells(get(api.RMeta, "b", 0), 5, "of b")
		takes(t, d.s, f, want)
		d.goes("a")
	}
}

// Runs

func TestRuns(t *testing.T) {
	s := unbegun(t, 1, 4, 1024)
	r := api.Frame{Kind: api.FReset, Slot: 1, Inc: 3, Rid: 1}
	begun := api.Frame{Kind: api.FAnswer, Slot: 1, Inc: 3, Rid: 1}
	takes(t, s, r, begun)
	takes(t, s, r, begun)
	r.Inc = 2
	silent(t, s, r)
	takes(t, s, api.Frame{Kind: api.FPut, Slot: 1, Inc: 3, Rid: 2, Role: api.RMeta, Key: "a", Version: 5, Data: "x"},
		api.Frame{Kind: api.FAnswer, Slot: 1, Inc: 3, Rid: 2, Role: api.RMeta, Key: "a", Version: 5})
	takes(t, s, api.Frame{Kind: api.FGet, Slot: 1, Inc: 3, Rid: 3, Role: api.RMeta, Key: "a"},
		api.Frame{Kind: api.FAnswer, Slot: 1, Inc: 3, Rid: 3, Role: api.RMeta, Key: "a", Version: 5, Data: "x"})
	s.Wipe()
	silent(t, s, api.Frame{Kind: api.FGet, Slot: 1, Inc: 3, Rid: 4, Role: api.RMeta, Key: "a"})
	r.Inc = 3
	silent(t, s, r)
}
