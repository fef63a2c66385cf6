package ask_test

import (
	"slices"
	"testing"

	"depot/api"
)

// begun is a request that was ever begun: as it was sent first, for how many ticks it was under way, and whether it no longer is.
type begun struct {
	sent  api.Frame
	ticks int
	over  bool
}

// played is asks, and all that were ever begun there: what they are to tell is read off these anew each time.
type played struct {
	*desk
	all    []*begun
	floors [api.MaxN]int
}

// start is new asks to play with.
func start(t *testing.T) *played { return &played{desk: open(t)} }

// now is those under way to one of the slots.
func (p *played) now(slots ...int) []*begun {
	var l []*begun
	for _, b := range p.all {
		if !b.over && (len(slots) == 0 || slices.Contains(slots, b.sent.Slot)) {
			l = append(l, b)
		}
	}
	return l
}

// floor is the least number of those under way to a slot.
func (p *played) floor(slot int) int {
	least := len(p.all) + 1
	for _, b := range p.now(slot) {
		least = min(least, b.sent.Rid)
	}
	return least
}

// sent is requests as they were sent first.
func sent(l []*begun) []api.Frame {
	var frames []api.Frame
	for _, b := range l {
		frames = append(frames, b.sent)
	}
	return frames
}

// seen fails if others are under way.
func (p *played) seen() {
	p.Helper()
	p.under(sent(p.now())...)
}

// begin begins a request. P19.6: its number is none that was used, its floor not above it, nor below the one that was the slot's at the last Begin.
func (p *played) begin(f api.Frame) {
	p.Helper()
	rid := len(p.all) + 1
	got := p.begins(f, rid, p.floor(f.Slot))
	for _, b := range p.all {
		if b.sent.Rid == got.Rid {
			p.Fatalf("the number %d twice", got.Rid)
		}
	}
	if got.Floor > got.Rid || got.Floor < p.floors[f.Slot] {
		p.Fatalf("the floor of %d is %d, behind %d", got.Rid, got.Floor, p.floors[f.Slot])
	}
	p.floors[f.Slot] = got.Floor
	p.all = append(p.all, &begun{sent: got})
	p.seen()
}

// answer answers with f.
func (p *played) answer(f api.Frame) {
	p.Helper()
	for _, b := range p.now() {
		if b.sent.Rid == f.Rid && b.sent.Slot == f.Slot && b.sent.Inc == f.Inc {
			p.hears(f, b.sent)
			b.over = true
			p.seen()
			return
		}
	}
	p.deaf(f)
}

// step is a tick.
func (p *played) step() (again, late int) {
	p.Helper()
	var frames []api.Frame
	var slots []int
	for _, b := range p.now() {
		b.ticks++
		if b.ticks == b.ticks/4*4 {
			frames = append(frames, floored(b.sent, p.floor(b.sent.Slot)))
		}
		if b.ticks > 39 {
			slots = append(slots, b.sent.Slot)
		}
	}
	slices.Sort(slots)
	p.tick(frames, slices.Compact(slots))
	return len(frames), len(slots)
}

// cancel cancels a slot's.
func (p *played) cancel(slot int) {
	p.Helper()
	l := p.now(slot)
	p.cancels(slot, sent(l)...)
	for _, b := range l {
		b.over = true
	}
	p.seen()
}

// at is the answer to the request at a place among those under way, counted from the end if it is below 0; to none, if there is none.
func (p *played) at(place int) api.Frame {
	l := p.now()
	if place < 0 {
		place += len(l)
	}
	if place < 0 || place >= len(l) {
		return reply(to(0))
	}
	return reply(l[place].sent)
}

// moves is the steps of the short plays: of each one its letter.
func moves() map[byte]func(*played) {
	return map[byte]func(*played){
		'0': func(p *played) { p.begin(to(0)) },
		'3': func(p *played) { p.begin(to(3)) },
		'e': func(p *played) { p.answer(p.at(0)) },
		'l': func(p *played) { p.answer(p.at(-1)) },
		'm': func(p *played) { p.answer(p.at(1)) },
		't': func(p *played) { p.step() },
		'c': func(p *played) { p.cancel(0) },
		'w': func(p *played) { p.refuses(reply(to(0)), api.Frame{}) },
	}
}

// Each list of so many steps, and five ticks behind it.
func TestEachShortPlay(t *testing.T) {
	const length = 5
	moves, letters := moves(), "03elmtcw"
	all := 1
	for range length {
		all *= len(letters)
	}
	for n := range all {
		p := start(t)
		for range length {
			moves[letters[n%len(letters)]](p)
			n /= len(letters)
		}
		for range 5 {
			p.step()
		}
	}
}

// Four requests, two to each of two slots, answered in each order, with a tick, a cancel or a new one at each place in between.
func TestEachOrderOfAnswers(t *testing.T) {
	orders(4, nil, func(order []int) {
		for place := range 4 {
			for _, between := range "t03c" {
				p := start(t)
				for _, slot := range []int{0, 3, 3, 0} {
					p.begin(to(slot))
				}
				for i, at := range order {
					if i == place {
						moves()[byte(between)](p)
					}
					p.answer(reply(p.all[at].sent))
				}
				for range 5 {
					p.begin(to(0))
					p.step()
				}
			}
		}
	})
}

// orders calls f of each order of the numbers below n.
func orders(n int, begun []int, f func([]int)) {
	if len(begun) == n {
		f(begun)
		return
	}
	for i := range n {
		if !slices.Contains(begun, i) {
			orders(n, append(slices.Clone(begun), i), f)
		}
	}
}

// Long plays over many slots, in which some requests wait till their slot is late.
func TestLongPlays(t *testing.T) {
	for slots := 1; slots <= api.MaxN; slots++ {
		p := start(t)
		seed := uint32(slots)
		roll := func(n int) int {
			seed = seed*1664525 + 1013904223
			return int(seed>>16) % n
		}
		again, late := 0, 0
		for range 600 {
			switch f := to(roll(slots)); roll(10) {
			case 0, 1:
				f.Inc = roll(3)
				p.begin(f)
			case 2:
				f.Rid, f.Inc = roll(len(p.all)+2), roll(3)
				p.answer(reply(f))
			case 3:
				p.answer(p.at(roll(len(p.now()) + 1)))
			case 4:
				if roll(8) == 0 {
					p.cancel(roll(slots + 1))
				}
				p.refuses(reply(f), api.Frame{Kind: api.FScan, Slot: api.MaxN})
			default:
				a, l := p.step()
				again, late = again+a, late+l
			}
		}
		if again == 0 || late == 0 {
			t.Errorf("of %d slots: %d were sent again, %d late", slots, again, late)
		}
	}
}

// Many requests to one slot at once, answered from the front, from behind and from the middle.
func TestManyAtOnce(t *testing.T) {
	const many = 3000
	for _, next := range []func(n int) int{func(int) int { return 0 }, func(n int) int { return n - 1 }, func(n int) int { return n / 2 }} {
		d := open(t)
		var l []api.Frame
		for i := range many {
			f, _ := d.a.Begin(to(2))
			if f.Rid != i+1 || f.Floor != 1 {
				t.Fatal(brief(f))
			}
			l = append(l, f)
		}
		for len(l) > 0 {
			at := next(len(l))
			if got, ok := d.a.Answer(reply(l[at])); got != l[at] || !ok {
				t.Fatalf("%s, %v, not %s", brief(got), ok, brief(l[at]))
			}
			l = slices.Delete(l, at, at+1)
		}
		d.under()
		d.begins(to(2), many+1, many+1)
	}
}
