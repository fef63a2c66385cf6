package mail_test

import (
	"fmt"
	"math"
	"slices"
	"strings"
	"testing"

	"depot/api"
	"depot/mail"
)

// of is a frame in which each field differs from those of other marks.
func of(mark int) api.Frame {
	return api.Frame{
		Kind:    mark*9 + 1,
		Slot:    mark*9 + 2,
		Inc:     mark*9 + 3,
		Rid:     mark,
		Floor:   mark*9 + 4,
		Role:    mark*9 + 5,
		Key:     fmt.Sprint("key ", mark),
		Version: mark*9 + 6,
		Data:    fmt.Sprint("data ", mark),
	}
}

// all is the frames of the marks.
func all(marks ...int) []api.Frame {
	var l []api.Frame
	for _, mark := range marks {
		l = append(l, of(mark))
	}
	return l
}

// upTo is the frames of the marks 1 to n.
func upTo(n int) []api.Frame {
	var l []api.Frame
	for i := range n {
		l = append(l, of(i+1))
	}
	return l
}

// marks is the frames' marks, which is shorter to tell.
func marks(l []api.Frame) []int {
	out := []int{}
	for _, f := range l {
		out = append(out, f.Rid)
	}
	return out
}

// begin is a new box.
func begin(t *testing.T, room int) *mail.Box {
	t.Helper()
	b, e := mail.New(room)
	if b == nil || e != api.OK {
		t.Fatalf("New(%d) = %v, %d", room, b, e)
	}
	has(t, b, 0)
	return b
}

// filled is a box with room for one frame more than the marks' ones, which are in it.
func filled(t *testing.T, marks ...int) *mail.Box {
	t.Helper()
	b := begin(t, len(marks)+1)
	puts(t, b, all(marks...)...)
	return b
}

// puts fails if Put of the frames isn't true.
func puts(t *testing.T, b *mail.Box, l ...api.Frame) {
	t.Helper()
	for _, f := range l {
		before := b.Len()
		if !b.Put(f) {
			t.Fatalf("Put(%v) behind %d is false", f, before)
		}
		has(t, b, before+1)
	}
}

// refuses fails if Put isn't false, or changes how many there are.
func refuses(t *testing.T, b *mail.Box, f api.Frame) {
	t.Helper()
	before := b.Len()
	if b.Put(f) {
		t.Fatalf("Put(%v) behind %d is true", f, before)
	}
	has(t, b, before)
}

// takes fails if Take doesn't tell the frames, one by one.
func takes(t *testing.T, b *mail.Box, l ...api.Frame) {
	t.Helper()
	for _, want := range l {
		before := b.Len()
		if f, ok := b.Take(); f != want || !ok {
			t.Fatalf("Take of %d = %v, %v, not %v, true", before, f, ok, want)
		}
		has(t, b, before-1)
	}
}

// empty fails if anything is in the box.
func empty(t *testing.T, b *mail.Box) {
	t.Helper()
	has(t, b, 0)
	if f, ok := b.Take(); f != (api.Frame{}) || ok {
		t.Fatalf("Take of an empty box = %v, %v", f, ok)
	}
	has(t, b, 0)
}

// holds fails if anything else than the marks' frames is in the box, which is empty then.
func holds(t *testing.T, b *mail.Box, marks ...int) {
	t.Helper()
	has(t, b, len(marks))
	takes(t, b, all(marks...)...)
	empty(t, b)
}

// has fails if Len tells anything else.
func has(t *testing.T, b *mail.Box, want int) {
	t.Helper()
	if got := b.Len(); got != want {
		t.Fatalf("Len = %d, not %d", got, want)
	}
}

// drains fails if Drain tells anything else than the marks' frames.
func drains(t *testing.T, n int, l []*mail.Box, want ...int) {
	t.Helper()
	if got := mail.Drain(n, l...); !slices.Equal(got, all(want...)) {
		t.Fatalf("Drain(%d) = %v, not %v", n, marks(got), want)
	}
}

// finds fails if First doesn't tell that place, and the mark's frame.
func finds(t *testing.T, l []*mail.Box, at, mark int) {
	t.Helper()
	if got, f, ok := mail.First(l...); got != at || f != of(mark) || !ok {
		t.Fatalf("First = %d, %v, %v, not %d, %v, true", got, f, ok, at, of(mark))
	}
}

// findsNone fails if First tells a frame.
func findsNone(t *testing.T, l []*mail.Box) {
	t.Helper()
	if at, f, ok := mail.First(l...); at != -1 || f != (api.Frame{}) || ok {
		t.Fatalf("First = %d, %v, %v, not -1, zero, false", at, f, ok)
	}
}

// chance is a row of numbers that is the same for the same seed.
func chance(seed uint64) func(n int) int {
	x := seed*0x9e3779b97f4a7c15 + 1
	return func(n int) int {
		x ^= x << 13
		x ^= x >> 7
		x ^= x << 17
		return int(x>>33) % n
	}
}

// P8.1

func TestNewOfWrongRooms(t *testing.T) {
	for _, room := range []int{0, -1, -2, -api.MaxBox, math.MinInt, math.MinInt32,
		api.MaxBox + 1, api.MaxBox * 2, math.MaxInt32, math.MaxInt32 + 1, math.MaxInt} {
		if b, e := mail.New(room); b != nil || e != api.ErrArg {
			t.Errorf("New(%d) = %v, %d, not nil, ErrArg", room, b, e)
		}
	}
}

func TestNewOfEachRoom(t *testing.T) {
	for room := 1; room <= api.MaxBox; room++ {
		b := begin(t, room)
		empty(t, b)
		puts(t, b, upTo(room)...)
		refuses(t, b, of(room+1))
		takes(t, b, upTo(room)...)
		empty(t, b)
	}
}

func TestMaxBoxIsTheDocuments(t *testing.T) {
	if _, e := mail.New(256); e != api.OK {
		t.Error("New(256):", e)
	}
	if _, e := mail.New(257); e != api.ErrArg {
		t.Error("New(257):", e)
	}
}

func TestPutIntoAFullBox(t *testing.T) {
	for _, room := range []int{1, 2, 3, 17, api.MaxBox - 1, api.MaxBox} {
		b := begin(t, room)
		puts(t, b, upTo(room)...)
		for i := range 3 {
			refuses(t, b, of(1000+i))
		}
		takes(t, b, of(1))
		puts(t, b, of(2000))
		refuses(t, b, of(2001))
		takes(t, b, upTo(room)[1:]...)
		takes(t, b, of(2000))
		empty(t, b)
	}
}

func TestTakeOfAnEmptyBox(t *testing.T) {
	for _, room := range []int{1, 2, api.MaxBox} {
		b := begin(t, room)
		for range 3 {
			empty(t, b)
		}
		puts(t, b, of(1))
		takes(t, b, of(1))
		for range 3 {
			empty(t, b)
		}
		puts(t, b, of(2))
		takes(t, b, of(2))
		empty(t, b)
	}
}

func TestPutAndTakeInTurns(t *testing.T) {
	for _, room := range []int{1, 2, 3, 5, api.MaxBox} {
		for _, ahead := range []int{0, 1, room / 2, room - 1} {
			if ahead >= room {
				continue
			}
			b := begin(t, room)
			puts(t, b, upTo(ahead)...)
			for i := range room*20 + 7 {
				puts(t, b, of(ahead+1+i))
				takes(t, b, of(1+i))
			}
			has(t, b, ahead)
		}
	}
}

func TestFillAndEmptyOverAndOver(t *testing.T) {
	for _, room := range []int{1, 2, 3, 64, api.MaxBox} {
		b := begin(t, room)
		for range 20 {
			puts(t, b, upTo(room)...)
			refuses(t, b, of(room+1))
			takes(t, b, upTo(room)...)
			empty(t, b)
		}
	}
}

func TestFramesComeOutAsTheyWerePut(t *testing.T) {
	long := strings.Repeat("\x00\xff\r\n", api.MaxData/4)
	l := []api.Frame{
		{},
		of(1),
		{Kind: math.MinInt, Slot: math.MaxInt, Inc: math.MinInt, Rid: math.MaxInt, Floor: math.MinInt,
			Role: math.MaxInt, Version: math.MinInt},
		{Kind: -1, Slot: -1, Inc: -1, Rid: -1, Floor: -1, Role: -1, Version: -1},
		{Kind: api.FPut}, {Slot: 1}, {Inc: 1}, {Rid: 1}, {Floor: 1}, {Role: api.RPart}, {Key: "k"}, {Version: 1}, {Data: "d"},
		{Key: strings.Repeat("k", api.MaxKey+1), Data: long},
		{Key: "\x00", Data: "\xff\xfe"},
		of(1),
		{},
	}
	b := begin(t, len(l))
	puts(t, b, l...)
	takes(t, b, l...)
	puts(t, b, l...)
	if got := mail.Drain(len(l), b); !slices.Equal(got, l) {
		t.Error("Drain tells other frames than those that were put")
	}
	puts(t, b, l...)
	for i, want := range l {
		if at, f, ok := mail.First(b); at != 0 || f != want || !ok {
			t.Errorf("First, asked %d times: %d, another frame, %v", i+1, at, ok)
		}
	}
	empty(t, b)
}

// A zero frame is a frame: it counts, and its Take is true.
func TestZeroFrames(t *testing.T) {
	b := begin(t, 2)
	puts(t, b, api.Frame{}, api.Frame{})
	refuses(t, b, of(1))
	takes(t, b, api.Frame{})
	if at, f, ok := mail.First(nil, b); at != 1 || f != (api.Frame{}) || !ok {
		t.Errorf("First = %d, %v, %v", at, f, ok)
	}
	empty(t, b)
	puts(t, b, api.Frame{}, api.Frame{})
	if got := mail.Drain(9, b); len(got) != 2 {
		t.Errorf("Drain tells %d frames", len(got))
	}
	empty(t, b)
}

func TestFramesThatAreTheSame(t *testing.T) {
	b := begin(t, 4)
	puts(t, b, of(1), of(1), of(2), of(1))
	refuses(t, b, of(1))
	holds(t, b, 1, 1, 2, 1)
}

func TestBoxesShareNothing(t *testing.T) {
	x, y := begin(t, 2), begin(t, 2)
	puts(t, x, of(1), of(2))
	empty(t, y)
	puts(t, y, of(3))
	refuses(t, x, of(4))
	puts(t, y, of(5))
	holds(t, x, 1, 2)
	holds(t, y, 3, 5)
}

// P8.2

func TestFirstOfNone(t *testing.T) {
	x, y := filled(t), begin(t, api.MaxBox)
	for _, l := range [][]*mail.Box{nil, {}, {nil}, {nil, nil, nil}, {x}, {x, y}, {nil, x}, {x, nil}, {nil, x, nil, y, nil}, {x, x}} {
		findsNone(t, l)
		findsNone(t, l)
	}
	empty(t, x)
	empty(t, y)
}

func TestFirstAmongNilAndEmptyOnes(t *testing.T) {
	for ahead := range 6 {
		for behind := range 4 {
			void, b, later := begin(t, 3), filled(t, 1, 2), filled(t, 3)
			var l []*mail.Box
			for i := range ahead {
				l = append(l, []*mail.Box{nil, void}[(i+behind)%2])
			}
			l = append(l, b)
			for i := range behind {
				l = append(l, []*mail.Box{nil, void, later}[i])
			}
			finds(t, l, ahead, 1)
			has(t, b, 1)
			has(t, later, 1)
			finds(t, l, ahead, 2)
			if behind == 3 {
				finds(t, l, ahead+3, 3)
			}
			findsNone(t, l)
			empty(t, void)
			empty(t, b)
		}
	}
}

func TestFirstTakesOfTheFirstAlone(t *testing.T) {
	x, y, z := filled(t, 1, 2), filled(t, 3, 4, 5), filled(t, 6)
	l := []*mail.Box{x, y, z}
	finds(t, l, 0, 1)
	finds(t, l, 0, 2)
	finds(t, l, 1, 3)
	has(t, x, 0)
	has(t, y, 2)
	has(t, z, 1)
	puts(t, x, of(7))
	finds(t, l, 0, 7)
	finds(t, l, 1, 4)
	finds(t, []*mail.Box{z, y, x}, 0, 6)
	finds(t, []*mail.Box{z, x, y}, 2, 5)
	findsNone(t, l)
}

func TestFirstMakesRoom(t *testing.T) {
	b := begin(t, 1)
	puts(t, b, of(1))
	refuses(t, b, of(2))
	finds(t, []*mail.Box{b}, 0, 1)
	puts(t, b, of(3))
	holds(t, b, 3)
}

func TestFirstOfOneBoxTwice(t *testing.T) {
	void, b := filled(t), filled(t, 1, 2)
	l := []*mail.Box{nil, b, void, b}
	finds(t, l, 1, 1)
	has(t, b, 1)
	finds(t, l, 1, 2)
	findsNone(t, l)
}

func TestFirstOfManyBoxes(t *testing.T) {
	l := make([]*mail.Box, 5000)
	for i := range l {
		if i%3 > 0 {
			l[i] = begin(t, 1)
		}
	}
	findsNone(t, l)
	for _, i := range []int{4999, 2501, 1} {
		puts(t, l[i], of(i))
		finds(t, l, i, i)
	}
	puts(t, l[4999], of(4999))
	puts(t, l[2], of(2))
	finds(t, l, 2, 2)
	finds(t, l, 4999, 4999)
	findsNone(t, l)
}

// P8.3

func TestDrainOfNone(t *testing.T) {
	x, y := filled(t), begin(t, api.MaxBox)
	for _, l := range [][]*mail.Box{nil, {}, {nil}, {nil, nil, nil}, {x}, {x, y}, {nil, x}, {x, nil}, {nil, x, nil, y, nil}, {x, x}} {
		for _, n := range []int{math.MinInt, -1, 0, 1, 2, 1000, math.MaxInt} {
			drains(t, n, l)
		}
	}
	empty(t, x)
	empty(t, y)
}

func TestDrainOfFewerThanOne(t *testing.T) {
	for _, n := range []int{0, -1, -2, -100, math.MinInt32, math.MinInt} {
		x, y := filled(t, 1, 2), filled(t, 3)
		drains(t, n, []*mail.Box{x, nil, y})
		holds(t, x, 1, 2)
		holds(t, y, 3)
	}
}

// Rounds of three boxes, with what is left in each behind each number.
func TestDrainRoundByRound(t *testing.T) {
	order := []int{1, 4, 6, 2, 5, 3}
	left := [][3]int{{3, 2, 1}, {2, 2, 1}, {2, 1, 1}, {2, 1, 0}, {1, 1, 0}, {1, 0, 0}, {0, 0, 0}}
	for n := range 9 {
		took := min(n, len(order))
		for _, among := range []bool{false, true} {
			x, y, z, void := filled(t, 1, 2, 3), filled(t, 4, 5), filled(t, 6), filled(t)
			l := []*mail.Box{x, y, z}
			if among {
				l = []*mail.Box{nil, x, void, y, nil, nil, z, void, nil}
			}
			drains(t, n, l, order[:took]...)
			holds(t, x, []int{1, 2, 3}[3-left[took][0]:]...)
			holds(t, y, []int{4, 5}[2-left[took][1]:]...)
			holds(t, z, []int{6}[1-left[took][2]:]...)
			empty(t, void)
		}
	}
}

func TestDrainBeginsAtTheFirstEachTime(t *testing.T) {
	x, y := filled(t, 1, 2, 3), filled(t, 4, 5, 6)
	l := []*mail.Box{x, y}
	drains(t, 1, l, 1)
	drains(t, 1, l, 2)
	drains(t, 3, l, 3, 4, 5)
	drains(t, 3, l, 6)
	drains(t, 3, l)
}

// A round in which the first boxes are empty already is a round none the less.
func TestDrainGoesOnWhileAnyHasOne(t *testing.T) {
	x, y, z := filled(t, 1), filled(t, 2, 3), filled(t, 4, 5, 6, 7)
	drains(t, 100, []*mail.Box{x, y, z}, 1, 2, 4, 3, 5, 6, 7)
	x, y, z = filled(t, 1), filled(t, 2, 3), filled(t, 4, 5, 6, 7)
	drains(t, 100, []*mail.Box{z, x, y}, 4, 1, 2, 5, 3, 6, 7)
	x, y, z = filled(t, 1), filled(t, 2, 3), filled(t, 4, 5, 6, 7)
	drains(t, 6, []*mail.Box{x, z, y}, 1, 4, 2, 5, 3, 6)
	holds(t, z, 7)
}

func TestDrainOfOneBox(t *testing.T) {
	for _, n := range []int{1, 2, api.MaxBox - 1, api.MaxBox, api.MaxBox + 1, math.MaxInt} {
		b := begin(t, api.MaxBox)
		puts(t, b, upTo(api.MaxBox)...)
		took := min(n, api.MaxBox)
		if got := mail.Drain(n, b); !slices.Equal(got, upTo(took)) {
			t.Errorf("Drain(%d) = %v", n, marks(got))
		}
		takes(t, b, upTo(api.MaxBox)[took:]...)
		empty(t, b)
	}
}

func TestDrainOfOneBoxTwice(t *testing.T) {
	for n := range 8 {
		x, y := filled(t, 1, 2, 3, 4), filled(t, 5, 6)
		order := []int{1, 5, 2, 3, 6, 4}
		took := min(n, len(order))
		drains(t, n, []*mail.Box{x, y, nil, x}, order[:took]...)
		has(t, x, []int{4, 3, 3, 2, 1, 1, 0, 0}[n])
		has(t, y, []int{2, 2, 1, 1, 1, 0, 0, 0}[n])
	}
	b := filled(t, 1, 2, 3)
	drains(t, 3, []*mail.Box{b, b}, 1, 2, 3)
	empty(t, b)
}

func TestDrainMakesRoom(t *testing.T) {
	x, y := begin(t, 2), begin(t, 1)
	puts(t, x, of(1), of(2))
	puts(t, y, of(3))
	drains(t, 2, []*mail.Box{x, y}, 1, 3)
	puts(t, x, of(4))
	refuses(t, x, of(5))
	puts(t, y, of(6))
	refuses(t, y, of(7))
	drains(t, 9, []*mail.Box{x, y}, 2, 6, 4)
}

func TestDrainOfManyBoxes(t *testing.T) {
	l := make([]*mail.Box, 3000)
	var first, second []int
	for i := range l {
		if i%4 == 0 {
			continue
		}
		l[i] = begin(t, 2)
		if i%4 > 1 {
			puts(t, l[i], of(i))
			first = append(first, i)
		}
		if i%4 > 2 {
			puts(t, l[i], of(10000+i))
			second = append(second, 10000+i)
		}
	}
	drains(t, len(first)-1, l, first[:len(first)-1]...)
	last := first[len(first)-1]
	drains(t, 1, l, second[0])
	drains(t, math.MaxInt, l, slices.Concat(second[1:len(second)-1], []int{last, last + 10000})...)
	findsNone(t, l)
}

// R2: what Drain answers is new memory, and the list that it is given stays as it is.
func TestDrainsAnswersAreNew(t *testing.T) {
	x, y := filled(t, 1, 2, 3), filled(t, 4, 5, 6)
	room := []*mail.Box{x, nil, y, y, x}
	l := room[:3]
	one := mail.Drain(3, l...)
	kept := slices.Clone(one)
	for i := range one[:cap(one)] {
		one[:cap(one)][i] = of(77)
	}
	two := mail.Drain(3, l...)
	if !slices.Equal(kept, all(1, 4, 2)) || !slices.Equal(two, all(3, 5, 6)) {
		t.Error(marks(kept), marks(two))
	}
	for i := range one[:cap(one)] {
		if one[:cap(one)][i] != of(77) {
			t.Error("Drain wrote into what it answered ahead", i)
		}
	}
	puts(t, x, of(8), of(9))
	if !slices.Equal(two, all(3, 5, 6)) {
		t.Error("Put changed what Drain answered", marks(two))
	}
	finds(t, l, 0, 8)
	if !slices.Equal(room, []*mail.Box{x, nil, y, y, x}) {
		t.Error("the list of boxes is changed")
	}
}

// P8.4

// plain is a box as a list, against which boxes are held.
type plain struct {
	room   int
	frames []api.Frame
}

func (p *plain) put(f api.Frame) bool {
	if len(p.frames) == p.room {
		return false
	}
	p.frames = append(p.frames, f)
	return true
}

func (p *plain) take() (api.Frame, bool) {
	if p == nil || len(p.frames) == 0 {
		return api.Frame{}, false
	}
	f := p.frames[0]
	p.frames = p.frames[1:]
	return f, true
}

func plainFirst(l []*plain) (int, api.Frame, bool) {
	for at, p := range l {
		if f, ok := p.take(); ok {
			return at, f, true
		}
	}
	return -1, api.Frame{}, false
}

// plainDrain goes from place to place, till so many in a row told none that a whole round is among them.
func plainDrain(n int, l []*plain) []api.Frame {
	var out []api.Frame
	for at, missed := 0, 0; len(out) < n && missed < 2*len(l); at++ {
		f, ok := l[at%len(l)].take()
		if !ok {
			missed++
			continue
		}
		missed = 0
		out = append(out, f)
	}
	return out
}

// play is boxes and the lists that they are held against, and what was told.
type play struct {
	t      *testing.T
	next   func(n int) int
	boxes  []*mail.Box
	plains []*plain
	put    int
	told   strings.Builder
	seen   map[int]int
}

func newPlay(t *testing.T, seed uint64) *play {
	p := &play{t: t, next: chance(seed), seen: map[int]int{}}
	for i := range 1 + p.next(9) {
		room := []int{1, 2, 1 + p.next(8), 1 + p.next(api.MaxBox), api.MaxBox}[(i+p.next(5))%5]
		p.boxes = append(p.boxes, begin(t, room))
		p.plains = append(p.plains, &plain{room: room})
	}
	return p
}

// some is a list of boxes, some of them nil, some named twice, and their plain ones.
func (p *play) some() ([]*mail.Box, []*plain) {
	var l []*mail.Box
	var m []*plain
	for range p.next(2*len(p.boxes) + 1) {
		i := p.next(len(p.boxes) + 1)
		if i == len(p.boxes) {
			l, m = append(l, nil), append(m, nil)
			continue
		}
		l, m = append(l, p.boxes[i]), append(m, p.plains[i])
	}
	return l, m
}

// out counts what came out.
func (p *play) out(l ...api.Frame) {
	for _, f := range l {
		p.seen[f.Rid]++
	}
	fmt.Fprintln(&p.told, marks(l))
}

func (p *play) puts(i, count int) {
	for range count {
		f := of(p.put)
		got, want := p.boxes[i].Put(f), p.plains[i].put(f)
		if got != want {
			p.t.Fatalf("Put into %d of %d: %v", p.boxes[i].Len(), p.plains[i].room, got)
		}
		if got {
			p.put++
		}
		fmt.Fprintln(&p.told, got)
	}
}

func (p *play) takes(i, count int) {
	for range count {
		f, ok := p.boxes[i].Take()
		if want, is := p.plains[i].take(); f != want || ok != is {
			p.t.Fatalf("Take = %v, %v, not %v, %v", f, ok, want, is)
		}
		if ok {
			p.out(f)
		}
	}
}

func (p *play) firsts() {
	l, m := p.some()
	at, f, ok := mail.First(l...)
	if place, want, is := plainFirst(m); at != place || f != want || ok != is {
		p.t.Fatalf("First = %d, %v, %v, not %d, %v, %v", at, f, ok, place, want, is)
	}
	if ok {
		p.out(f)
	}
}

func (p *play) drains() {
	l, m := p.some()
	n := []int{-1, 0, 1, 2, p.next(12), p.next(300), math.MaxInt}[p.next(7)]
	got := mail.Drain(n, l...)
	if want := plainDrain(n, m); !slices.Equal(got, want) {
		p.t.Fatalf("Drain(%d) = %v, not %v", n, marks(got), marks(want))
	}
	p.out(got...)
}

// step is one call or some, and what is left in each box behind it.
func (p *play) step() {
	i := p.next(len(p.boxes))
	switch p.next(8) {
	case 0, 1:
		p.puts(i, 1+p.next(4))
	case 2:
		p.puts(i, p.plains[i].room+1)
	case 3, 4:
		p.takes(i, 1+p.next(4))
	case 5, 6:
		p.firsts()
	case 7:
		p.drains()
	}
	for i, b := range p.boxes {
		if got := b.Len(); got != len(p.plains[i].frames) || got > p.plains[i].room {
			p.t.Fatalf("Len of box %d = %d, not %d, of room %d", i, got, len(p.plains[i].frames), p.plains[i].room)
		}
	}
}

// end takes all that is left, and fails if any frame didn't come out just once.
func (p *play) end() {
	for i, b := range p.boxes {
		p.takes(i, b.Len()+1)
		empty(p.t, b)
	}
	for mark := range p.put {
		if p.seen[mark] != 1 {
			p.t.Fatalf("frame %d came out %d times", mark, p.seen[mark])
		}
	}
	if len(p.seen) != p.put {
		p.t.Fatalf("%d frames came out, %d were put", len(p.seen), p.put)
	}
}

func playOf(t *testing.T, seed uint64) *play {
	p := newPlay(t, seed)
	for range 500 {
		p.step()
	}
	p.end()
	return p
}

func TestLongPlays(t *testing.T) {
	frames := 0
	for seed := range uint64(100) {
		frames += playOf(t, seed).put
	}
	if frames < 100000 {
		t.Error("the plays are too short:", frames)
	}
}

// R4: the same calls tell the same.
func TestSameCallsTellTheSame(t *testing.T) {
	for seed := range uint64(5) {
		if playOf(t, seed).told.String() != playOf(t, seed).told.String() {
			t.Error("seed", seed)
		}
	}
}

// Frames that were said false of don't come out, those about them do, in order.
func TestWhatWasRefusedDoesNotComeOut(t *testing.T) {
	b := begin(t, 3)
	var in, out []api.Frame
	for i := range 1000 {
		if f := of(i); b.Put(f) {
			in = append(in, f)
		}
		if i%5 > 2 {
			if f, ok := b.Take(); ok {
				out = append(out, f)
			}
		}
	}
	out = append(out, mail.Drain(math.MaxInt, b)...)
	if len(in) == 1000 || len(in) < 300 || !slices.Equal(in, out) {
		t.Errorf("%d were put, %d came out", len(in), len(out))
	}
}

// Runs

func TestRuns(t *testing.T) {
	b := begin(t, 2)
	puts(t, b, of(1), of(2))
	refuses(t, b, of(3))
	takes(t, b, of(1))
	has(t, b, 1)

	x, y, z := filled(t, 1, 2, 3), filled(t), filled(t, 4, 5)
	drains(t, 4, []*mail.Box{x, y, z}, 1, 4, 2, 5)
	holds(t, x, 3)
	empty(t, y)
	empty(t, z)

	y, z = filled(t), filled(t, 4, 5)
	finds(t, []*mail.Box{y, z}, 1, 4)
	holds(t, z, 5)
}
