package net_test

import (
	"container/list"
	"fmt"
	"math"
	"slices"
	"strings"
	"testing"

	"depot/api"
	"depot/net"
)

// of is a frame in which each field differs from those of other marks.
func of(mark int) api.Frame {
	return api.Frame{
		Kind:    mark*9 + 1,
		Slot:    mark*9 + 2,
		Inc:     mark*9 + 3,
		Rid:     mark,
		Floor:   mark*9 + 4,
		Role:    mark*9 + 5,
		Key:     fmt.Sprint("key ", mark),
		Version: mark*9 + 6,
		Data:    fmt.Sprint("data ", mark),
	}
}

// all is the frames of the marks.
func all(marks ...int) []api.Frame {
	var l []api.Frame
	for _, mark := range marks {
		l = append(l, of(mark))
	}
	return l
}

// upTo is the marks 1 to n.
func upTo(n int) []int {
	var l []int
	for i := range n {
		l = append(l, i+1)
	}
	return l
}

// without is the marks but the one at that place, in new memory.
func without(marks []int, at int) []int {
	return slices.Concat(marks[:at], marks[at+1:])
}

// marks is the frames' marks, which is shorter to tell.
func marks(l []api.Frame) []int {
	out := []int{}
	for _, f := range l {
		out = append(out, f.Rid)
	}
	return out
}

// begin is a net with the marks' frames.
func begin(t *testing.T, marks ...int) *net.Net {
	t.Helper()
	n := net.New()
	if n == nil {
		t.Fatal("New is nil")
	}
	has(t, n)
	sends(t, n, all(marks...)...)
	return n
}

// full is a net with the frames of the marks 1 to MaxNet.
func full(t *testing.T) *net.Net {
	t.Helper()
	return begin(t, upTo(api.MaxNet)...)
}

// sends fails if Send of the frames isn't true, or Len doesn't count them.
func sends(t *testing.T, n *net.Net, l ...api.Frame) {
	t.Helper()
	for _, f := range l {
		before := n.Len()
		if !n.Send(f) || n.Len() != before+1 {
			t.Fatalf("Send(%v) behind %d is refused, or Len is %d then", f, before, n.Len())
		}
	}
}

// refuses fails if Send isn't false, or changes how many there are.
func refuses(t *testing.T, n *net.Net, f api.Frame) {
	t.Helper()
	before := n.Len()
	if n.Send(f) || n.Len() != before {
		t.Fatalf("Send(%v) behind %d is taken, or Len is %d then", f, before, n.Len())
	}
}

// holds fails if List, Len or Copy of each place tell anything else than the frames.
func holds(t *testing.T, n *net.Net, want ...api.Frame) {
	t.Helper()
	if got := n.List(); !slices.Equal(got, want) {
		t.Fatalf("List = %v, not %v", marks(got), marks(want))
	}
	if got := n.Len(); got != len(want) {
		t.Fatalf("Len = %d, not %d", got, len(want))
	}
	for k, f := range want {
		if got, ok := n.Copy(k); got != f || !ok {
			t.Fatalf("Copy(%d) = %v, %v, not %v, true", k, got, ok, f)
		}
	}
}

// has is holds of the marks' frames.
func has(t *testing.T, n *net.Net, marks ...int) {
	t.Helper()
	holds(t, n, all(marks...)...)
}

// delivers fails if Deliver doesn't tell that frame, or there isn't one less then.
func delivers(t *testing.T, n *net.Net, k int, want api.Frame) {
	t.Helper()
	before := n.Len()
	if f, ok := n.Deliver(k); f != want || !ok {
		t.Fatalf("Deliver(%d) = %v, %v, not %v, true", k, f, ok, want)
	}
	if n.Len() != before-1 {
		t.Fatalf("Deliver(%d) of %d leaves %d", k, before, n.Len())
	}
}

// copies fails if Copy doesn't tell that frame.
func copies(t *testing.T, n *net.Net, k int, want api.Frame) {
	t.Helper()
	if f, ok := n.Copy(k); f != want || !ok {
		t.Fatalf("Copy(%d) = %v, %v, not %v, true", k, f, ok, want)
	}
}

// drops fails if Drop isn't true, or there isn't one less then.
func drops(t *testing.T, n *net.Net, k int) {
	t.Helper()
	before := n.Len()
	if !n.Drop(k) {
		t.Fatalf("Drop(%d) of %d is false", k, before)
	}
	if n.Len() != before-1 {
		t.Fatalf("Drop(%d) of %d leaves %d", k, before, n.Len())
	}
}

// none fails if any call finds a frame at that place.
func none(t *testing.T, n *net.Net, k int) {
	t.Helper()
	if f, ok := n.Deliver(k); f != (api.Frame{}) || ok {
		t.Fatalf("Deliver(%d) of %d = %v, %v, not zero, false", k, n.Len(), f, ok)
	}
	if f, ok := n.Copy(k); f != (api.Frame{}) || ok {
		t.Fatalf("Copy(%d) of %d = %v, %v, not zero, false", k, n.Len(), f, ok)
	}
	if n.Drop(k) {
		t.Fatalf("Drop(%d) of %d is true", k, n.Len())
	}
}

// noPlaces is numbers that are no places of a list of that length.
func noPlaces(length int) []int {
	return []int{-1, -2, -length, -length - 1, math.MinInt32, math.MinInt + 1, math.MinInt,
		length, length + 1, 2*length + 1, api.MaxNet, api.MaxNet + 1, 1 << 16, math.MaxInt32, math.MaxInt32 + 1,
		1 << 32, 1<<32 + 1, 1 << 62, math.MaxInt - 1, math.MaxInt}
}

// chance is a row of numbers that is the same for the same seed.
func chance(seed uint64) func(n int) int {
	x := seed*0x9e3779b97f4a7c15 + 1
	return func(n int) int {
		x ^= x << 13
		x ^= x >> 7
		x ^= x << 17
		return int(x>>33) % n
	}
}

// P10.1

func TestNewHasNone(t *testing.T) {
	n := net.New()
	if n.Len() != 0 || len(n.List()) != 0 {
		t.Fatalf("Len = %d, List = %v", n.Len(), n.List())
	}
	for _, k := range append(noPlaces(0), 0) {
		none(t, n, k)
	}
	has(t, n)
	sends(t, n, of(1))
	has(t, n, 1)
}

func TestSentOnesStandBehindTheOthers(t *testing.T) {
	n := begin(t)
	for i := range 300 {
		sends(t, n, of(i+1))
		has(t, n, upTo(i+1)...)
	}
}

func TestMaxNetIsTheDocuments(t *testing.T) {
	n := net.New()
	for i := range 4000 {
		if !n.Send(of(i)) {
			t.Fatal("false behind", i)
		}
	}
	if n.Send(of(4000)) {
		t.Error("true behind 4000")
	}
}

func TestSendAboutTheLimit(t *testing.T) {
	n := begin(t, upTo(api.MaxNet-1)...)
	sends(t, n, of(api.MaxNet))
	for i := range 3 {
		refuses(t, n, of(api.MaxNet+1+i))
	}
	refuses(t, n, of(1))
	refuses(t, n, api.Frame{})
	has(t, n, upTo(api.MaxNet)...)
}

// Behind a Deliver or a Drop of any place there is room for one, which is the last then.
func TestRoomBehindDeliverAndDrop(t *testing.T) {
	n := full(t)
	l := upTo(api.MaxNet)
	for i, k := range []int{0, api.MaxNet - 1, api.MaxNet / 2, 1, api.MaxNet - 2, 0, 0, api.MaxNet - 1} {
		for j := range 2 {
			if j == 0 {
				delivers(t, n, k, of(l[k]))
			} else {
				drops(t, n, k)
			}
			l = without(l, k)
			has(t, n, l...)
			mark := 10000 + 2*i + j
			sends(t, n, of(mark))
			l = append(l, mark)
			refuses(t, n, of(-mark))
			has(t, n, l...)
		}
	}
}

func TestNoRoomBehindCallsThatTakeNone(t *testing.T) {
	n := full(t)
	for _, k := range []int{0, 1, api.MaxNet / 2, api.MaxNet - 1} {
		copies(t, n, k, of(k+1))
		refuses(t, n, of(10000))
	}
	for _, k := range noPlaces(api.MaxNet) {
		none(t, n, k)
		refuses(t, n, of(10000))
	}
	if got := n.List(); len(got) != api.MaxNet {
		t.Error(len(got))
	}
	refuses(t, n, of(10000))
	has(t, n, upTo(api.MaxNet)...)
}

func TestFillAndEmptyOverAndOver(t *testing.T) {
	n := begin(t)
	for i := range 3 {
		sends(t, n, all(upTo(api.MaxNet)...)...)
		refuses(t, n, of(0))
		for k := range api.MaxNet {
			switch i {
			case 0:
				delivers(t, n, 0, of(k+1))
			case 1:
				delivers(t, n, api.MaxNet-1-k, of(api.MaxNet-k))
			default:
				drops(t, n, (api.MaxNet-1-k)/2)
			}
		}
		none(t, n, 0)
		has(t, n)
	}
}

func TestFramesStayAsTheyWereSent(t *testing.T) {
	l := []api.Frame{
		{},
		of(1),
		{Kind: math.MinInt, Slot: math.MaxInt, Inc: math.MinInt, Rid: math.MaxInt, Floor: math.MinInt,
			Role: math.MaxInt, Version: math.MinInt},
		{Kind: -1, Slot: -1, Inc: -1, Rid: -1, Floor: -1, Role: -1, Version: -1},
		{Kind: api.FPut}, {Slot: 1}, {Inc: 1}, {Rid: 1}, {Floor: 1}, {Role: api.RPart}, {Key: "k"}, {Version: 1}, {Data: "d"},
		{Key: strings.Repeat("k", api.MaxKey+1), Data: strings.Repeat("\x00\xff\r\n", api.MaxData/4+1)},
		{Key: "\x00", Data: "\xff\xfe"},
		of(1),
		{},
	}
	n := begin(t)
	sends(t, n, l...)
	holds(t, n, l...)
	for i, f := range l {
		copies(t, n, 0, f)
		delivers(t, n, 0, f)
		holds(t, n, l[i+1:]...)
	}
	sends(t, n, l...)
	for i := len(l) - 1; i >= 0; i-- {
		delivers(t, n, i, l[i])
		holds(t, n, l[:i]...)
	}
}

// A zero frame is a frame: it counts, and is told beside true.
func TestZeroFrames(t *testing.T) {
	zero := api.Frame{}
	n := begin(t)
	sends(t, n, zero, zero, zero)
	holds(t, n, zero, zero, zero)
	copies(t, n, 2, zero)
	delivers(t, n, 1, zero)
	holds(t, n, zero, zero)
	drops(t, n, 1)
	holds(t, n, zero)
	none(t, n, 1)
	sends(t, n, of(1))
	holds(t, n, zero, of(1))
	delivers(t, n, 0, zero)
	none(t, n, 1)
	has(t, n, 1)
	sends(t, n, zero)
	for range api.MaxNet - 2 {
		sends(t, n, zero)
	}
	refuses(t, n, zero)
	delivers(t, n, api.MaxNet-1, zero)
	sends(t, n, zero)
	refuses(t, n, of(1))
}

// Frames that are the same are as many as were sent, and go one by one.
func TestFramesThatAreTheSame(t *testing.T) {
	n := begin(t, 1, 1, 2, 1)
	has(t, n, 1, 1, 2, 1)
	delivers(t, n, 0, of(1))
	has(t, n, 1, 2, 1)
	drops(t, n, 2)
	has(t, n, 1, 2)
	sends(t, n, of(2), of(1), of(1))
	has(t, n, 1, 2, 2, 1, 1)
	drops(t, n, 1)
	has(t, n, 1, 2, 1, 1)
	delivers(t, n, 3, of(1))
	delivers(t, n, 0, of(1))
	has(t, n, 2, 1)
	copies(t, n, 1, of(1))
	sends(t, n, of(1))
	has(t, n, 2, 1, 1)
}

// What List told stays as it is, whatever is done later.
func TestListsDoNotChange(t *testing.T) {
	n := begin(t, 1, 2, 3, 4, 5, 6)
	deeds := []func(){
		func() { sends(t, n, of(7)) },
		func() { delivers(t, n, 0, of(1)) },
		func() { delivers(t, n, 2, of(4)) },
		func() { copies(t, n, 1, of(3)) },
		func() { drops(t, n, 0) },
		func() { drops(t, n, n.Len()-1) },
		func() { sends(t, n, of(8), of(9)) },
		func() { delivers(t, n, n.Len()-1, of(9)) },
		func() { none(t, n, n.Len()) },
		func() { sends(t, n, all(upTo(100)...)...) },
	}
	var told, kept [][]api.Frame
	for _, deed := range deeds {
		told = append(told, n.List())
		kept = append(kept, slices.Clone(n.List()))
		deed()
		for i := range told {
			if !slices.Equal(told[i], kept[i]) {
				t.Fatalf("list %d is %v now, and was %v", i, marks(told[i]), marks(kept[i]))
			}
		}
	}
	for n.Len() > 0 {
		drops(t, n, 0)
	}
	for i := range told {
		if !slices.Equal(told[i], kept[i]) {
			t.Fatalf("list %d is %v in the end, and was %v", i, marks(told[i]), marks(kept[i]))
		}
	}
}

// What is written into a list, its spare room too, changes neither the net nor another list,
// and the net writes into neither.
func TestWritesIntoLists(t *testing.T) {
	for length := range 40 {
		n := begin(t, upTo(length)...)
		// A frame that went leaves room behind, in which a list might stand.
		sends(t, n, of(500), of(501))
		drops(t, n, length)
		delivers(t, n, length, of(501))
		one, two := n.List(), n.List()
		room := one[:cap(one)]
		for i := range room {
			room[i] = of(77)
		}
		has(t, n, upTo(length)...)
		if !slices.Equal(two, all(upTo(length)...)) {
			t.Fatalf("the other list is %v", marks(two))
		}
		sends(t, n, of(length+1), of(length+2))
		has(t, n, upTo(length+2)...)
		two = append(two, of(88))
		has(t, n, upTo(length+2)...)
		for i := range room {
			if room[i] != of(77) {
				t.Fatalf("the net wrote into the list of %d at %d", length, i)
			}
		}
		if two[length] != of(88) {
			t.Fatalf("what is behind the list of %d is changed", length)
		}
	}
}

func TestNetsShareNothing(t *testing.T) {
	x, y := begin(t), begin(t)
	sends(t, x, of(1), of(2))
	has(t, y)
	none(t, y, 0)
	sends(t, y, of(3), of(4), of(5))
	has(t, x, 1, 2)
	delivers(t, x, 0, of(1))
	drops(t, y, 1)
	has(t, x, 2)
	has(t, y, 3, 5)
	drops(t, x, 0)
	has(t, y, 3, 5)
	x = full(t)
	refuses(t, x, of(6))
	sends(t, y, of(6))
	has(t, y, 3, 5, 6)
	has(t, x, upTo(api.MaxNet)...)
}

// P10.2

// Each place of each short length, and numbers that are none of its places.
func TestEachPlace(t *testing.T) {
	for length := range 12 {
		l := upTo(length)
		for k := range length {
			n := begin(t, l...)
			copies(t, n, k, of(k+1))
			has(t, n, l...)
			delivers(t, n, k, of(k+1))
			has(t, n, without(l, k)...)

			n = begin(t, l...)
			drops(t, n, k)
			has(t, n, without(l, k)...)
		}
		n := begin(t, l...)
		for _, k := range noPlaces(length) {
			none(t, n, k)
		}
		has(t, n, l...)
		sends(t, n, of(length+1))
		has(t, n, upTo(length+1)...)
	}
}

func TestPlacesOfAFullNet(t *testing.T) {
	l := upTo(api.MaxNet)
	for _, k := range []int{0, 1, api.MaxNet / 2, api.MaxNet - 2, api.MaxNet - 1} {
		n := full(t)
		copies(t, n, k, of(k+1))
		delivers(t, n, k, of(k+1))
		none(t, n, api.MaxNet-1)
		has(t, n, without(l, k)...)

		n = full(t)
		drops(t, n, k)
		none(t, n, api.MaxNet-1)
		has(t, n, without(l, k)...)
	}
}

// The place behind the last is none, also where one stood there just now.
func TestThePlaceBehindTheLast(t *testing.T) {
	n := begin(t, upTo(9)...)
	for length := 9; length > 0; length-- {
		none(t, n, length)
		if length%2 == 0 {
			delivers(t, n, length-1, of(length))
		} else {
			drops(t, n, length-1)
		}
		none(t, n, length-1)
		has(t, n, upTo(length-1)...)
	}
	none(t, n, 0)
}

func TestCopyAsOftenAsOneLikes(t *testing.T) {
	n := begin(t, 1, 2, 3)
	for i := range 100 {
		copies(t, n, i%3, of(i%3+1))
	}
	has(t, n, 1, 2, 3)
	f, _ := n.Copy(1)
	f.Key, f.Rid = "another", 99
	has(t, n, 1, 2, 3)
}

// The places of those behind one that went are one less.
func TestPlacesMoveUp(t *testing.T) {
	n := begin(t, upTo(6)...)
	delivers(t, n, 2, of(3))
	delivers(t, n, 2, of(4))
	copies(t, n, 2, of(5))
	drops(t, n, 0)
	copies(t, n, 0, of(2))
	copies(t, n, 1, of(5))
	copies(t, n, 2, of(6))
	none(t, n, 3)
	drops(t, n, 1)
	delivers(t, n, 1, of(6))
	delivers(t, n, 0, of(2))
	none(t, n, 0)
}

// P10.3

// play is a net, and the linked frames that it is held against.
type play struct {
	t      *testing.T
	next   func(n int) int
	net    *net.Net
	linked *list.List
	sent   int
	seen   map[int]int // how often each mark went
	told   strings.Builder
}

// newPlay begins with that many frames there.
func newPlay(t *testing.T, seed uint64, ahead int) *play {
	p := &play{t: t, next: chance(seed), net: net.New(), linked: list.New(), seen: map[int]int{}}
	p.sends(ahead)
	return p
}

// frames is the linked ones, in order.
func (p *play) frames() []api.Frame {
	var l []api.Frame
	for e := p.linked.Front(); e != nil; e = e.Next() {
		l = append(l, e.Value.(api.Frame))
	}
	return l
}

// at is the linked one at that place, nil if there is none.
func (p *play) at(k int) *list.Element {
	if k < 0 {
		return nil
	}
	e := p.linked.Front()
	for ; e != nil && k > 0; k-- {
		e = e.Next()
	}
	return e
}

// place is most often one of the places, the edges among them, and at times none.
func (p *play) place() int {
	length := p.linked.Len()
	switch p.next(8) {
	case 0:
		return 0
	case 1:
		return length - 1
	case 2:
		l := noPlaces(length)
		return l[p.next(len(l))]
	}
	return p.next(length + 1)
}

func (p *play) sends(count int) {
	for range count {
		f := of(p.sent)
		got := p.net.Send(f)
		if want := p.linked.Len() < api.MaxNet; got != want {
			p.t.Fatalf("Send behind %d: %v", p.linked.Len(), got)
		}
		if got {
			p.linked.PushBack(f)
			p.sent++
		}
		fmt.Fprintln(&p.told, got)
	}
}

// took unlinks a frame that went.
func (p *play) took(e *list.Element) {
	p.seen[e.Value.(api.Frame).Rid]++
	p.linked.Remove(e)
}

// tells fails if f and ok aren't what the linked one e is.
func (p *play) tells(call string, k int, f api.Frame, ok bool, e *list.Element) {
	want := api.Frame{}
	if e != nil {
		want = e.Value.(api.Frame)
	}
	if f != want || ok != (e != nil) {
		p.t.Fatalf("%s(%d) = %v, %v, not %v, %v", call, k, f, ok, want, e != nil)
	}
	fmt.Fprintln(&p.told, f, ok)
}

func (p *play) delivers(k int) {
	e := p.at(k)
	f, ok := p.net.Deliver(k)
	p.tells("Deliver", k, f, ok, e)
	if e != nil {
		p.took(e)
	}
}

func (p *play) copies(k int) {
	f, ok := p.net.Copy(k)
	p.tells("Copy", k, f, ok, p.at(k))
}

func (p *play) drops(k int) {
	e := p.at(k)
	ok := p.net.Drop(k)
	if ok != (e != nil) {
		p.t.Fatalf("Drop(%d) of %d: %v", k, p.linked.Len(), ok)
	}
	if e != nil {
		p.took(e)
	}
	fmt.Fprintln(&p.told, ok)
}

// step is a call or some, and what is there behind them.
func (p *play) step(many int) {
	switch p.next(7) {
	case 0:
		p.sends(1)
	case 1:
		p.sends(1 + p.next(many))
	case 2, 3:
		for range 1 + p.next(many/2+1) {
			p.delivers(p.place())
		}
	case 4:
		p.copies(p.place())
	case 5, 6:
		for range 1 + p.next(many/2+1) {
			p.drops(p.place())
		}
	}
	got, want := p.net.List(), p.frames()
	if !slices.Equal(got, want) || p.net.Len() != len(want) {
		p.t.Fatalf("List = %v, Len = %d, not %v", marks(got), p.net.Len(), marks(want))
	}
	fmt.Fprintln(&p.told, marks(got))
}

// end takes all that is left, and fails if any frame didn't go just once.
func (p *play) end() {
	for p.linked.Len() > 0 {
		if p.next(2) == 0 {
			p.delivers(p.next(p.linked.Len()))
		} else {
			p.drops(p.next(p.linked.Len()))
		}
	}
	has(p.t, p.net)
	for mark := range p.sent {
		if p.seen[mark] != 1 {
			p.t.Fatalf("frame %d went %d times", mark, p.seen[mark])
		}
	}
	if len(p.seen) != p.sent {
		p.t.Fatalf("%d frames went, %d were sent", len(p.seen), p.sent)
	}
}

func playOf(t *testing.T, seed uint64) *play {
	p := newPlay(t, seed, 0)
	for range 600 {
		p.step(1 + int(seed%9))
	}
	p.end()
	return p
}

func TestLongPlays(t *testing.T) {
	sent := 0
	for seed := range uint64(100) {
		sent += playOf(t, seed).sent
	}
	if sent < 20000 {
		t.Error("the plays are too short:", sent)
	}
}

func TestPlaysOfNetsThatAreNearlyFull(t *testing.T) {
	for seed := range uint64(3) {
		p := newPlay(t, seed, api.MaxNet-3)
		for range 100 {
			p.step(6)
			p.sends(p.next(7))
		}
		p.end()
	}
}

// R4: the same calls tell the same.
func TestSameCallsTellTheSame(t *testing.T) {
	for seed := range uint64(5) {
		if playOf(t, seed).told.String() != playOf(t, seed).told.String() {
			t.Error("seed", seed)
		}
	}
}

// Frames that were said false of are never there, those about them are, in order.
func TestWhatWasRefusedIsNeverThere(t *testing.T) {
	n := begin(t, upTo(api.MaxNet-2)...)
	want := upTo(api.MaxNet - 2)
	refused := 0
	for i := range 60 {
		mark := 10000 + i
		if n.Send(of(mark)) {
			want = append(want, mark)
		} else {
			refused++
		}
		if i%3 == 2 {
			delivers(t, n, i, of(want[i]))
			want = without(want, i)
		}
	}
	if refused < 30 {
		t.Error(refused, "were refused")
	}
	has(t, n, want...)
}

// Runs

func TestRuns(t *testing.T) {
	n := begin(t)
	sends(t, n, of(1), of(2), of(3))
	delivers(t, n, 1, of(2))
	copies(t, n, 1, of(3))
	if !n.Drop(0) || n.Drop(5) {
		t.Error("Drop(0) isn't true, or Drop(5) isn't false")
	}
	has(t, n, 3)
}
