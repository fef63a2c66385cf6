package slot_test

import (
	"fmt"
	"slices"
	"strings"
	"testing"

	"depot/api"
	"depot/item"
	"depot/pack"
	"depot/slot"
	"depot/wire"
)

// P17.5: a request is done once, however often it comes, in whatever order; what came for
// an elder incarnation, or after a wipe, does nothing.

// orders calls visit with each order of the frames.
func orders(l []api.Frame, visit func(l []api.Frame)) {
	var from func(at int)
	from = func(at int) {
		if at == len(l) {
			visit(l)
			return
		}
		for i := at; i < len(l); i++ {
			l[at], l[i] = l[i], l[at]
			from(at + 1)
			l[at], l[i] = l[i], l[at]
		}
	}
	from(0)
}

// same fails if the two slots tell anything else of what they keep. It asks with Rids from rid on.
func same(t *testing.T, s, other *slot.Slot, rid int) {
	t.Helper()
	asks := []api.Frame{scan(""), get(api.RMeta, "a", 0), get(api.RMeta, "b", 0)}
	for version := range 8 {
		asks = append(asks, get(api.RPart, "a", version), get(api.RPart, "b", version))
	}
	// Which one goes next tells which one was touched when.
	for i := range 4 {
		asks = append(asks, put(api.RMeta, fmt.Sprint("more ", i), 1, ""), scan(""))
	}
	for i, f := range asks {
		f.Slot, f.Inc, f.Rid = own, s.Inc(), rid+i
		got, ok := s.Take(f)
		want, there := other.Take(f)
		if got != want || ok != there || seen(s) != seen(other) {
			t.Fatalf("Take(%s) = %s, %v, not %s, %v; %s, not %s", brief(f), brief(got), ok, brief(want), there, seen(s), seen(other))
		}
	}
}

// In each order of some requests, one slot takes each once, the other takes all that came
// yet again behind each one: both tell the same.
func TestInWhateverOrderAndHoweverOften(t *testing.T) {
	requests := []api.Frame{put(api.RMeta, "a", 5, "five"), put(api.RMeta, "a", 6, "six"), drop(api.RMeta, "a", 5),
		get(api.RMeta, "a", 0), put(api.RPart, "a", 5, "part"), scan("")}
	for i := range requests {
		requests[i].Slot, requests[i].Inc, requests[i].Rid = own, first, 10+i
	}
	orders(requests, func(l []api.Frame) {
		once, often := begin(t, 1, 256), begin(t, 1, 256)
		var told []api.Frame
		for i, f := range l {
			want, ok := once.s.Take(f)
			if !ok {
				t.Fatal("nothing is answered to", brief(f))
			}
			told = append(told, want)
			for j, g := range l[:i+1] {
				takes(t, often.s, g, told[j])
			}
			for j, g := range l[:i+1] {
				takes(t, often.s, l[i-j], told[i-j])
				takes(t, often.s, g, told[j])
			}
		}
		same(t, often.s, once.s, 100)
	})
}

// What came for an elder incarnation, or comes again after a wipe, does nothing.
func TestWhatIsLateDoesNothing(t *testing.T) {
	for _, f := range []api.Frame{put(api.RMeta, "a", 9, "late"), put(api.RPart, "a", 6, "late"), drop(api.RMeta, "a", 9),
		drop(api.RPart, "a", 5), get(api.RMeta, "a", 0), scan(""), {Kind: api.FReset}} {
		d, other := begin(t, 1, 256), begin(t, 1, 256)
		late := d.next(f)
		d.s.Take(late)
		for _, wiped := range []bool{false, true} {
			if wiped {
				d.s.Wipe()
				other.s.Wipe()
				silent(t, d.s, late)
			}
			for _, s := range []*slot.Slot{d.s, other.s} {
				inc := s.Inc() + 1
				takes(t, s, reset(inc, 50), api.Frame{Kind: api.FAnswer, Slot: own, Inc: inc, Rid: 50})
				for i, g := range []api.Frame{put(api.RMeta, "a", 5, "x"), put(api.RPart, "a", 5, "y")} {
					g.Slot, g.Inc, g.Rid = own, inc, 60+i
					takes(t, s, g, answer(g, 5, ""))
				}
			}
			late.Floor = 99
			silent(t, d.s, late)
			late.Floor = 0
			silent(t, d.s, late)
			same(t, d.s, other.s, 70)
		}
	}
}

// plain is the promises of the chapter, written word by word; what was done is a map here.
type plain struct {
	pages, page, inc, floor int
	on                      bool
	store                   *item.Store
	done                    map[int]api.Frame
}

func (p *plain) wipe() {
	p.on, p.floor, p.done = false, 0, map[int]api.Frame{}
	p.store, _ = item.New(p.pages, p.page)
}

// stored is the key in the store of what f is about.
func stored(f api.Frame) string {
	if f.Role == api.RMeta {
		return "m" + f.Key
	}
	return "p" + string(pack.Num(nil, f.Version)) + f.Key
}

func (p *plain) take(f api.Frame) (api.Frame, bool) {
	if !wire.Right(f) || f.Kind == api.FAnswer || f.Kind == api.FRefused || f.Slot != own {
		return api.Frame{}, false
	}
	if f.Kind == api.FReset {
		if f.Inc > p.inc {
			p.wipe()
			p.inc, p.on = f.Inc, true
		}
		if p.on && p.inc == f.Inc {
			return api.Frame{Kind: api.FAnswer, Slot: own, Inc: p.inc, Rid: f.Rid}, true
		}
		return api.Frame{}, false
	}
	if !p.on || f.Inc != p.inc || f.Rid < p.floor {
		return api.Frame{}, false
	}
	p.floor = max(p.floor, f.Floor)
	for rid := range p.done {
		if rid < p.floor {
			delete(p.done, rid)
		}
	}
	if f.Rid < p.floor {
		return api.Frame{}, false
	}
	if _, was := p.done[f.Rid]; !was {
		p.done[f.Rid] = p.do(f)
	}
	return p.done[f.Rid], true
}

func (p *plain) do(f api.Frame) api.Frame {
	a := api.Frame{Kind: api.FAnswer, Slot: own, Inc: p.inc, Rid: f.Rid, Role: f.Role, Key: f.Key}
	if f.Kind == api.FScan {
		l := p.store.Keys()
		l = slices.DeleteFunc(l, func(key string) bool { return key[0] != 'm' || key[1:] <= f.Key })
		for i := range l {
			l[i] = l[i][1:]
		}
		slices.Sort(l)
		a.Data = texts(l[:min(16, len(l))]...)
		return a
	}
	text, there := p.store.Get(stored(f))
	r := pack.Read([]byte(text))
	version := r.Num()
	switch {
	case f.Kind == api.FGet && there:
		a.Version, a.Data = version, text[r.At():]
	case f.Kind == api.FPut && there && version > f.Version:
		a.Version = version
	case f.Kind == api.FPut:
		if _, e := p.store.Put(stored(f), string(pack.Num(nil, f.Version))+f.Data, false); e != api.OK {
			return api.Frame{Kind: api.FRefused, Slot: own, Inc: p.inc, Rid: f.Rid}
		}
		a.Version = f.Version
	case f.Kind == api.FDrop:
		if there && version <= f.Version {
			p.store.Drop(stored(f))
		}
		a.Version = f.Version
	}
	return a
}

// anyFrame is a frame of few keys and versions, with a Rid near rid, so that they meet.
func anyFrame(roll func(n int) int, rid, inc int) api.Frame {
	f := api.Frame{Kind: api.FPut + roll(4), Slot: own, Inc: inc, Rid: max(0, rid-roll(3)*roll(12)), Role: 1 + roll(2),
		Key: []string{"", "a", "b", "\xff", "key"}[roll(5)], Version: roll(6)}
	if f.Kind == api.FPut {
		f.Data = strings.Repeat("d", roll(140))
	}
	if roll(6) == 0 {
		f.Floor = max(0, rid-20+roll(22))
	}
	if roll(30) == 0 {
		f.Inc += roll(3) - 1
	}
	if roll(60) == 0 {
		f.Kind = roll(9)
	}
	if roll(80) == 0 {
		f.Slot = roll(14) - 1
	}
	if f.Kind >= api.FScan && roll(9) > 0 {
		f.Role = 0
	}
	if f.Kind == api.FReset {
		f.Inc = max(0, inc+roll(4)-2)
	}
	return f
}

// what tells in few letters what became of a frame, so that all ways are met.
func what(f, a api.Frame, ok, was bool) string {
	if !ok {
		return fmt.Sprint(f.Kind, " nothing")
	}
	return fmt.Sprint(f.Kind, " ", a.Kind, map[bool]string{true: " again"}[was])
}

// Many frames, some of which come again, late or for others, with wipes on the way, held against the plain writing.
func TestManyFrames(t *testing.T) {
	met := map[string]int{}
	for seed := range uint64(300) {
		roll := chance(seed + 1)
		s, p := unbegun(t, own, 2, 256), &plain{pages: 2, page: 256}
		p.wipe()
		var sent []api.Frame
		for rid := range 250 {
			f := anyFrame(roll, rid, p.inc)
			switch {
			case roll(3) == 0 && len(sent) > 0:
				f = sent[max(0, len(sent)-1-roll(30))]
			case !p.on && roll(2) == 0:
				f = reset(p.inc+1, rid)
			case roll(90) == 0:
				s.Wipe()
				p.wipe()
			}
			sent = append(sent, f)
			_, was := p.done[f.Rid]
			want, there := p.take(f)
			got, ok := s.Take(f)
			used, left := p.store.Pages()
			if got != want || ok != there {
				t.Fatalf("seed %d: Take(%s) = %s, %v, not %s, %v", seed, brief(f), brief(got), ok, brief(want), there)
			}
			if is(t, s, p.on, p.inc, p.store.Len(), used, left); t.Failed() {
				t.Fatalf("seed %d: behind %s", seed, brief(f))
			}
			met[what(f, got, ok, was)]++
		}
	}
	for _, way := range []string{"0 nothing", "1 nothing", "1 6", "1 6 again", "1 7", "1 7 again", "2 nothing", "2 6", "2 6 again",
		"3 nothing", "3 6", "3 6 again", "4 nothing", "4 6", "4 6 again", "5 nothing", "5 6", "6 nothing", "7 nothing", "8 nothing"} {
		if met[way] < 20 {
			t.Error("kind, and kind of the answer", way, "were met", met[way], "times")
		}
	}
}

// R4: the same frames are answered the same.
func TestTheSameFramesAreAnsweredTheSame(t *testing.T) {
	play := func() string {
		roll, d, told := chance(9), begin(t, 2, 256), ""
		for rid := range 400 {
			got, ok := d.s.Take(anyFrame(roll, rid, d.s.Inc()))
			told += fmt.Sprint(got, ok, seen(d.s))
		}
		return told
	}
	want := play()
	for range 5 {
		if play() != want {
			t.Error("not the same")
		}
	}
}
