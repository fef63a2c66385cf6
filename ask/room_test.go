package ask

import (
	"strings"
	"testing"
	"unsafe"

	"depot/api"
)

// The greatest number that a right frame may have is used, the one past it is none. So many requests are more than a test can begin.
func TestTheGreatestNumber(t *testing.T) {
	a := New()
	a.next = api.MaxRid - 1
	var l []api.Frame
	for _, rid := range []int{api.MaxRid - 1, api.MaxRid} {
		f, ok := a.Begin(api.Frame{Kind: api.FScan, Slot: 3})
		if want := (api.Frame{Kind: api.FScan, Slot: 3, Rid: rid, Floor: api.MaxRid - 1}); f != want || !ok {
			t.Fatalf("%v, %v, not %v", f, ok, want)
		}
		l = append(l, f)
	}
	for range 3 {
		if f, ok := a.Begin(api.Frame{Kind: api.FScan, Slot: 3}); f != (api.Frame{}) || ok || len(a.List()) != 2 {
			t.Fatalf("past the greatest number: %v, %v, %v", f, ok, a.List())
		}
	}
	for _, want := range l {
		if f, ok := a.Answer(api.Frame{Kind: api.FAnswer, Slot: 3, Rid: want.Rid}); f != want || !ok {
			t.Fatalf("%v, %v, not %v", f, ok, want)
		}
	}
	if f, ok := a.Begin(api.Frame{Kind: api.FReset}); f != (api.Frame{}) || ok || len(a.List()) != 0 {
		t.Fatalf("with none under way: %v, %v, %v", f, ok, a.List())
	}
}

// What is kept can be seen from within alone: of requests that are no longer under way, nothing is.
func TestNothingIsKeptOfThoseThatAreOver(t *testing.T) {
	a := New()
	for i := range 2000 {
		f, _ := a.Begin(api.Frame{Kind: api.FPut, Slot: i % 3, Role: api.RPart, Key: "key", Data: "data"})
		// Each one but every tenth is answered, some of them later than those behind them.
		if i%10 > 0 {
			a.Answer(api.Frame{Kind: api.FAnswer, Slot: f.Slot, Rid: max(1, f.Rid-i%7)})
		}
		if i%100 == 99 {
			a.Cancel(i % 2)
		}
		tidy(t, a)
	}
	for _, f := range a.List() {
		a.Answer(api.Frame{Kind: api.FRefused, Slot: f.Slot, Rid: f.Rid})
		tidy(t, a)
	}
	for slot, l := range a.under {
		if len(l) != 0 || cap(l) > 1000 {
			t.Errorf("slot %d: %d under way, room for %d", slot, len(l), cap(l))
		}
	}
}

// tidy fails if the numbers to a slot don't rise, or anything stands behind those under way.
func tidy(t *testing.T, a *Asks) {
	t.Helper()
	for slot, l := range a.under {
		last := 0
		for _, r := range l {
			if r.sent.Slot != slot || r.sent.Rid <= last || r.sent.Rid >= a.next {
				t.Fatalf("slot %d: %v behind %d", slot, r.sent, last)
			}
			last = r.sent.Rid
		}
		for _, r := range l[len(l):cap(l)] {
			if r != nil {
				t.Fatalf("slot %d: the room behind keeps %v", slot, r.sent)
			}
		}
	}
}

// A request's texts don't keep longer ones, of which they were pieces, in memory.
func TestTextsArePiecesOfNoOthers(t *testing.T) {
	long := strings.Repeat("x", 1<<16)
	f := api.Frame{Kind: api.FPut, Slot: 1, Role: api.RMeta, Key: long[10:20], Data: long[30:90]}
	a := New()
	got, _ := a.Begin(f)
	for _, c := range []struct{ kept, given string }{{a.List()[0].Key, f.Key}, {a.List()[0].Data, f.Data}, {got.Key, f.Key}, {got.Data, f.Data}} {
		if c.kept != c.given || unsafe.StringData(c.kept) == unsafe.StringData(c.given) {
			t.Errorf("%q is a piece of what was handed in", c.kept)
		}
	}
}
