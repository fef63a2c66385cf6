package slot

import (
	"slices"
	"strings"
	"testing"

	"depot/api"
)

// What is kept can be seen from within alone: of requests below the floor, nothing is.
func TestNothingIsKeptOfThoseBelowTheFloor(t *testing.T) {
	s, _ := New(3, 2, 256)
	s.Take(api.Frame{Kind: api.FReset, Slot: 3, Inc: 1})
	for i := range 3000 {
		// Of three, two come in the other order.
		rid := i
		switch i % 3 {
		case 1:
			rid++
		case 2:
			rid--
		}
		f := api.Frame{Kind: api.FPut, Slot: 3, Inc: 1, Rid: rid, Role: api.RMeta, Key: "key", Version: 1, Data: "data"}
		if i%50 == 0 {
			f.Floor = i - 20
		}
		f.Floor = max(f.Floor, 0)
		before := s.done
		if a, ok := s.Take(f); !ok || a.Kind != api.FAnswer {
			t.Fatalf("Take of %d = %v, %v", rid, a, ok)
		}
		tidy(t, s)
		for _, a := range before {
			if a != (api.Frame{}) && a.Rid < s.floor {
				t.Fatalf("%d stays in memory below the floor %d", a.Rid, s.floor)
			}
		}
	}
	if len(s.done) > 71 || cap(s.done) > 1000 {
		t.Errorf("%d were done, room for %d", len(s.done), cap(s.done))
	}
	s.Take(api.Frame{Kind: api.FScan, Slot: 3, Inc: 1, Rid: 4000, Floor: 5000})
	if tidy(t, s); len(s.done) != 0 {
		t.Errorf("%d below the floor", len(s.done))
	}
	s.Take(api.Frame{Kind: api.FScan, Slot: 3, Inc: 1, Rid: 5000})
	if s.Wipe(); len(s.done) != 0 || cap(s.done) != 0 || s.floor != 0 {
		t.Errorf("wiped: %d, room for %d, floor %d", len(s.done), cap(s.done), s.floor)
	}
}

// tidy fails if what was done doesn't rise from the floor on, or stands twice, or if
// anything stands behind it.
func tidy(t *testing.T, s *Slot) {
	t.Helper()
	least := s.floor
	for _, a := range s.done {
		if a.Rid < least {
			t.Fatalf("%d stands where %d or more must", a.Rid, least)
		}
		least = a.Rid + 1
	}
	for _, a := range s.done[len(s.done):cap(s.done)] {
		if a != (api.Frame{}) {
			t.Fatalf("the room behind keeps %v", a)
		}
	}
}

// Under which keys things stand, and as which texts.
func TestWhatStandsInTheStore(t *testing.T) {
	s, _ := New(3, 2, 256)
	s.Take(api.Frame{Kind: api.FReset, Slot: 3, Inc: 1})
	want := map[string]string{"mkey": "\x0adata", "m": "\x00", "p\x0akey": "\x0apart", "p\x80\x01": "\x80\x01\xff", "p\x00m\x80": "\x00"}
	for i, f := range []api.Frame{{Role: api.RMeta, Key: "key", Version: 5, Data: "data"}, {Role: api.RMeta},
		{Role: api.RPart, Key: "key", Version: 5, Data: "part"}, {Role: api.RPart, Version: 64, Data: "\xff"}, {Role: api.RPart, Key: "m\x80"}} {
		f.Kind, f.Slot, f.Inc, f.Rid = api.FPut, 3, 1, i
		s.Take(f)
	}
	for _, key := range s.store.Keys() {
		if text, _ := s.store.Peek(key); text != want[key] || strings.TrimLeft(key, "mp") == key {
			t.Errorf("under %q stands %q, not %q", key, text, want[key])
		}
		delete(want, key)
	}
	if len(want) > 0 {
		t.Errorf("nothing stands under %v", want)
	}
}

// The requests that were done are found at their places, and those that weren't where they are to stand.
func TestFind(t *testing.T) {
	s := &Slot{}
	var rids []int
	for rid := 2; rid < 40; rid += 3 {
		for asked := range 45 {
			want, was := slices.BinarySearch(rids, asked)
			if at, is := s.find(asked); at != want || is != was {
				t.Fatalf("find(%d) of %v = %d, %v, not %d, %v", asked, rids, at, is, want, was)
			}
		}
		rids = append(rids, rid)
		s.done = append(s.done, api.Frame{Rid: rid})
	}
}
