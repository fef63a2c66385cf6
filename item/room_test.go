package item

import (
	"strconv"
	"testing"

	"depot/api"
)

// What is kept can be seen from within alone: places of entries that went are taken anew,
// and no text stays in the slab without an entry.
func TestNothingIsKeptOfThoseThatWent(t *testing.T) {
	s, _ := New(2, 256)
	ends := len(s.entries)
	for i := range 5000 {
		s.Put(strconv.Itoa(i), "", i%1000 == 0)
		switch i % 7 {
		case 2:
			s.Drop(strconv.Itoa(i))
		case 4:
			s.Put(strconv.Itoa(i), string(make([]byte, 300)), false)
		case 5:
			s.Put(strconv.Itoa(i), string(make([]byte, 200)), false)
		}
		if s.slab.Live() != s.Len() || len(s.entries) != ends+s.Len()+len(s.spare) {
			t.Fatalf("%d items, %d live chunks, %d places, %d of them spare", s.Len(), s.slab.Live(), len(s.entries), len(s.spare))
		}
	}
	for _, key := range s.Keys() {
		s.Drop(key)
	}
	for at, e := range s.entries[ends:] {
		if e != (entry{}) {
			t.Errorf("place %d keeps %q", ends+at, e.key)
		}
	}
	if most := ends + 2*256/api.MinChunk; len(s.entries) <= ends || len(s.entries) > most {
		t.Errorf("%d places, not some more than %d, %d at most", len(s.entries), ends, most)
	}
}
