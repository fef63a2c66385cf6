package item_test

import (
	"fmt"
	"math"
	"slices"
	"strconv"
	"strings"
	"testing"

	"depot/api"
	"depot/item"
	"depot/slab"
)

// begin is a new store.
func begin(t *testing.T, pages, page int) *item.Store {
	t.Helper()
	s, e := item.New(pages, page)
	if s == nil || e != api.OK {
		t.Fatalf("New(%d, %d): %d", pages, page, e)
	}
	return s
}

// of is a text of n bytes that differs from those of other marks.
func of(n, mark int) string {
	b := make([]byte, n)
	for i := range b {
		b[i] = byte(i*7 + mark*31 + mark>>8)
	}
	return string(b)
}

// stores fails if Put of the key isn't done, or others went for it.
func stores(t *testing.T, s *item.Store, key, data string, pin bool, went ...string) {
	t.Helper()
	if got, e := s.Put(key, data, pin); e != api.OK || !slices.Equal(got, went) {
		t.Fatalf("Put(%q, %d bytes, %v) = %q, %d, not %q", key, len(data), pin, got, e, went)
	}
	peeks(t, s, key, data)
	if keys := s.Keys(); len(keys) == 0 || keys[0] != key {
		t.Fatalf("Put(%q): Keys = %q", key, keys)
	}
}

// refuses fails if Put of the key isn't refused so, or any went for it.
func refuses(t *testing.T, s *item.Store, key, data string, want api.Errno) {
	t.Helper()
	for _, pin := range []bool{false, true} {
		if got, e := s.Put(key, data, pin); e != want || len(got) != 0 {
			t.Fatalf("Put(%q, %d bytes, %v) = %q, %d, not %d", key, len(data), pin, got, e, want)
		}
	}
	lacks(t, s, key)
}

// gets fails if Get doesn't tell that of the key.
func gets(t *testing.T, s *item.Store, key, data string) {
	t.Helper()
	if got, ok := s.Get(key); got != data || !ok {
		t.Fatalf("Get(%q) = %q, %v, not %q, true", key, got, ok, data)
	}
}

// peeks fails if Peek doesn't tell that of the key.
func peeks(t *testing.T, s *item.Store, key, data string) {
	t.Helper()
	if got, ok := s.Peek(key); got != data || !ok {
		t.Fatalf("Peek(%q) = %q, %v, not %q, true", key, got, ok, data)
	}
}

// lacks fails if any call says that the key is there, or changes anything by asking.
func lacks(t *testing.T, s *item.Store, key string) {
	t.Helper()
	before := s.Keys()
	used, left := s.Pages()
	if got, ok := s.Get(key); got != "" || ok {
		t.Fatalf("Get(%q) = %q, %v", key, got, ok)
	}
	if got, ok := s.Peek(key); got != "" || ok {
		t.Fatalf("Peek(%q) = %q, %v", key, got, ok)
	}
	if s.Pin(key, true) || s.Pin(key, false) {
		t.Fatalf("Pin(%q) is true", key)
	}
	if s.Drop(key) {
		t.Fatalf("Drop(%q) is true", key)
	}
	is(t, s, used, left, before...)
}

// pins fails if Pin of the keys isn't true.
func pins(t *testing.T, s *item.Store, pin bool, keys ...string) {
	t.Helper()
	for _, key := range keys {
		if !s.Pin(key, pin) {
			t.Fatalf("Pin(%q, %v) is false", key, pin)
		}
	}
}

// drops fails if Drop of the key isn't true, or leaves it there.
func drops(t *testing.T, s *item.Store, key string) {
	t.Helper()
	if !s.Drop(key) {
		t.Fatalf("Drop(%q) is false", key)
	}
	lacks(t, s, key)
}

// is fails if Pages, Len and Keys tell anything else.
func is(t *testing.T, s *item.Store, used, left int, keys ...string) {
	t.Helper()
	if got := s.Keys(); !slices.Equal(got, keys) {
		t.Fatalf("Keys = %q, not %q", got, keys)
	}
	if got := s.Len(); got != len(keys) {
		t.Fatalf("Len = %d, not %d", got, len(keys))
	}
	if u, l := s.Pages(); u != used || l != left {
		t.Fatalf("Pages = %d, %d, not %d, %d", u, l, used, left)
	}
}

// P7.1

func TestNewRefuses(t *testing.T) {
	odd := []int{math.MinInt, math.MinInt32, -1 << 32, -64, -1, 0, 1 << 20, 1<<32 + 1, math.MaxInt32, math.MaxInt}
	for _, pages := range append(odd, api.MaxPages+1, 256+1) {
		for _, page := range append(odd, 1, api.MinChunk, 128, api.MaxPage) {
			if s, e := item.New(pages, page); s != nil || e != api.ErrArg {
				t.Errorf("New(%d, %d): %d", pages, page, e)
			}
		}
	}
	for _, page := range append(odd, 1, api.MinChunk-1, api.MaxPage+1, 2*api.MaxPage) {
		for _, pages := range []int{1, 2, api.MaxPages} {
			if s, e := item.New(pages, page); s != nil || e != api.ErrArg {
				t.Errorf("New(%d, %d): %d", pages, page, e)
			}
		}
	}
}

func TestNewRefusesWhatSlabDoes(t *testing.T) {
	for pages := -1; pages <= api.MaxPages+2; pages++ {
		for _, page := range []int{-1, 0, 63, 64, 65, 1000, api.MaxPage - 1, api.MaxPage, api.MaxPage + 1} {
			_, want := slab.New(pages, page)
			if s, e := item.New(pages, page); e != want || (s == nil) != (e != api.OK) {
				t.Errorf("New(%d, %d): %d, not %d", pages, page, e, want)
			}
		}
	}
}

func TestNewHasNothing(t *testing.T) {
	for _, pages := range []int{1, 2, 63, api.MaxPages} {
		for _, page := range []int{api.MinChunk, api.MinChunk + 1, 100, 128, 1000, api.MaxPage} {
			s := begin(t, pages, page)
			is(t, s, 0, pages)
			lacks(t, s, "")
			lacks(t, s, "a")
			lacks(t, s, strings.Repeat("k", api.MaxKey))
			is(t, s, 0, pages)
			refuses(t, s, "a", of(page, 1), api.ErrLong)
			is(t, s, 0, pages)
		}
	}
}

func TestStoresAreApart(t *testing.T) {
	a, b := begin(t, 1, 128), begin(t, 1, 128)
	stores(t, a, "k", "of a", false)
	is(t, b, 0, 1)
	stores(t, b, "k", "of b", false)
	stores(t, b, "l", "of b", false)
	is(t, a, 1, 0, "k")
	peeks(t, a, "k", "of a")
	drops(t, a, "k")
	is(t, b, 1, 0, "l", "k")
	peeks(t, b, "k", "of b")
}

func TestKeysLenAndPagesBehindEachCall(t *testing.T) {
	s := begin(t, 3, 256)
	stores(t, s, "a", "1", false)
	is(t, s, 1, 2, "a")
	stores(t, s, "b", of(100, 1), false)
	is(t, s, 2, 1, "b", "a")
	stores(t, s, "c", "3", true)
	is(t, s, 2, 1, "c", "b", "a")
	gets(t, s, "a", "1")
	is(t, s, 2, 1, "a", "c", "b")
	gets(t, s, "a", "1")
	is(t, s, 2, 1, "a", "c", "b")
	gets(t, s, "c", "3")
	is(t, s, 2, 1, "c", "a", "b")
	stores(t, s, "b", of(200, 2), false)
	is(t, s, 3, 0, "b", "c", "a")
	drops(t, s, "c")
	is(t, s, 3, 0, "b", "a")
	// A page stays with its class, though nothing stands in it.
	drops(t, s, "b")
	is(t, s, 3, 0, "a")
	drops(t, s, "a")
	is(t, s, 3, 0)
	stores(t, s, "d", of(200, 3), false)
	is(t, s, 3, 0, "d")
	stores(t, s, "e", of(200, 4), false, "d")
	is(t, s, 3, 0, "e")
}

func TestKeysAreNewMemory(t *testing.T) {
	s := begin(t, 1, 256)
	for _, key := range []string{"a", "b", "c"} {
		stores(t, s, key, key, false)
	}
	first, second := s.Keys(), s.Keys()
	first = first[:cap(first)]
	for i := range first {
		first[i] = "x"
	}
	if !slices.Equal(second, []string{"c", "b", "a"}) {
		t.Errorf("Keys = %q, when another answer was written into", second)
	}
	is(t, s, 1, 0, "c", "b", "a")
	gets(t, s, "a", "a")
	is(t, s, 1, 0, "a", "c", "b")
}

// P7.2

func TestPutOfMany(t *testing.T) {
	s := begin(t, api.MaxPages, api.MaxPage)
	most := api.MaxPages * (api.MaxPage / api.MinChunk)
	for i := range most {
		if got, e := s.Put(strconv.Itoa(i), of(i%40, i), false); len(got) != 0 || e != api.OK {
			t.Fatalf("Put %d = %q, %d", i, got, e)
		}
	}
	if u, l := s.Pages(); s.Len() != most || u != api.MaxPages || l != 0 {
		t.Fatalf("Len = %d, Pages = %d, %d", s.Len(), u, l)
	}
	refuses(t, s, "big", of(100, 1), api.ErrFull)
	keys := s.Keys()
	for i := range most {
		if keys[most-1-i] != strconv.Itoa(i) {
			t.Fatalf("Keys: %q at %d", keys[most-1-i], most-1-i)
		}
		peeks(t, s, strconv.Itoa(i), of(i%40, i))
	}
	for i := range most {
		key := strconv.Itoa(i)
		if got, e := s.Put("new "+key, "", false); !slices.Equal(got, []string{key}) || e != api.OK {
			t.Fatalf("Put(new %d) = %q, %d", i, got, e)
		}
	}
	if s.Len() != most {
		t.Errorf("Len = %d", s.Len())
	}
}

func TestPutOfTheLargest(t *testing.T) {
	s := begin(t, api.MaxPages, api.MaxPage)
	key := strings.Repeat("k", api.MaxKey)
	var keys []string
	for i := range api.MaxPages {
		stores(t, s, key+strconv.Itoa(100+i), of(api.MaxPage-api.MaxKey-3, i), false)
		keys = slices.Insert(keys, 0, key+strconv.Itoa(100+i))
		is(t, s, i+1, api.MaxPages-i-1, keys...)
	}
	stores(t, s, "more", of(api.MaxPage-4, 7), false, key+"100")
	refuses(t, s, "more", of(api.MaxPage-3, 7), api.ErrLong)
	refuses(t, s, "much more", of(api.MaxValue, 7), api.ErrLong)
	refuses(t, s, of(api.MaxValue, 7), "", api.ErrLong)
	is(t, s, api.MaxPages, 0, keys[:api.MaxPages-1]...)
	stores(t, s, "again", of(api.MaxPage-5, 8), false)
}

func TestPutAtEachClassEdge(t *testing.T) {
	const page = 600
	for _, size := range []int{64, 128, 256, 512} {
		for _, key := range []string{"", "k", strings.Repeat("k", 30), strings.Repeat("k", 64)} {
			s := begin(t, 1, page)
			// The page's chunks are all of this class: so many fit, and one more goes for one.
			fit := page / size
			stores(t, s, key, of(size-len(key), 1), false)
			for i := 1; i < fit; i++ {
				stores(t, s, strconv.Itoa(i), of(size-len(strconv.Itoa(i)), i), false)
			}
			if got := s.Len(); got != fit {
				t.Errorf("%d of %d bytes: Len = %d", fit, size, got)
			}
			peeks(t, s, key, of(size-len(key), 1))
			stores(t, s, "x", of(size-1, 9), false, key)
			if size == 512 {
				refuses(t, s, key, of(size-len(key)+1, 2), api.ErrLong)
				refuses(t, s, "y", of(size, 2), api.ErrLong)
			} else {
				refuses(t, s, key, of(size-len(key)+1, 2), api.ErrFull)
				refuses(t, s, "y", of(size, 2), api.ErrFull)
			}
			if got := s.Len(); got != fit {
				t.Errorf("%d of %d bytes: Len = %d behind refusals", fit, size, got)
			}
		}
	}
}

func TestPutCountsKeyAndData(t *testing.T) {
	for _, c := range []struct {
		key, data int
		want      api.Errno
	}{
		{0, 128, api.OK}, {1, 127, api.OK}, {64, 64, api.OK}, {128, 0, api.OK},
		{0, 129, api.ErrLong}, {1, 128, api.ErrLong}, {65, 64, api.ErrLong}, {129, 0, api.ErrLong}, {128, 128, api.ErrLong},
	} {
		s := begin(t, 1, 128)
		key, data := strings.Repeat("k", c.key), of(c.data, 3)
		if c.want == api.OK {
			stores(t, s, key, data, false)
			gets(t, s, key, data)
			is(t, s, 1, 0, key)
		} else {
			refuses(t, s, key, data, c.want)
			is(t, s, 0, 1)
		}
	}
}

func TestPutOfMoreThanTheGreatestClass(t *testing.T) {
	// The page has more bytes than its greatest class: 256.
	s := begin(t, 1, 300)
	for _, n := range []int{256, 298, 299, 300, 301, api.MaxPage, api.MaxValue} {
		refuses(t, s, "a", of(n, 1), api.ErrLong)
		is(t, s, 0, 1)
	}
	stores(t, s, "a", of(255, 1), true)
	is(t, s, 1, 0, "a")
	// There is no room either: but ErrLong is asked first.
	refuses(t, s, "b", of(256, 1), api.ErrLong)
	refuses(t, s, "b", of(255, 1), api.ErrFull)
	is(t, s, 1, 0, "a")
}

func TestPutOfNothing(t *testing.T) {
	s := begin(t, 1, 128)
	stores(t, s, "", "", false)
	is(t, s, 1, 0, "")
	gets(t, s, "", "")
	stores(t, s, "a", "", false)
	is(t, s, 1, 0, "a", "")
	pins(t, s, true, "")
	stores(t, s, "b", "", false, "a")
	is(t, s, 1, 0, "b", "")
	pins(t, s, false, "")
	stores(t, s, "c", "", false, "")
	is(t, s, 1, 0, "c", "b")
	lacks(t, s, "")
	stores(t, s, "", "data", false, "b")
	gets(t, s, "", "data")
	drops(t, s, "")
	is(t, s, 1, 0, "c")
}

func TestTheOldestGoes(t *testing.T) {
	// Four chunks: each touching puts off a key's going.
	s := begin(t, 1, 256)
	for _, key := range []string{"a", "b", "c", "d"} {
		stores(t, s, key, key, false)
	}
	gets(t, s, "b", "b")
	gets(t, s, "a", "a")
	is(t, s, 1, 0, "a", "b", "d", "c")
	stores(t, s, "e", "", false, "c")
	stores(t, s, "f", "", false, "d")
	stores(t, s, "g", "", false, "b")
	stores(t, s, "h", "", false, "a")
	is(t, s, 1, 0, "h", "g", "f", "e")
	for _, key := range []string{"a", "b", "c", "d"} {
		lacks(t, s, key)
	}
	// One that went comes anew.
	stores(t, s, "a", "again", false, "e")
	gets(t, s, "a", "again")
	is(t, s, 1, 0, "a", "h", "g", "f")
}

func TestNoneGoesWhileThereIsRoom(t *testing.T) {
	s := begin(t, 2, 128)
	stores(t, s, "a", "", false)
	stores(t, s, "b", "", false)
	is(t, s, 1, 1, "b", "a")
	// A page is left: it is taken ahead of any that would go.
	stores(t, s, "c", "", false)
	is(t, s, 2, 0, "c", "b", "a")
	stores(t, s, "d", "", false)
	stores(t, s, "e", "", false, "a")
	drops(t, s, "c")
	stores(t, s, "f", "", false)
	is(t, s, 2, 0, "f", "e", "d", "b")
}

func TestItemsOfOtherClassesStay(t *testing.T) {
	s := begin(t, 3, 256)
	stores(t, s, "large", of(200, 1), false)
	stores(t, s, "middle", of(100, 2), false)
	for _, key := range []string{"a", "b", "c", "d"} {
		stores(t, s, key, key, false)
	}
	is(t, s, 3, 0, "d", "c", "b", "a", "middle", "large")
	// Though the others were touched longer ago.
	stores(t, s, "e", "", false, "a")
	is(t, s, 3, 0, "e", "d", "c", "b", "middle", "large")
	stores(t, s, "large too", of(200, 3), false, "large")
	is(t, s, 3, 0, "large too", "e", "d", "c", "b", "middle")
	stores(t, s, "middle too", of(100, 4), false)
	stores(t, s, "third", of(100, 5), false, "middle")
	is(t, s, 3, 0, "third", "middle too", "large too", "e", "d", "c", "b")
	peeks(t, s, "large too", of(200, 3))
	peeks(t, s, "middle too", of(100, 4))
	// Where all of a class are pinned, none of another one goes for it.
	pins(t, s, true, "large too")
	refuses(t, s, "large", of(200, 6), api.ErrFull)
	is(t, s, 3, 0, "third", "middle too", "large too", "e", "d", "c", "b")
}

func TestFullWhereThereIsNoneOfThatClass(t *testing.T) {
	s := begin(t, 2, 256)
	stores(t, s, "a", "1", false)
	stores(t, s, "b", of(200, 1), false)
	refuses(t, s, "c", of(100, 2), api.ErrFull)
	is(t, s, 2, 0, "b", "a")
	// The other classes' pages stay theirs, though they are empty.
	drops(t, s, "a")
	drops(t, s, "b")
	refuses(t, s, "c", of(100, 2), api.ErrFull)
	is(t, s, 2, 0)
	stores(t, s, "c", of(128, 2), false)
	is(t, s, 2, 0, "c")
}

func TestFullWhereAllArePinned(t *testing.T) {
	s := begin(t, 1, 256)
	for _, key := range []string{"a", "b", "c", "d"} {
		stores(t, s, key, "of "+key, true)
	}
	refuses(t, s, "e", "", api.ErrFull)
	is(t, s, 1, 0, "d", "c", "b", "a")
	for _, key := range []string{"c", "a", "d", "b"} {
		peeks(t, s, key, "of "+key)
	}
	// Each one of them is the only one that may go.
	for _, key := range []string{"a", "b", "c", "d"} {
		pins(t, s, false, key)
		stores(t, s, "e", "", false, key)
		refuses(t, s, key, of(100, 1), api.ErrFull)
		stores(t, s, key, "of "+key, true, "e")
	}
	is(t, s, 1, 0, "d", "c", "b", "a")
}

func TestPutOfOneThatIsThere(t *testing.T) {
	s := begin(t, 1, 128)
	stores(t, s, "a", "1", false)
	stores(t, s, "b", "2", false)
	// Its elder item makes room: no other one goes, and it isn't told.
	stores(t, s, "a", "3", false)
	is(t, s, 1, 0, "a", "b")
	stores(t, s, "a", "", false)
	is(t, s, 1, 0, "a", "b")
	stores(t, s, "b", of(63, 1), false)
	is(t, s, 1, 0, "b", "a")
	pins(t, s, true, "a")
	stores(t, s, "b", "4", true)
	stores(t, s, "a", "5", true)
	is(t, s, 1, 0, "a", "b")
	refuses(t, s, "c", "", api.ErrFull)
}

func TestPutOfOneThatIsThereInAnotherClass(t *testing.T) {
	s := begin(t, 3, 128)
	stores(t, s, "a", "1", false)
	stores(t, s, "b", of(100, 1), false)
	stores(t, s, "c", of(100, 2), false)
	is(t, s, 3, 0, "c", "b", "a")
	// Another one of the new class goes; the elder item's chunk is free.
	stores(t, s, "a", of(100, 3), false, "b")
	is(t, s, 3, 0, "a", "c")
	stores(t, s, "d", "4", false)
	stores(t, s, "e", "5", false)
	is(t, s, 3, 0, "e", "d", "a", "c")
	stores(t, s, "f", "6", false, "d")
	stores(t, s, "c", "7", false, "e")
	is(t, s, 3, 0, "c", "f", "a")
	stores(t, s, "g", of(100, 4), false)
	is(t, s, 3, 0, "g", "c", "f", "a")
	peeks(t, s, "a", of(100, 3))
	peeks(t, s, "c", "7")
}

func TestTheElderGoesBesideAnError(t *testing.T) {
	for _, pin := range []bool{false, true} {
		s := begin(t, 1, 128)
		stores(t, s, "a", "1", pin)
		stores(t, s, "b", "2", pin)
		refuses(t, s, "a", of(128, 1), api.ErrLong)
		is(t, s, 1, 0, "b")
		lacks(t, s, "a")
		stores(t, s, "c", "3", pin)
		is(t, s, 1, 0, "c", "b")
		// All chunks are of the lesser class.
		refuses(t, s, "b", of(100, 1), api.ErrFull)
		is(t, s, 1, 0, "c")
		lacks(t, s, "b")
		stores(t, s, "d", "4", pin)
		is(t, s, 1, 0, "d", "c")
	}
}

func TestTheElderGoesBesideFullOfPinned(t *testing.T) {
	s := begin(t, 2, 128)
	stores(t, s, "a", "1", true)
	stores(t, s, "b", of(100, 2), true)
	refuses(t, s, "a", of(100, 3), api.ErrFull)
	is(t, s, 2, 0, "b")
	peeks(t, s, "b", of(100, 2))
	stores(t, s, "a", "4", false)
	is(t, s, 2, 0, "a", "b")
}

func TestTheKeysThatWentAreNewMemory(t *testing.T) {
	s := begin(t, 1, 64)
	stores(t, s, "a", "", false)
	first, _ := s.Put("b", "", false)
	second, _ := s.Put("c", "", false)
	if !slices.Equal(first, []string{"a"}) || !slices.Equal(second, []string{"b"}) {
		t.Fatalf("went %q, %q", first, second)
	}
	first = first[:cap(first)]
	for i := range first {
		first[i] = "x"
	}
	if !slices.Equal(second, []string{"b"}) {
		t.Errorf("went %q, when another answer was written into", second)
	}
	stores(t, s, "d", "", false, "c")
}

func TestPutTellsKeysInOrder(t *testing.T) {
	s := begin(t, 2, 512)
	var order []string
	for i := range 16 {
		order = append(order, "k"+strconv.Itoa(i))
		stores(t, s, order[i], of(i, i), false)
	}
	for i := range 100 {
		key := "n" + strconv.Itoa(i)
		stores(t, s, key, of(i%60, i), false, order[0])
		order = append(order[1:], key)
	}
	slices.Reverse(order)
	is(t, s, 2, 0, order...)
}

// P7.3

func TestGetTouches(t *testing.T) {
	for touched := range 4 {
		s := begin(t, 1, 256)
		names := []string{"a", "b", "c", "d"}
		for _, key := range names {
			stores(t, s, key, "of "+key, false)
		}
		key := names[touched]
		gets(t, s, key, "of "+key)
		order := append(slices.Delete(slices.Clone(names), touched, touched+1), key)
		// What isn't there is touched by nobody.
		lacks(t, s, "none")
		for i, key := range order {
			stores(t, s, "new "+key, "", false, order[i])
		}
	}
}

func TestPeekDoesNotTouch(t *testing.T) {
	for peeked := range 4 {
		s := begin(t, 1, 256)
		names := []string{"a", "b", "c", "d"}
		for _, key := range names {
			stores(t, s, key, "of "+key, false)
		}
		for range 3 {
			peeks(t, s, names[peeked], "of "+names[peeked])
		}
		is(t, s, 1, 0, "d", "c", "b", "a")
		for _, key := range names {
			stores(t, s, "new "+key, "", false, key)
		}
	}
}

func TestPinAndAPutThatFailsDoNotTouch(t *testing.T) {
	s := begin(t, 1, 256)
	for _, key := range []string{"a", "b", "c", "d"} {
		stores(t, s, key, "of "+key, false)
	}
	pins(t, s, true, "a", "b")
	is(t, s, 1, 0, "d", "c", "b", "a")
	pins(t, s, false, "b", "a", "c")
	is(t, s, 1, 0, "d", "c", "b", "a")
	refuses(t, s, "e", of(256, 1), api.ErrLong)
	refuses(t, s, "e", of(200, 1), api.ErrFull)
	is(t, s, 1, 0, "d", "c", "b", "a")
	stores(t, s, "e", "", false, "a")
	pins(t, s, true, "b", "c", "d", "e")
	refuses(t, s, "f", "", api.ErrFull)
	is(t, s, 1, 0, "e", "d", "c", "b")
	pins(t, s, false, "e", "b", "d", "c")
	stores(t, s, "f", "", false, "b")
	stores(t, s, "g", "", false, "c")
}

func TestGetAndPeekTellAnyBytes(t *testing.T) {
	s := begin(t, 16, 4096)
	texts := []string{"", "\x00", "\xff\xfe", "é", "a\r\nb", of(1000, 1), of(256, 5)}
	for i, key := range append(texts, "a", "ab", "a\x00") {
		for j, data := range texts {
			stores(t, s, key, data, (i+j)%2 == 0)
			gets(t, s, key, data)
			peeks(t, s, key, data)
		}
	}
}

func TestKeysAndDataAreNotMixed(t *testing.T) {
	// The same bytes stand in the slab, cut at each place.
	s := begin(t, 2, 1024)
	const text = "abcabcab"
	for cut := range len(text) + 1 {
		stores(t, s, text[:cut], text[cut:], false)
	}
	for cut := range len(text) + 1 {
		gets(t, s, text[:cut], text[cut:])
	}
	for cut := range len(text) + 1 {
		drops(t, s, text[:cut])
		for next := cut + 1; next <= len(text); next++ {
			peeks(t, s, text[:next], text[next:])
		}
	}
	is(t, s, 1, 1)
}

// P7.4

func TestPinKeeps(t *testing.T) {
	for pinned := range 4 {
		s := begin(t, 1, 256)
		names := []string{"a", "b", "c", "d"}
		for _, key := range names {
			stores(t, s, key, "of "+key, false)
		}
		pins(t, s, true, names[pinned])
		for i := range 10 {
			stores(t, s, "new "+strconv.Itoa(i), "", false, goes(names, pinned, i))
			peeks(t, s, names[pinned], "of "+names[pinned])
		}
		// It is the one touched longest ago: it goes as soon as it may.
		pins(t, s, false, names[pinned])
		stores(t, s, "last", "", false, names[pinned])
	}
}

// goes is which key goes at the i-th Put of new ones into four chunks, of which one of
// names stays.
func goes(names []string, stays, i int) string {
	others := append([]string{}, names[:stays]...)
	others = append(others, names[stays+1:]...)
	if i < len(others) {
		return others[i]
	}
	return "new " + strconv.Itoa(i-len(others))
}

func TestPinTwice(t *testing.T) {
	s := begin(t, 1, 64)
	stores(t, s, "a", "1", false)
	pins(t, s, true, "a", "a")
	refuses(t, s, "b", "", api.ErrFull)
	// One taking back is enough, however often it was pinned; a second one is nothing more.
	pins(t, s, false, "a")
	pins(t, s, true, "a")
	refuses(t, s, "b", "", api.ErrFull)
	pins(t, s, false, "a", "a")
	stores(t, s, "b", "", false, "a")
	lacks(t, s, "a")
}

func TestPutSaysAnewWhetherItIsPinned(t *testing.T) {
	s := begin(t, 1, 64)
	stores(t, s, "a", "1", true)
	refuses(t, s, "b", "", api.ErrFull)
	stores(t, s, "a", "2", true)
	refuses(t, s, "b", "", api.ErrFull)
	stores(t, s, "a", "3", false)
	stores(t, s, "b", "", false, "a")
	stores(t, s, "b", "", true)
	refuses(t, s, "a", "", api.ErrFull)
	pins(t, s, false, "b")
	stores(t, s, "a", "", false, "b")
	// A Pin behind a Put holds, too.
	pins(t, s, true, "a")
	stores(t, s, "a", "", false)
	stores(t, s, "c", "", false, "a")
}

func TestPinIsNotKeptBehindADrop(t *testing.T) {
	s := begin(t, 1, 64)
	stores(t, s, "a", "1", true)
	drops(t, s, "a")
	if s.Pin("a", true) {
		t.Error("Pin of one that was dropped is true")
	}
	stores(t, s, "a", "2", false)
	stores(t, s, "b", "3", false, "a")
	if s.Pin("a", true) {
		t.Error("Pin of one that went is true")
	}
	stores(t, s, "a", "4", false, "b")
	stores(t, s, "b", "5", false, "a")
}

func TestGetOfAPinned(t *testing.T) {
	s := begin(t, 1, 128)
	stores(t, s, "a", "1", true)
	stores(t, s, "b", "2", false)
	gets(t, s, "a", "1")
	is(t, s, 1, 0, "a", "b")
	gets(t, s, "b", "2")
	is(t, s, 1, 0, "b", "a")
	stores(t, s, "c", "", false, "b")
	is(t, s, 1, 0, "c", "a")
}

func TestDropOfEach(t *testing.T) {
	// The first one, the last one and those between, in every order.
	for _, order := range [][]int{{0, 1, 2, 3}, {3, 2, 1, 0}, {1, 0, 3, 2}, {2, 3, 0, 1}, {1, 2, 0, 3}, {2, 0, 3, 1}} {
		s := begin(t, 2, 128)
		names := []string{"a", "b", "c", "d"}
		for i, key := range names {
			stores(t, s, key, "of "+key, i%2 == 0)
		}
		rest := []string{"d", "c", "b", "a"}
		for _, at := range order {
			drops(t, s, names[at])
			rest = slices.DeleteFunc(rest, func(key string) bool { return key == names[at] })
			is(t, s, 2, 0, rest...)
			for _, key := range rest {
				peeks(t, s, key, "of "+key)
			}
		}
		// All their chunks are free again.
		for _, key := range names {
			stores(t, s, "new "+key, "", true)
		}
		refuses(t, s, "more", "", api.ErrFull)
	}
}

func TestOneThatWentOrWasDropped(t *testing.T) {
	s := begin(t, 1, 128)
	for _, key := range []string{"", "a", "\x00", strings.Repeat("k", 60)} {
		lacks(t, s, key)
		stores(t, s, key, "1", false)
		drops(t, s, key)
		lacks(t, s, key)
		stores(t, s, key, "2", false)
		gets(t, s, key, "2")
		stores(t, s, "x", "", false)
		stores(t, s, "y", "", false, key)
		lacks(t, s, key)
		stores(t, s, key, "3", false, "x")
		gets(t, s, key, "3")
		drops(t, s, key)
		drops(t, s, "y")
		is(t, s, 1, 0)
	}
}

// P7.5

// plain is what a store must be: its items, the one that was touched last first, and
// for each class how many chunks its pages have.
type plain struct {
	sizes  []int
	chunks []int
	page   int
	pages  int
	left   int
	items  []one
}

// one is an item of a plain.
type one struct {
	key, data string
	class     int
	pinned    bool
}

func newPlain(pages, page int) *plain {
	p := &plain{page: page, pages: pages, left: pages}
	for size := api.MinChunk; size <= page; size *= 2 {
		p.sizes = append(p.sizes, size)
	}
	p.chunks = make([]int, len(p.sizes))
	return p
}

func (p *plain) at(key string) int {
	return slices.IndexFunc(p.items, func(i one) bool { return i.key == key })
}

func (p *plain) drop(key string) bool {
	at := p.at(key)
	if at >= 0 {
		p.items = slices.Delete(p.items, at, at+1)
	}
	return at >= 0
}

// room takes a chunk of the class, or a page for it; false, if there is neither.
func (p *plain) room(class int) bool {
	live := 0
	for _, i := range p.items {
		if i.class == class {
			live++
		}
	}
	if live == p.chunks[class] && p.left > 0 {
		p.left--
		p.chunks[class] += p.page / p.sizes[class]
	}
	return live < p.chunks[class]
}

func (p *plain) put(key, data string, pin bool) ([]string, api.Errno) {
	p.drop(key)
	class := slices.IndexFunc(p.sizes, func(size int) bool { return len(key)+len(data) <= size })
	if class < 0 {
		return nil, api.ErrLong
	}
	var went []string
	for !p.room(class) {
		oldest := -1
		for i, o := range p.items {
			if o.class == class && !o.pinned {
				oldest = i
			}
		}
		if oldest < 0 {
			return went, api.ErrFull
		}
		went = append(went, p.items[oldest].key)
		p.drop(p.items[oldest].key)
	}
	p.items = slices.Insert(p.items, 0, one{key, data, class, pin})
	return went, api.OK
}

func (p *plain) get(key string, touch bool) (string, bool) {
	at := p.at(key)
	if at < 0 {
		return "", false
	}
	found := p.items[at]
	if touch {
		p.items = slices.Insert(slices.Delete(p.items, at, at+1), 0, found)
	}
	return found.data, true
}

func (p *plain) pin(key string, pin bool) bool {
	at := p.at(key)
	if at >= 0 {
		p.items[at].pinned = pin
	}
	return at >= 0
}

// same fails if s isn't what p says.
func same(t *testing.T, s *item.Store, p *plain) {
	t.Helper()
	keys := make([]string, len(p.items))
	for i, o := range p.items {
		keys[i] = o.key
	}
	is(t, s, p.pages-p.left, p.left, keys...)
}

// chance is numbers below n, the same ones for one seed.
func chance(seed uint64) func(n int) int {
	x := seed*2654435761 + 88172645463325252
	return func(n int) int {
		x ^= x << 13
		x ^= x >> 7
		x ^= x << 17
		return int((x >> 11) % uint64(n))
	}
}

// rule is how a play goes: how many of 100 calls are Puts, of how many bytes at most, and
// how many of 100 Puts and Pins say that it is pinned.
type rule struct {
	pages, page       int
	names             []string
	puts, bytes, pins int
}

// play makes calls of a store and of a plain one, and holds what they tell against each
// other behind each of them; it answers how many went, and how many Puts were refused.
func play(t *testing.T, seed uint64, calls int, r rule) (int, int) {
	t.Helper()
	s, p := begin(t, r.pages, r.page), newPlain(r.pages, r.page)
	next := chance(seed)
	went, refused := 0, 0
	for call := range calls {
		key := r.names[next(len(r.names))]
		pin := next(100) < r.pins
		if next(100) < r.puts {
			data := of(next(r.bytes+1)*next(2)+next(20), call)
			got, e := s.Put(key, data, pin)
			want, f := p.put(key, data, pin)
			if !slices.Equal(got, want) || e != f {
				t.Fatalf("seed %d: Put(%q, %d bytes) = %q, %d, not %q, %d", seed, key, len(data), got, e, want, f)
			}
			went += len(want)
			refused += int(min(f, 1))
		} else {
			other(t, s, p, next(5), key, pin)
		}
		same(t, s, p)
	}
	for _, o := range p.items {
		peeks(t, s, o.key, o.data)
	}
	same(t, s, p)
	return went, refused
}

// other makes a call of that kind, none of which is a Put, of both.
func other(t *testing.T, s *item.Store, p *plain, kind int, key string, pin bool) {
	t.Helper()
	switch kind {
	case 0, 1:
		got, ok := s.Get(key)
		if want, there := p.get(key, true); got != want || ok != there {
			t.Fatalf("Get(%q) = %q, %v, not %q, %v", key, got, ok, want, there)
		}
	case 2:
		got, ok := s.Peek(key)
		if want, there := p.get(key, false); got != want || ok != there {
			t.Fatalf("Peek(%q) = %q, %v, not %q, %v", key, got, ok, want, there)
		}
	case 3:
		if got, want := s.Pin(key, pin), p.pin(key, pin); got != want {
			t.Fatalf("Pin(%q, %v) = %v", key, pin, got)
		}
	default:
		if got, want := s.Drop(key), p.drop(key); got != want {
			t.Fatalf("Drop(%q) = %v", key, got)
		}
	}
}

// named is count keys of many lengths, the empty one first.
func named(count int) []string {
	names := make([]string, count)
	for i := range names {
		names[i] = strconv.Itoa(i) + strings.Repeat("k", i*i%70)
	}
	names[0] = ""
	return names
}

func TestLongPlays(t *testing.T) {
	went, refused := 0, 0
	for seed := range uint64(30) {
		for _, r := range []rule{
			{1, 64, named(3), 50, 70, 20},
			{1, 128, named(5), 60, 140, 10},
			{2, 256, named(12), 60, 280, 30},
			{3, 300, named(20), 70, 270, 10},
			{8, 1000, named(60), 70, 520, 5},
			{4, 1024, named(40), 80, 1100, 50},
			{64, 512, named(200), 90, 530, 10},
		} {
			w, f := play(t, seed*11+uint64(r.page), 800, r)
			went, refused = went+w, refused+f
		}
	}
	if went < 1000 || refused < 1000 {
		t.Errorf("%d went, %d Puts were refused: the plays meet too little", went, refused)
	}
}

func TestLongPlayOfManyKeys(t *testing.T) {
	for seed, pins := range []int{0, 5, 40} {
		play(t, uint64(seed), 20000, rule{16, 2048, named(900), 85, 900, pins})
	}
}

func TestWhatIsPinnedStays(t *testing.T) {
	for seed := range uint64(20) {
		s := begin(t, 4, 512)
		next := chance(seed)
		kept := map[string]string{}
		for i := range 12 {
			key, data := "pinned "+strconv.Itoa(i), of(next(200), i)
			if _, e := s.Put(key, data, true); e == api.OK {
				kept[key] = data
			}
		}
		for i := range 1000 {
			went, _ := s.Put("k"+strconv.Itoa(next(60)), of(next(600), i), false)
			for _, key := range went {
				if strings.HasPrefix(key, "pinned") {
					t.Fatalf("%q went", key)
				}
			}
		}
		for key, data := range kept {
			peeks(t, s, key, data)
		}
	}
}

// The chapter's runs

func TestRuns(t *testing.T) {
	s := begin(t, 1, 128)
	stores(t, s, "a", "", false)
	stores(t, s, "b", "", false)
	gets(t, s, "a", "")
	stores(t, s, "c", "", false, "b")
	is(t, s, 1, 0, "c", "a")
	pins(t, s, true, "a", "c")
	refuses(t, s, "d", "", api.ErrFull)
	refuses(t, s, "e", of(200, 1), api.ErrLong)
	is(t, s, 1, 0, "c", "a")
	drops(t, s, "a")
	stores(t, s, "d", "", false)
	is(t, s, 1, 0, "d", "c")
}

// R4

func TestTheSameCallsTellTheSame(t *testing.T) {
	var told []string
	for range 2 {
		var text strings.Builder
		s := begin(t, 4, 512)
		next := chance(5)
		for i := range 3000 {
			key := strconv.Itoa(next(80))
			went, e := s.Put(key, of(next(300), i), next(5) == 0)
			data, ok := s.Get(strconv.Itoa(next(80)))
			fmt.Fprintln(&text, went, e, data, ok, s.Drop(strconv.Itoa(next(90))), s.Keys())
		}
		told = append(told, text.String())
	}
	if told[0] != told[1] {
		t.Error("the same calls told two things")
	}
}
