package slab_test

import (
	"math"
	"slices"
	"strings"
	"testing"

	"depot/api"
	"depot/slab"
)

// begin is a new slab.
func begin(t *testing.T, pages, page int) *slab.Slab {
	t.Helper()
	s, e := slab.New(pages, page)
	if s == nil || e != api.OK {
		t.Fatalf("New(%d, %d): %d", pages, page, e)
	}
	return s
}

// handle is short for an api.Handle.
func handle(class, chunk int) api.Handle {
	return api.Handle{Class: class, Chunk: chunk}
}

// of is a text of n bytes that differs from those of other marks.
func of(n, mark int) string {
	b := make([]byte, n)
	for i := range b {
		b[i] = byte(i*7 + mark*31 + mark>>8)
	}
	return string(b)
}

// alloc fails if Alloc of data doesn't answer that chunk.
func alloc(t *testing.T, s *slab.Slab, data string, class, chunk int) {
	t.Helper()
	if h, e := s.Alloc(data); h != handle(class, chunk) || e != api.OK {
		t.Errorf("Alloc of %d bytes = %v, %d, not %v", len(data), h, e, handle(class, chunk))
	}
	reads(t, s, handle(class, chunk), data)
}

// refuses fails if Alloc of data isn't refused so.
func refuses(t *testing.T, s *slab.Slab, data string, want api.Errno) {
	t.Helper()
	if h, e := s.Alloc(data); h != handle(0, 0) || e != want {
		t.Errorf("Alloc of %d bytes = %v, %d, not zero, %d", len(data), h, e, want)
	}
}

// reads fails if h isn't live, with data.
func reads(t *testing.T, s *slab.Slab, h api.Handle, data string) {
	t.Helper()
	if got, ok := s.Read(h); got != data || !ok {
		t.Errorf("Read(%v) = %q, %v, not %q", h, got, ok, data)
	}
}

// lacks fails if h is live.
func lacks(t *testing.T, s *slab.Slab, h api.Handle) {
	t.Helper()
	if got, ok := s.Read(h); got != "" || ok {
		t.Errorf("Read(%v) = %q, %v", h, got, ok)
	}
	if s.Free(h) {
		t.Errorf("Free(%v) is true", h)
	}
}

// frees fails if Free of one of the chunks of class isn't true.
func frees(t *testing.T, s *slab.Slab, class int, chunks ...int) {
	t.Helper()
	for _, chunk := range chunks {
		if !s.Free(handle(class, chunk)) {
			t.Errorf("Free(%v) is false", handle(class, chunk))
		}
	}
}

// counts fails if Pages and Live tell anything else.
func counts(t *testing.T, s *slab.Slab, used, left, live int) {
	t.Helper()
	if u, l := s.Pages(); u != used || l != left {
		t.Errorf("Pages = %d, %d, not %d, %d", u, l, used, left)
	}
	if got := s.Live(); got != live {
		t.Errorf("Live = %d, not %d", got, live)
	}
}

// extremes is numbers that are no place of any list here.
func extremes() []int {
	return []int{math.MinInt, math.MinInt + 1, math.MinInt32, -1 << 32, -64, -1, 1 << 20, 1 << 32, math.MaxInt32, math.MaxInt - 1, math.MaxInt}
}

// P5.1

func TestNewRefuses(t *testing.T) {
	for _, pages := range append(extremes(), -1, 0, api.MaxPages+1, api.MaxPages+2, 256+1) {
		for _, page := range append(extremes(), 0, api.MinChunk, 128, api.MaxPage) {
			if s, e := slab.New(pages, page); s != nil || e != api.ErrArg {
				t.Errorf("New(%d, %d): %d", pages, page, e)
			}
		}
	}
	for _, page := range append(extremes(), 0, 1, api.MinChunk-1, api.MaxPage+1, api.MaxPage+api.MinChunk, 2*api.MaxPage) {
		for _, pages := range []int{1, 2, api.MaxPages} {
			if s, e := slab.New(pages, page); s != nil || e != api.ErrArg {
				t.Errorf("New(%d, %d): %d", pages, page, e)
			}
		}
	}
}

func TestNewHasNothing(t *testing.T) {
	for _, pages := range []int{1, 2, 63, api.MaxPages} {
		for _, page := range []int{api.MinChunk, api.MinChunk + 1, 100, 128, 1000, api.MaxPage - 1, api.MaxPage} {
			s := begin(t, pages, page)
			counts(t, s, 0, pages, 0)
			for class := -1; class <= len(s.Classes()); class++ {
				for chunk := -1; chunk <= page/api.MinChunk; chunk++ {
					lacks(t, s, handle(class, chunk))
				}
			}
			counts(t, s, 0, pages, 0)
		}
	}
}

func TestClasses(t *testing.T) {
	for _, c := range []struct {
		page int
		want []int
	}{
		{64, []int{64}}, {65, []int{64}}, {127, []int{64}},
		{128, []int{64, 128}}, {129, []int{64, 128}}, {255, []int{64, 128}},
		{256, []int{64, 128, 256}}, {300, []int{64, 128, 256}}, {511, []int{64, 128, 256}},
		{1000, []int{64, 128, 256, 512}},
		{32768, []int{64, 128, 256, 512, 1024, 2048, 4096, 8192, 16384, 32768}},
		{65535, []int{64, 128, 256, 512, 1024, 2048, 4096, 8192, 16384, 32768}},
		{65536, []int{64, 128, 256, 512, 1024, 2048, 4096, 8192, 16384, 32768, 65536}},
	} {
		for _, pages := range []int{1, api.MaxPages} {
			if got := begin(t, pages, c.page).Classes(); !slices.Equal(got, c.want) {
				t.Errorf("page %d: Classes = %v, not %v", c.page, got, c.want)
			}
		}
	}
}

func TestClassesOfEachPage(t *testing.T) {
	for page := api.MinChunk; page <= api.MaxPage; page++ {
		got := begin(t, 1, page).Classes()
		for i, size := range got {
			if size != api.MinChunk<<i || size > page {
				t.Fatalf("page %d: Classes = %v", page, got)
			}
		}
		if api.MinChunk<<len(got) <= page {
			t.Fatalf("page %d: Classes = %v: one is lacking", page, got)
		}
	}
}

func TestClassesAreNewMemory(t *testing.T) {
	s := begin(t, 2, 300)
	alloc(t, s, of(65, 1), 1, 0)
	first, second := s.Classes(), s.Classes()
	first = first[:cap(first)]
	for i := range first {
		first[i] = -7
	}
	for _, got := range [][]int{second, s.Classes()} {
		if !slices.Equal(got, []int{64, 128, 256}) {
			t.Errorf("Classes = %v, when another answer was written into", got)
		}
	}
	for n, want := range map[int]int{0: 0, 64: 0, 65: 1, 128: 1, 129: 2, 256: 2, 257: -1} {
		if got := s.Class(n); got != want {
			t.Errorf("Class(%d) = %d, when an answer of Classes was written into", n, got)
		}
	}
	alloc(t, s, of(64, 2), 0, 0)
	alloc(t, s, of(128, 3), 1, 1)
	reads(t, s, handle(1, 0), of(65, 1))
	refuses(t, s, of(256, 4), api.ErrFull)
}

func TestLiveAndPagesBehindEachCall(t *testing.T) {
	s := begin(t, 2, 256)
	alloc(t, s, "", 0, 0)
	counts(t, s, 1, 1, 1)
	alloc(t, s, "", 0, 1)
	counts(t, s, 1, 1, 2)
	frees(t, s, 0, 0)
	counts(t, s, 1, 1, 1)
	lacks(t, s, handle(0, 0))
	counts(t, s, 1, 1, 1)
	alloc(t, s, of(256, 1), 2, 0)
	counts(t, s, 2, 0, 2)
	refuses(t, s, of(256, 2), api.ErrFull)
	refuses(t, s, of(257, 2), api.ErrLong)
	counts(t, s, 2, 0, 2)
	frees(t, s, 2, 0)
	frees(t, s, 0, 1)
	counts(t, s, 2, 0, 0)
	s.Classes()
	s.Class(70)
	counts(t, s, 2, 0, 0)
	alloc(t, s, of(200, 3), 2, 0)
	counts(t, s, 2, 0, 1)
}

// P5.2

func TestClass(t *testing.T) {
	for _, page := range []int{64, 65, 127, 128, 300, 4096, 5000, api.MaxPage - 1, api.MaxPage} {
		s := begin(t, 1, page)
		sizes := s.Classes()
		for n := -3; n <= page+3; n++ {
			want := slices.IndexFunc(sizes, func(size int) bool { return n <= size })
			if n < 0 {
				want = -1
			}
			if got := s.Class(n); got != want {
				t.Fatalf("page %d: Class(%d) = %d, not %d", page, n, got, want)
			}
		}
		for _, n := range extremes() {
			if got := s.Class(n); got != -1 {
				t.Errorf("page %d: Class(%d) = %d, not -1", page, n, got)
			}
		}
	}
}

func TestClassAtItsEdges(t *testing.T) {
	s := begin(t, 1, 300)
	for n, want := range map[int]int{
		-1: -1, 0: 0, 1: 0, 63: 0, 64: 0, 65: 1, 127: 1, 128: 1, 129: 2, 256: 2, 257: -1, 300: -1, 301: -1,
	} {
		if got := s.Class(n); got != want {
			t.Errorf("Class(%d) = %d, not %d", n, got, want)
		}
	}
}

func TestClassHangsOnSizesAlone(t *testing.T) {
	s := begin(t, 1, 256)
	alloc(t, s, of(200, 1), 2, 0)
	for n, want := range map[int]int{-1: -1, 0: 0, 64: 0, 65: 1, 128: 1, 129: 2, 256: 2, 257: -1} {
		if got := s.Class(n); got != want {
			t.Errorf("Class(%d) = %d, not %d, when no page is left", n, got, want)
		}
	}
}

// P5.3

func TestAllocTakesItsClass(t *testing.T) {
	for _, c := range []struct{ bytes, class int }{
		{0, 0}, {1, 0}, {63, 0}, {64, 0}, {65, 1}, {128, 1}, {129, 2}, {256, 2}, {257, 3}, {512, 3},
	} {
		s := begin(t, 1, 600)
		alloc(t, s, of(c.bytes, 5), c.class, 0)
		counts(t, s, 1, 0, 1)
	}
}

func TestAllocOfTheLargest(t *testing.T) {
	s := begin(t, api.MaxPages, api.MaxPage)
	for i := range api.MaxPages {
		alloc(t, s, of(api.MaxPage, i), 10, i)
		counts(t, s, i+1, api.MaxPages-i-1, i+1)
	}
	refuses(t, s, of(api.MaxPage, 1), api.ErrFull)
	refuses(t, s, "", api.ErrFull)
	refuses(t, s, of(api.MaxPage+1, 1), api.ErrLong)
	for i := range api.MaxPages {
		reads(t, s, handle(10, i), of(api.MaxPage, i))
	}
}

func TestAllocOfTheMost(t *testing.T) {
	s := begin(t, api.MaxPages, api.MaxPage)
	most := api.MaxPages * (api.MaxPage / api.MinChunk)
	for i := range most {
		if h, e := s.Alloc(of(8, i)); h != handle(0, i) || e != api.OK {
			t.Fatalf("Alloc %d = %v, %d", i, h, e)
		}
	}
	counts(t, s, api.MaxPages, 0, most)
	refuses(t, s, "", api.ErrFull)
	for i := range most {
		reads(t, s, handle(0, i), of(8, i))
	}
	lacks(t, s, handle(0, most))
}

func TestAllocOfMoreThanAnyClassHas(t *testing.T) {
	s := begin(t, 1, 300)
	// The page has more bytes than its greatest class.
	for _, n := range []int{257, 299, 300, 301, api.MaxPage, api.MaxPage + 1, api.MaxValue} {
		refuses(t, s, of(n, 1), api.ErrLong)
		counts(t, s, 0, 1, 0)
	}
	alloc(t, s, of(256, 1), 2, 0)
	// There is no page left, either: but ErrLong is asked first.
	refuses(t, s, of(257, 1), api.ErrLong)
	refuses(t, s, of(256, 1), api.ErrFull)
	counts(t, s, 1, 0, 1)
}

func TestAllocWhereAnotherClassHasThePages(t *testing.T) {
	s := begin(t, 2, 256)
	alloc(t, s, of(100, 1), 1, 0)
	alloc(t, s, of(256, 2), 2, 0)
	counts(t, s, 2, 0, 2)
	refuses(t, s, "", api.ErrFull)
	refuses(t, s, of(64, 3), api.ErrFull)
	refuses(t, s, of(129, 3), api.ErrFull)
	// A greater chunk that is free is not taken for less bytes, nor two for more.
	frees(t, s, 2, 0)
	refuses(t, s, "", api.ErrFull)
	alloc(t, s, of(65, 4), 1, 1)
	refuses(t, s, of(65, 5), api.ErrFull)
	frees(t, s, 1, 0, 1)
	refuses(t, s, of(64, 5), api.ErrFull)
	counts(t, s, 2, 0, 0)
	alloc(t, s, of(129, 6), 2, 0)
	alloc(t, s, of(128, 7), 1, 1)
	counts(t, s, 2, 0, 2)
}

func TestAllocTakesANewPageByRisingNumbers(t *testing.T) {
	// The page's bytes behind its last chunk are nobody's.
	for _, c := range []struct{ page, bytes, class, each int }{
		{64, 1, 0, 1}, {127, 64, 0, 1}, {128, 64, 0, 2}, {300, 64, 0, 4}, {319, 10, 0, 4}, {320, 10, 0, 5},
		{300, 65, 1, 2}, {383, 128, 1, 2}, {384, 128, 1, 3}, {300, 256, 2, 1}, {1000, 0, 0, 15}, {1000, 300, 3, 1},
	} {
		s := begin(t, 3, c.page)
		for i := range 3 * c.each {
			alloc(t, s, of(c.bytes, i), c.class, i)
			counts(t, s, i/c.each+1, 2-i/c.each, i+1)
			lacks(t, s, handle(c.class, i+1))
		}
		refuses(t, s, of(c.bytes, 99), api.ErrFull)
	}
}

func TestAllocTakesTheLastFreedFirst(t *testing.T) {
	s := begin(t, 2, 256)
	for i := range 3 {
		alloc(t, s, "x", 0, i)
	}
	// One that was freed goes ahead of those of the page that were never taken.
	frees(t, s, 0, 1)
	alloc(t, s, "y", 0, 1)
	frees(t, s, 0, 2, 0)
	for _, chunk := range []int{0, 2, 3} {
		alloc(t, s, "z", 0, chunk)
	}
	counts(t, s, 1, 1, 4)
	frees(t, s, 0, 1, 3, 0, 2)
	for _, chunk := range []int{2, 0, 3, 1} {
		alloc(t, s, "w", 0, chunk)
	}
	counts(t, s, 1, 1, 4)
	alloc(t, s, "v", 0, 4)
	counts(t, s, 2, 0, 5)
	frees(t, s, 0, 3, 4)
	for _, chunk := range []int{4, 3, 5, 6, 7} {
		alloc(t, s, "u", 0, chunk)
	}
	refuses(t, s, "t", api.ErrFull)
}

func TestAllocWithFreeAndAllocBetween(t *testing.T) {
	s := begin(t, 1, 256)
	for i := range 4 {
		alloc(t, s, "x", 0, i)
	}
	frees(t, s, 0, 0, 1)
	alloc(t, s, "y", 0, 1)
	frees(t, s, 0, 2, 1)
	for _, chunk := range []int{1, 2, 0} {
		alloc(t, s, "z", 0, chunk)
	}
	refuses(t, s, "w", api.ErrFull)
}

func TestNumbersGoOnClassByClass(t *testing.T) {
	s := begin(t, 5, 128)
	alloc(t, s, of(65, 0), 1, 0)
	alloc(t, s, of(1, 1), 0, 0)
	alloc(t, s, of(65, 2), 1, 1)
	alloc(t, s, of(1, 3), 0, 1)
	alloc(t, s, of(1, 4), 0, 2)
	counts(t, s, 4, 1, 5)
	alloc(t, s, of(65, 5), 1, 2)
	counts(t, s, 5, 0, 6)
	alloc(t, s, of(1, 6), 0, 3)
	refuses(t, s, of(1, 7), api.ErrFull)
	refuses(t, s, of(65, 7), api.ErrFull)
	counts(t, s, 5, 0, 7)
}

func TestRefusedAllocChangesNothing(t *testing.T) {
	s := begin(t, 2, 128)
	for range 3 {
		refuses(t, s, of(129, 1), api.ErrLong)
		counts(t, s, 0, 2, 0)
	}
	alloc(t, s, "a", 0, 0)
	alloc(t, s, of(100, 2), 1, 0)
	for range 3 {
		refuses(t, s, of(129, 1), api.ErrLong)
		refuses(t, s, of(128, 1), api.ErrFull)
		counts(t, s, 2, 0, 2)
	}
	reads(t, s, handle(0, 0), "a")
	reads(t, s, handle(1, 0), of(100, 2))
	lacks(t, s, handle(0, 1))
	lacks(t, s, handle(1, 1))
	alloc(t, s, "b", 0, 1)
	for range 3 {
		refuses(t, s, "c", api.ErrFull)
		counts(t, s, 2, 0, 3)
	}
	frees(t, s, 0, 0)
	alloc(t, s, "d", 0, 0)
	reads(t, s, handle(0, 1), "b")
}

// P5.4

func TestReadTellsBytesAsTheyAre(t *testing.T) {
	s := begin(t, 8, 512)
	for i, data := range []string{"", "\x00", "\x00\x00", "\xff\xfe", "\r\n", "\u00e9", " a ", strings.Repeat("\x00", 64)} {
		alloc(t, s, data, 0, i)
	}
	for i, data := range []string{"", "\x00", "\x00\x00", "\xff\xfe", "\r\n", "\u00e9", " a ", strings.Repeat("\x00", 64)} {
		reads(t, s, handle(0, i), data)
		reads(t, s, handle(0, i), data)
	}
}

func TestReadOfAChunkThatIsTakenAgain(t *testing.T) {
	s := begin(t, 1, 64)
	for i, data := range []string{of(64, 1), "", of(10, 2), of(63, 3), "x"} {
		alloc(t, s, data, 0, 0)
		counts(t, s, 1, 0, 1)
		if i%2 == 0 {
			refuses(t, s, "y", api.ErrFull)
		}
		frees(t, s, 0, 0)
		lacks(t, s, handle(0, 0))
		counts(t, s, 1, 0, 0)
	}
}

func TestFreeTwice(t *testing.T) {
	s := begin(t, 1, 256)
	for i := range 3 {
		alloc(t, s, of(5, i), 0, i)
	}
	frees(t, s, 0, 1)
	for range 3 {
		lacks(t, s, handle(0, 1))
		counts(t, s, 1, 0, 2)
	}
	// Were it free twice over, it would be taken twice.
	alloc(t, s, "a", 0, 1)
	alloc(t, s, "b", 0, 3)
	refuses(t, s, "c", api.ErrFull)
	for i, data := range []string{of(5, 0), "a", of(5, 2), "b"} {
		reads(t, s, handle(0, i), data)
	}
}

func TestChunksThatWereNeverTakenAreNotLive(t *testing.T) {
	s := begin(t, 1, 256)
	alloc(t, s, "", 0, 0)
	for chunk := 1; chunk < 4; chunk++ {
		lacks(t, s, handle(0, chunk))
	}
	counts(t, s, 1, 0, 1)
	for chunk := 1; chunk < 4; chunk++ {
		alloc(t, s, "", 0, chunk)
	}
	refuses(t, s, "", api.ErrFull)
}

func TestHandlesThatAreNone(t *testing.T) {
	s := begin(t, 4, 256)
	alloc(t, s, of(3, 1), 0, 0)
	alloc(t, s, of(3, 2), 0, 1)
	alloc(t, s, of(130, 3), 2, 0)
	before := []api.Handle{handle(0, 0), handle(0, 1), handle(2, 0)}
	for _, class := range append(extremes(), 0, 1, 2, 3, 4, 256) {
		for _, chunk := range append(extremes(), 0, 1, 2, 3, 4, 256) {
			if h := handle(class, chunk); !slices.Contains(before, h) {
				lacks(t, s, h)
			}
		}
	}
	counts(t, s, 2, 2, 3)
	reads(t, s, handle(0, 0), of(3, 1))
	reads(t, s, handle(0, 1), of(3, 2))
	reads(t, s, handle(2, 0), of(130, 3))
	alloc(t, s, of(3, 4), 0, 2)
	alloc(t, s, of(130, 5), 2, 1)
	alloc(t, s, of(65, 6), 1, 0)
	counts(t, s, 4, 0, 6)
}

func TestFreeIsOfOneClassAlone(t *testing.T) {
	s := begin(t, 3, 256)
	for class, n := range []int{64, 128, 256} {
		alloc(t, s, of(n, class), class, 0)
	}
	frees(t, s, 1, 0)
	lacks(t, s, handle(1, 0))
	reads(t, s, handle(0, 0), of(64, 0))
	reads(t, s, handle(2, 0), of(256, 2))
	counts(t, s, 3, 0, 2)
	alloc(t, s, of(64, 7), 0, 1)
	refuses(t, s, of(256, 7), api.ErrFull)
	alloc(t, s, of(100, 7), 1, 0)
}

func TestSlabsShareNothing(t *testing.T) {
	a, b := begin(t, 1, 128), begin(t, 1, 128)
	alloc(t, a, "a", 0, 0)
	counts(t, b, 0, 1, 0)
	lacks(t, b, handle(0, 0))
	alloc(t, b, of(128, 1), 1, 0)
	reads(t, a, handle(0, 0), "a")
	lacks(t, a, handle(1, 0))
	counts(t, a, 1, 0, 1)
}

// P5.5

// held is a chunk in the plain reckoning: since tells when it came to be free.
type held struct {
	live  bool
	data  string
	since int
}

// plain is a slab as the chapter tells it, without a row of free chunks: each one is
// looked for among all.
type plain struct {
	pages, page, used, time int
	classes                 [][]held
}

// started is a plain slab.
func started(pages, page int) *plain {
	p := &plain{pages: pages, page: page}
	for size := api.MinChunk; size <= page; size *= 2 {
		p.classes = append(p.classes, nil)
	}
	return p
}

// pick is the free chunk of a class that is to be taken, or -1.
func (p *plain) pick(class int) int {
	best := -1
	for i, c := range p.classes[class] {
		if !c.live && (best < 0 || c.since > p.classes[class][best].since) {
			best = i
		}
	}
	return best
}

// alloc is what Alloc is to answer.
func (p *plain) alloc(data string) (api.Handle, api.Errno) {
	p.time++
	class := 0
	for class < len(p.classes) && api.MinChunk<<class < len(data) {
		class++
	}
	if class == len(p.classes) {
		return api.Handle{}, api.ErrLong
	}
	if p.pick(class) < 0 {
		if p.used == p.pages {
			return api.Handle{}, api.ErrFull
		}
		p.used++
		for range p.page / (api.MinChunk << class) {
			p.classes[class] = append(p.classes[class], held{since: p.time})
		}
	}
	at := p.pick(class)
	p.classes[class][at] = held{live: true, data: data}
	return handle(class, at), api.OK
}

// free is what Free is to answer.
func (p *plain) free(h api.Handle) bool {
	p.time++
	if h.Class < 0 || h.Class >= len(p.classes) || h.Chunk < 0 || h.Chunk >= len(p.classes[h.Class]) {
		return false
	}
	if !p.classes[h.Class][h.Chunk].live {
		return false
	}
	p.classes[h.Class][h.Chunk] = held{since: p.time}
	return true
}

// same fails if s is not as p: chunk by chunk, one past the last one too, and in counts.
func (p *plain) same(t *testing.T, s *slab.Slab) {
	t.Helper()
	live := 0
	for class := -1; class <= len(p.classes); class++ {
		var chunks []held
		if class >= 0 && class < len(p.classes) {
			chunks = p.classes[class]
		}
		for i := -1; i <= len(chunks); i++ {
			var want held
			if i >= 0 && i < len(chunks) {
				want = chunks[i]
			}
			if got, ok := s.Read(handle(class, i)); got != want.data || ok != want.live {
				t.Fatalf("Read(%d %d) = %q, %v, not %q, %v", class, i, got, ok, want.data, want.live)
			}
			if want.live {
				live++
			}
		}
	}
	if used, left := s.Pages(); used != p.used || left != p.pages-p.used || s.Live() != live {
		t.Fatalf("Pages = %d, %d, Live = %d, not %d, %d, %d", used, left, s.Live(), p.used, p.pages-p.used, live)
	}
}

// chance is numbers that look like chance, and are the same in each run.
func chance(seed uint32) func(n int) int {
	state := seed*2654435761 + 1
	return func(n int) int {
		state ^= state << 13
		state ^= state >> 17
		state ^= state << 5
		return int(state % uint32(n))
	}
}

// play is steps calls, each held against the plain reckoning.
func play(t *testing.T, pages, page, steps int, seed uint32) {
	t.Helper()
	s, p, next := begin(t, pages, page), started(pages, page), chance(seed)
	for step := range steps {
		// The share of frees goes up and down, so that the slab is full and empty by turns.
		if next(10) < 3+step/40%2*4 {
			h := handle(next(len(p.classes)+1)-1, next(12)-1)
			if got, want := s.Free(h), p.free(h); got != want {
				t.Fatalf("step %d: Free(%v) = %v, not %v", step, h, got, want)
			}
		} else {
			data := of(next(page+8)>>next(6), step)
			h, e := s.Alloc(data)
			if wantH, wantE := p.alloc(data); h != wantH || e != wantE {
				t.Fatalf("step %d: Alloc of %d bytes = %v, %d, not %v, %d", step, len(data), h, e, wantH, wantE)
			}
		}
		p.same(t, s)
	}
}

func TestLongPlays(t *testing.T) {
	for seed := range uint32(12) {
		for _, c := range [][2]int{{1, 64}, {1, 256}, {2, 128}, {3, 300}, {4, 500}, {7, 1000}, {9, 320}} {
			play(t, c[0], c[1], 400, seed)
		}
	}
}

func TestNoTwoLiveChunksHaveOneHandle(t *testing.T) {
	s, next := begin(t, 5, 512), chance(77)
	live := map[api.Handle]string{}
	var order []api.Handle
	for step := range 4000 {
		data := of(next(512), step)
		h, e := s.Alloc(data)
		if _, was := live[h]; e == api.OK && was {
			t.Fatalf("step %d: %v is live twice", step, h)
		}
		if e == api.OK {
			live[h], order = data, append(order, h)
		}
		for len(order) > 0 && (e != api.OK || next(3) == 0) {
			e = api.OK
			at := next(len(order))
			if !s.Free(order[at]) {
				t.Fatalf("step %d: Free(%v) is false", step, order[at])
			}
			delete(live, order[at])
			order = slices.Delete(order, at, at+1)
		}
		if used, left := s.Pages(); used < 0 || left < 0 || used+left != 5 || s.Live() != len(live) {
			t.Fatalf("step %d: Pages = %d, %d, Live = %d of %d", step, used, left, s.Live(), len(live))
		}
		for h, want := range live {
			reads(t, s, h, want)
		}
	}
}

func TestAPageStaysWithItsClass(t *testing.T) {
	s := begin(t, 2, 256)
	for i := range 8 {
		alloc(t, s, "x", 0, i)
	}
	for i := range 8 {
		frees(t, s, 0, i)
	}
	counts(t, s, 2, 0, 0)
	refuses(t, s, of(65, 1), api.ErrFull)
	refuses(t, s, of(256, 1), api.ErrFull)
	counts(t, s, 2, 0, 0)
	for i := 7; i >= 0; i-- {
		alloc(t, s, of(64, i), 0, i)
	}
	refuses(t, s, "", api.ErrFull)
}

func TestLiveDataIsKeptWhilePagesCome(t *testing.T) {
	s := begin(t, api.MaxPages, 128)
	for i := range api.MaxPages {
		alloc(t, s, of(64, 2*i), 0, 2*i)
		alloc(t, s, of(30, 2*i+1), 0, 2*i+1)
		for j := range i {
			reads(t, s, handle(0, 2*j), of(64, 2*j))
			reads(t, s, handle(0, 2*j+1), of(30, 2*j+1))
		}
	}
	counts(t, s, api.MaxPages, 0, 2*api.MaxPages)
}

// The chapter's runs.

func TestRuns(t *testing.T) {
	s := begin(t, 2, 128)
	if got := s.Classes(); !slices.Equal(got, []int{64, 128}) {
		t.Errorf("Classes = %v", got)
	}
	alloc(t, s, strings.Repeat("x", 70), 1, 0)
	alloc(t, s, "a", 0, 0)
	alloc(t, s, "b", 0, 1)
	counts(t, s, 2, 0, 3)
	refuses(t, s, "c", api.ErrFull)
	frees(t, s, 0, 0)
	lacks(t, s, handle(0, 0))
	alloc(t, s, "c", 0, 0)
	refuses(t, s, strings.Repeat("x", 200), api.ErrLong)
	counts(t, s, 2, 0, 3)
}
