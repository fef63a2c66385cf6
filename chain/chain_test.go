package chain_test

import (
	"fmt"
	"math"
	"strconv"
	"strings"
	"testing"

	"depot/api"
	"depot/chain"
)

// puts fails if Put of the key doesn't tell so.
func puts(t *testing.T, c *chain.Chain, key string, n int, want bool) {
	t.Helper()
	if got := c.Put(key, n); got != want {
		t.Fatalf("Put(%q, %d) = %v", key, n, got)
	}
}

// drops fails if Drop of the key doesn't tell so.
func drops(t *testing.T, c *chain.Chain, key string, want bool) {
	t.Helper()
	if got := c.Drop(key); got != want {
		t.Fatalf("Drop(%q) = %v", key, got)
	}
}

// gets fails if the key hasn't n.
func gets(t *testing.T, c *chain.Chain, key string, n int) {
	t.Helper()
	if got, ok := c.Get(key); got != n || !ok {
		t.Fatalf("Get(%q) = %d, %v, not %d, true", key, got, ok, n)
	}
}

// lacks fails if the key is there.
func lacks(t *testing.T, c *chain.Chain, key string) {
	t.Helper()
	if got, ok := c.Get(key); got != 0 || ok {
		t.Fatalf("Get(%q) = %d, %v, not 0, false", key, got, ok)
	}
}

// is fails if Len and Shape tell anything else.
func is(t *testing.T, c *chain.Chain, keys, buckets, old, moved int) {
	t.Helper()
	if got := c.Len(); got != keys {
		t.Fatalf("Len = %d, not %d", got, keys)
	}
	if a, b, m := c.Shape(); a != buckets || b != old || m != moved {
		t.Fatalf("Shape = %d, %d, %d, not %d, %d, %d", a, b, m, buckets, old, moved)
	}
}

// of is a chain into which the keys "0" to keys - 1 were put, each with its number.
func of(t *testing.T, keys int) *chain.Chain {
	t.Helper()
	c := chain.New()
	for i := range keys {
		puts(t, c, strconv.Itoa(i), i, true)
	}
	return c
}

// in is count keys that begin so and stand in bucket at of so many.
func in(count int, begin string, at, buckets uint32) []string {
	var keys []string
	for i := 0; len(keys) < count; i++ {
		key := begin + strconv.Itoa(i)
		if hashOf(key)%buckets == at {
			keys = append(keys, key)
		}
	}
	return keys
}

// hashOf reckons a hash with greater numbers, the rest of 2^32 taken of each product.
func hashOf(key string) uint32 {
	h := uint64(2166136261)
	for _, b := range []byte(key) {
		low := h % 256
		h = h - low + (low ^ uint64(b))
		h = h * 16777619 % (1 << 32)
	}
	return uint32(h)
}

// chance tells numbers, the same ones for each seed.
func chance(seed uint64) func(most int) int {
	x := seed*2654435761 + 1
	return func(most int) int {
		x ^= x << 13
		x ^= x >> 7
		x ^= x << 17
		return int((x >> 1) % uint64(most))
	}
}

// P6.1

func TestHashKnown(t *testing.T) {
	for key, want := range map[string]uint32{
		"": 0x811c9dc5, "a": 0xe40c292c, "b": 0xe70c2de5, "f": 0xe30c2799, "fo": 0x6222e842, "foo": 0xa9f37ed7, "foob": 0x3f5076ef, "fooba": 0x39aaa18a, "foobar": 0xbf9cf968,
		"\x00": 0x050c5d1f,
	} {
		if got := chain.Hash(key); got != want {
			t.Errorf("Hash(%q) = %#x, not %#x", key, got, want)
		}
	}
}

func TestHashOfOneByte(t *testing.T) {
	for b := range 256 {
		key := string([]byte{byte(b)})
		want := uint32((uint64(2166136261) ^ uint64(b)) * 16777619 % (1 << 32))
		if got := chain.Hash(key); got != want {
			t.Errorf("Hash(%q) = %d, not %d", key, got, want)
		}
	}
}

func TestHashOfTwoBytes(t *testing.T) {
	for a := range 256 {
		for b := range 256 {
			key := string([]byte{byte(a), byte(b)})
			if got, want := chain.Hash(key), (chain.Hash(key[:1])^uint32(b))*16777619; got != want {
				t.Fatalf("Hash(%q) = %d, not %d", key, got, want)
			}
		}
	}
}

func TestHashOfMany(t *testing.T) {
	next := chance(3)
	for length := range 600 {
		b := make([]byte, length)
		for i := range b {
			b[i] = byte(next(256))
		}
		if got, want := chain.Hash(string(b)), hashOf(string(b)); got != want {
			t.Errorf("Hash(%q) = %d, not %d", b, got, want)
		}
	}
	// Texts are bytes, whether they are runes or not, and as long as they like.
	for _, key := range []string{"é", "日本", "\xff", "\xc3", "\xed\xa0\x80", "a\x00", "\x00a", strings.Repeat("\x80", 1000), strings.Repeat("k", api.MaxKey+1), strings.Repeat("long", 1<<18)} {
		if got, want := chain.Hash(key), hashOf(key); got != want {
			t.Errorf("Hash of %d bytes = %d, not %d", len(key), got, want)
		}
	}
}

// P6.2

func TestNew(t *testing.T) {
	c := chain.New()
	is(t, c, 0, 4, 0, 0)
	for _, key := range []string{"", "a", "\x00", "\xff", strings.Repeat("k", 1000)} {
		lacks(t, c, key)
		drops(t, c, key, false)
	}
	is(t, c, 0, 4, 0, 0)
}

func TestChainsAreApart(t *testing.T) {
	a, b := chain.New(), chain.New()
	for i := range 30 {
		puts(t, a, strconv.Itoa(i), i, true)
	}
	is(t, b, 0, 4, 0, 0)
	puts(t, b, "0", 7, true)
	gets(t, a, "0", 0)
	drops(t, a, "0", true)
	gets(t, b, "0", 7)
	is(t, b, 1, 4, 0, 0)
	is(t, chain.New(), 0, 4, 0, 0)
}

func TestLenBehindEachCall(t *testing.T) {
	c := chain.New()
	puts(t, c, "a", 1, true)
	is(t, c, 1, 4, 0, 0)
	puts(t, c, "b", 1, true)
	is(t, c, 2, 4, 0, 0)
	puts(t, c, "a", 2, false)
	is(t, c, 2, 4, 0, 0)
	drops(t, c, "c", false)
	is(t, c, 2, 4, 0, 0)
	drops(t, c, "a", true)
	is(t, c, 1, 4, 0, 0)
	drops(t, c, "a", false)
	is(t, c, 1, 4, 0, 0)
	lacks(t, c, "a")
	gets(t, c, "b", 1)
	is(t, c, 1, 4, 0, 0)
	drops(t, c, "b", true)
	is(t, c, 0, 4, 0, 0)
}

// P6.3

func TestPutTellsWhetherItIsNew(t *testing.T) {
	c := chain.New()
	for _, key := range []string{"", "a", "A", "a\x00", "\xff", "é", "e", strings.Repeat("k", api.MaxKey+50)} {
		puts(t, c, key, 1, true)
		gets(t, c, key, 1)
		puts(t, c, key, 1, false)
		puts(t, c, key, 2, false)
		gets(t, c, key, 2)
		drops(t, c, key, true)
		lacks(t, c, key)
		puts(t, c, key, 3, true)
		gets(t, c, key, 3)
	}
}

func TestPutKeepsAnyNumber(t *testing.T) {
	c := chain.New()
	for _, n := range []int{0, -1, 1, math.MinInt32, math.MaxInt32, 1 << 32, -1 << 32, math.MinInt, math.MaxInt} {
		c.Put("a", n)
		gets(t, c, "a", n)
		puts(t, c, "of "+strconv.Itoa(n), n, true)
		gets(t, c, "of "+strconv.Itoa(n), n)
	}
}

func TestTheEmptyKey(t *testing.T) {
	for keys := range 40 {
		c := of(t, keys)
		lacks(t, c, "")
		drops(t, c, "", false)
		puts(t, c, "", -5, true)
		gets(t, c, "", -5)
		puts(t, c, "", 0, false)
		gets(t, c, "", 0)
		drops(t, c, "", true)
		drops(t, c, "", false)
		lacks(t, c, "")
		for i := range keys {
			gets(t, c, strconv.Itoa(i), i)
		}
	}
}

func TestPutAtWhichItGrows(t *testing.T) {
	c := of(t, 8)
	is(t, c, 8, 4, 0, 0)
	puts(t, c, "3", 33, false)
	is(t, c, 8, 4, 0, 0)
	puts(t, c, "8", 8, true)
	is(t, c, 9, 8, 4, 0)
	for moved := 1; moved < 4; moved++ {
		puts(t, c, strconv.Itoa(8+moved), 0, true)
		is(t, c, 9+moved, 8, 4, moved)
	}
	puts(t, c, "12", 12, true)
	is(t, c, 13, 8, 0, 0)
	for i := 13; i < 16; i++ {
		puts(t, c, strconv.Itoa(i), i, true)
		is(t, c, i+1, 8, 0, 0)
	}
	puts(t, c, "16", 16, true)
	is(t, c, 17, 16, 8, 0)
}

func TestEachGrowth(t *testing.T) {
	c := chain.New()
	keys := 0
	for buckets := 4; buckets < api.MaxBucket; buckets *= 2 {
		for keys < 2*buckets {
			puts(t, c, strconv.Itoa(keys), keys, true)
			keys++
		}
		is(t, c, keys, buckets, 0, 0)
		puts(t, c, "0", 0, false)
		is(t, c, keys, buckets, 0, 0)
		puts(t, c, strconv.Itoa(keys), keys, true)
		keys++
		is(t, c, keys, 2*buckets, buckets, 0)
		for moved := 1; moved < buckets; moved++ {
			puts(t, c, "1", 1, false)
			is(t, c, keys, 2*buckets, buckets, moved)
		}
		puts(t, c, "1", 1, false)
		is(t, c, keys, 2*buckets, 0, 0)
	}
	for i := range keys {
		gets(t, c, strconv.Itoa(i), i)
	}
}

func TestNoGrowthAtMaxBucket(t *testing.T) {
	c := of(t, api.MaxBucket)
	is(t, c, api.MaxBucket, api.MaxBucket/2, 0, 0)
	puts(t, c, strconv.Itoa(api.MaxBucket), api.MaxBucket, true)
	is(t, c, api.MaxBucket+1, api.MaxBucket, api.MaxBucket/2, 0)
	for i := api.MaxBucket + 1; i < 5*api.MaxBucket; i++ {
		puts(t, c, strconv.Itoa(i), i, true)
		moved := i - api.MaxBucket
		if moved < api.MaxBucket/2 {
			is(t, c, i+1, api.MaxBucket, api.MaxBucket/2, moved)
		} else {
			is(t, c, i+1, api.MaxBucket, 0, 0)
		}
	}
	for i := range 5 * api.MaxBucket {
		gets(t, c, strconv.Itoa(i), i)
	}
	for i := range 5 * api.MaxBucket {
		drops(t, c, strconv.Itoa(i), true)
	}
	is(t, c, 0, api.MaxBucket, 0, 0)
}

func TestDropsPutOffGrowth(t *testing.T) {
	c := of(t, 8)
	drops(t, c, "0", true)
	puts(t, c, "x", 1, true)
	is(t, c, 8, 4, 0, 0)
	puts(t, c, "y", 1, true)
	is(t, c, 9, 8, 4, 0)
	for i := 1; i < 8; i++ {
		drops(t, c, strconv.Itoa(i), true)
	}
	drops(t, c, "x", true)
	drops(t, c, "y", true)
	// What grew once stays so, and four buckets' worth of keys don't make it grow again.
	is(t, c, 0, 8, 0, 0)
	for i := range 16 {
		puts(t, c, strconv.Itoa(i), i, true)
		is(t, c, i+1, 8, 0, 0)
	}
	puts(t, c, "16", 16, true)
	is(t, c, 17, 16, 8, 0)
}

func TestNoGrowthWhileThereAreOldBuckets(t *testing.T) {
	for keys := 9; keys <= 2*api.MaxBucket+1; keys = 2*keys - 1 {
		c := of(t, keys)
		buckets, old, moved := c.Shape()
		if buckets == api.MaxBucket && old == 0 {
			continue
		}
		if buckets != keys-1 || old != (keys-1)/2 || moved != 0 {
			t.Fatalf("%d keys: %d, %d, %d", keys, buckets, old, moved)
		}
		for i := 1; i < old; i++ {
			puts(t, c, "more "+strconv.Itoa(i), i, true)
			is(t, c, keys+i, buckets, old, i)
		}
		puts(t, c, "last", 0, true)
		is(t, c, keys+old, buckets, 0, 0)
	}
}

func TestPutOfOneThatIsThere(t *testing.T) {
	// Behind 9 keys there are old buckets, behind 8 none; each key is met at each count
	// of moved ones.
	for key := range 9 {
		for ahead := range 6 {
			c := of(t, 9)
			for range ahead {
				drops(t, c, "none", false)
			}
			puts(t, c, strconv.Itoa(key), 100, false)
			gets(t, c, strconv.Itoa(key), 100)
			if ahead < 3 {
				is(t, c, 9, 8, 4, ahead+1)
			} else {
				is(t, c, 9, 8, 0, 0)
			}
			for i := range 9 {
				if i != key {
					gets(t, c, strconv.Itoa(i), i)
				}
			}
			drops(t, c, strconv.Itoa(key), true)
			lacks(t, c, strconv.Itoa(key))
			drops(t, c, strconv.Itoa(key), false)
			is(t, c, 8, 8, ifOld(ahead+3), ifMoved(ahead+3))
		}
	}
}

// ifOld is the old ones of four behind so many steps.
func ifOld(steps int) int {
	if steps < 4 {
		return 4
	}
	return 0
}

// ifMoved is the moved ones of four behind so many steps.
func ifMoved(steps int) int {
	if steps < 4 {
		return steps
	}
	return 0
}

// P6.4

func TestGetMovesNothing(t *testing.T) {
	for steps := range 5 {
		c := of(t, 9)
		for range steps {
			puts(t, c, "0", 0, false)
		}
		for range 3 {
			for i := range 9 {
				gets(t, c, strconv.Itoa(i), i)
			}
			lacks(t, c, "")
			lacks(t, c, "none")
			is(t, c, 9, 8, ifOld(steps), ifMoved(steps))
		}
	}
}

func TestDropMovesFirst(t *testing.T) {
	// A step goes ahead of each Drop, whether the key is there or isn't.
	for _, keys := range [][]string{{"0", "1", "2", "3"}, {"none", "none", "", "none"}, {"0", "none", "0", "1"}} {
		c := of(t, 9)
		left := 9
		for i, key := range keys {
			there := c.Len()
			if c.Drop(key) {
				left--
			}
			if c.Len() != left || left < there-1 {
				t.Fatalf("Drop(%q): Len = %d", key, c.Len())
			}
			is(t, c, left, 8, ifOld(i+1), ifMoved(i+1))
		}
	}
}

func TestDropWhileThereAreOldBuckets(t *testing.T) {
	for at := range uint32(4) {
		// A key of bucket at is dropped when so many are moved: in one that is, one that
		// isn't, and the one that is moved by this very Drop.
		for ahead := range 5 {
			inIt := in(3, "k", at, 4)
			c := chain.New()
			for i, key := range inIt {
				puts(t, c, key, i, true)
			}
			for i := range 6 {
				puts(t, c, "other "+strconv.Itoa(i), i, true)
			}
			is(t, c, 9, 8, 4, 0)
			for range ahead {
				drops(t, c, "none", false)
			}
			drops(t, c, inIt[1], true)
			lacks(t, c, inIt[1])
			gets(t, c, inIt[0], 0)
			gets(t, c, inIt[2], 2)
			is(t, c, 8, 8, ifOld(ahead+1), ifMoved(ahead+1))
			drops(t, c, inIt[1], false)
			puts(t, c, inIt[1], 77, true)
			gets(t, c, inIt[1], 77)
			for range 4 {
				drops(t, c, "none", false)
			}
			is(t, c, 9, 8, 0, 0)
			gets(t, c, inIt[0], 0)
			gets(t, c, inIt[1], 77)
			gets(t, c, inIt[2], 2)
		}
	}
}

func TestDropOfEachOfABucket(t *testing.T) {
	// The first one, the last one and those between, in every order.
	for _, order := range [][]int{{0, 1, 2, 3}, {3, 2, 1, 0}, {1, 0, 3, 2}, {2, 3, 0, 1}, {1, 2, 0, 3}} {
		keys := in(4, "one", 2, 4)
		c := chain.New()
		for i, key := range keys {
			puts(t, c, key, i, true)
		}
		gone := map[int]bool{}
		for _, at := range order {
			drops(t, c, keys[at], true)
			gone[at] = true
			for i, key := range keys {
				if gone[i] {
					lacks(t, c, key)
				} else {
					gets(t, c, key, i)
				}
			}
			is(t, c, 4-len(gone), 4, 0, 0)
		}
	}
}

// P6.5

func TestKeysOfOneBucket(t *testing.T) {
	// All keys stand in one bucket of the old ones, and in one or two of the new ones.
	for at := range uint32(4) {
		for _, buckets := range []uint32{4, 8, 64} {
			c := chain.New()
			keys := in(100, "k", at, buckets)
			for i, key := range keys {
				puts(t, c, key, i, true)
				for j, other := range keys {
					if j <= i {
						gets(t, c, other, j)
					} else {
						lacks(t, c, other)
					}
				}
			}
			for i, key := range keys {
				drops(t, c, key, true)
				lacks(t, c, key)
				for j, other := range keys[i+1:] {
					gets(t, c, other, i+1+j)
				}
			}
			if c.Len() != 0 {
				t.Errorf("Len = %d", c.Len())
			}
		}
	}
}

func TestKeysOfOneHash(t *testing.T) {
	for _, pair := range [][2]string{{"costarring", "liquid"}, {"declinate", "macallums"}, {"altarage", "zinke"}} {
		if chain.Hash(pair[0]) != chain.Hash(pair[1]) {
			t.Fatalf("%q are not of one hash", pair)
		}
		for keys := range 40 {
			c := of(t, keys)
			puts(t, c, pair[0], 1, true)
			lacks(t, c, pair[1])
			puts(t, c, pair[1], 2, true)
			gets(t, c, pair[0], 1)
			gets(t, c, pair[1], 2)
			drops(t, c, pair[0], true)
			lacks(t, c, pair[0])
			gets(t, c, pair[1], 2)
			puts(t, c, pair[0], 3, true)
			drops(t, c, pair[1], true)
			gets(t, c, pair[0], 3)
			lacks(t, c, pair[1])
		}
	}
}

func TestPutWhileThereAreOldBuckets(t *testing.T) {
	// A new key of each bucket, at each count of moved ones: it is there at once, and
	// behind each of the steps that follow.
	for at := range uint32(8) {
		for ahead := range 4 {
			c := of(t, 9)
			for range ahead {
				drops(t, c, "none", false)
			}
			key := in(1, "new", at, 8)[0]
			lacks(t, c, key)
			puts(t, c, key, 55, true)
			for range 5 {
				gets(t, c, key, 55)
				for i := range 9 {
					gets(t, c, strconv.Itoa(i), i)
				}
				drops(t, c, "none", false)
			}
			puts(t, c, key, 56, false)
			gets(t, c, key, 56)
			is(t, c, 10, 8, 0, 0)
		}
	}
}

// P6.6

// plain is what a chain must be: a map, and its shape beside it.
type plain struct {
	keys                map[string]int
	buckets, old, moved int
}

func (p *plain) step() {
	if p.old > 0 {
		p.moved++
	}
	if p.moved == p.old {
		p.old, p.moved = 0, 0
	}
}

func (p *plain) put(key string, n int) bool {
	p.step()
	_, there := p.keys[key]
	p.keys[key] = n
	if !there && p.old == 0 && len(p.keys) > 2*p.buckets && p.buckets < api.MaxBucket {
		p.old, p.buckets = p.buckets, 2*p.buckets
	}
	return !there
}

func (p *plain) drop(key string) bool {
	p.step()
	_, there := p.keys[key]
	delete(p.keys, key)
	return there
}

// same fails if c isn't what p says, with all keys of names asked.
func same(t *testing.T, c *chain.Chain, p *plain, names []string) {
	t.Helper()
	for _, key := range names {
		if n, there := p.keys[key]; there {
			gets(t, c, key, n)
		} else {
			lacks(t, c, key)
		}
	}
	is(t, c, len(p.keys), p.buckets, p.old, p.moved)
}

// play makes calls of both, with names as keys, of which about puts of 100 are Puts.
func play(t *testing.T, seed uint64, calls, putsOf int, names []string) {
	t.Helper()
	c, p := chain.New(), &plain{keys: map[string]int{}, buckets: 4}
	next := chance(seed)
	for call := range calls {
		key := names[next(len(names))]
		switch kind := next(120); {
		case kind >= 100:
			same(t, c, p, []string{key})
		case kind < putsOf:
			n := next(1 << 40)
			puts(t, c, key, n, p.put(key, n))
		default:
			drops(t, c, key, p.drop(key))
		}
		is(t, c, len(p.keys), p.buckets, p.old, p.moved)
		if call%(len(names)+1) == 0 {
			same(t, c, p, names)
		}
	}
	same(t, c, p, names)
}

func TestItIsAMap(t *testing.T) {
	for seed := range uint64(40) {
		for _, count := range []int{1, 5, 9, 12, 20, 40, 150} {
			names := make([]string, count)
			for i := range names {
				names[i] = strings.Repeat("k", i%3) + fmt.Sprint(i/2)
			}
			names[0] = ""
			play(t, seed*7+uint64(count), 600, 55+int(seed), names)
		}
	}
}

func TestItIsAMapOfMany(t *testing.T) {
	names := make([]string, 3*api.MaxBucket)
	for i := range names {
		names[i] = string([]byte{byte(i >> 8), byte(i), byte(i * 37)})
	}
	for _, of := range []int{50, 70, 95} {
		play(t, uint64(of), 100000, of, names)
	}
}

func TestOldBucketsAreMovedInTime(t *testing.T) {
	next := chance(17)
	c := chain.New()
	for keys := 0; keys < 2*api.MaxBucket; {
		if c.Put("key "+strconv.Itoa(next(1<<30)), keys) {
			keys++
		}
		_, old, moved := c.Shape()
		if old == 0 || moved != 0 {
			continue
		}
		// Some steps are Puts, some Drops, of keys that are there and of such as aren't.
		for i := range old {
			if _, o, m := c.Shape(); o != old || m != i {
				t.Fatalf("behind %d of %d: %d, %d", i, old, o, m)
			}
			switch next(4) {
			case 0:
				drops(t, c, "none", false)
			case 1:
				c.Put("x", i)
			case 2:
				c.Drop("x")
			default:
				c.Put("key "+strconv.Itoa(next(1<<30)), 0)
			}
		}
		if _, o, m := c.Shape(); o != 0 || m != 0 {
			t.Fatalf("behind all %d: %d, %d", old, o, m)
		}
		keys = c.Len()
	}
}

// The chapter's runs

func TestRuns(t *testing.T) {
	if got := chain.Hash(""); got != 2166136261 {
		t.Errorf("Hash(nothing) = %d", got)
	}
	if got, want := chain.Hash("a"), (chain.Hash("")^97)*16777619; got != want {
		t.Errorf("Hash(a) = %d, not %d", got, want)
	}
	c := of(t, 9)
	is(t, c, 9, 8, 4, 0)
	puts(t, c, "tenth", 10, true)
	is(t, c, 10, 8, 4, 1)
	puts(t, c, "0", 0, false)
	is(t, c, 10, 8, 4, 2)
}

// R4

func TestTheSameCallsTellTheSame(t *testing.T) {
	var told []string
	for range 2 {
		var text strings.Builder
		c := chain.New()
		next := chance(5)
		for range 3000 {
			key := strconv.Itoa(next(300))
			put, dropped := c.Put(key, next(9)), c.Drop(strconv.Itoa(next(400)))
			buckets, old, moved := c.Shape()
			fmt.Fprintln(&text, put, dropped, c.Len(), buckets, old, moved)
		}
		told = append(told, text.String())
	}
	if told[0] != told[1] {
		t.Error("the same calls told two things")
	}
}
