package place_test

import (
	"math"
	"slices"
	"strconv"
	"strings"
	"testing"

	"depot/api"
	"depot/chain"
	"depot/place"
)

// known is keys with their hashes, written out.
func known() map[string]uint64 {
	return map[string]uint64{
		"": 2166136261, "a": 3826002220, "b": 3876335077, "f": 3809224601, "fo": 1646454850, "foo": 2851307223,
		"foob": 1062237935, "fooba": 967483786, "foobar": 3214735720, "\x00": 84696351,
	}
}

// keys is the known ones, and others: of bytes above 127, of runes, of great and small hashes, too long to be stored.
func keys() []string {
	l := []string{
		"", "a", "b", "f", "fo", "foo", "foob", "fooba", "foobar", "\x00", "A", "a\x00", "a b", "key", "another", "a\r\n",
		"\x7f", "\x80", "\xff", "\xff\xfe", "\x80\x80\x80", "\xc3", "\xed\xa0\x80", "é", "日本",
		strings.Repeat("k", api.MaxKey), strings.Repeat("k", api.MaxKey+1), strings.Repeat("\xf0", 3000),
	}
	return append(append(l, hashed(0, 1<<20)...), append(hashed(1<<31-1<<20, 1<<31+1<<20), hashed(1<<32-1<<20, 1<<32)...)...)
}

// hashed is a few keys whose hashes are from least on, and below most.
func hashed(least, most uint64) []string {
	var l []string
	for i := 0; len(l) < 4; i++ {
		key := strconv.Itoa(i)
		if h := hash(key); h >= least && h < most {
			l = append(l, key)
		}
	}
	return l
}

// hash reckons a key's hash with greater numbers, the rest of 2^32 taken of each product.
func hash(key string) uint64 {
	h := uint64(2166136261)
	for _, b := range []byte(key) {
		h = (h ^ uint64(b)) * 16777619 % (1 << 32)
	}
	return h
}

// stripe is P16.1 by counting: the slot that stands hash steps behind slot 0 comes first, each further one is a step on, and behind the last one comes 0.
func stripe(h uint64, n, slots int) []int {
	if slots < 1 || slots > 12 || n < 0 || n > slots {
		return nil
	}
	// Whole rounds lead to where they began.
	at := 0
	for range h - h/uint64(slots)*uint64(slots) {
		at = next(at, slots)
	}
	var l []int
	for len(l) < n {
		l = append(l, at)
		at = next(at, slots)
	}
	return l
}

// next is the slot behind that one.
func next(slot, slots int) int {
	if slot++; slot < slots {
		return slot
	}
	return 0
}

// numbers is those about each limit, and about the bounds of int and of 32 bits.
func numbers() []int {
	l := []int{math.MinInt, math.MinInt + 1, math.MinInt + 2, math.MaxInt - 2, math.MaxInt - 1, math.MaxInt}
	for _, n := range []int{-1 << 62, -1 << 32, -1 << 31, 1 << 31, 1 << 32, 1 << 33, 1 << 62} {
		l = append(l, n-1, n, n+1, n+2, n+12)
	}
	for n := -30; n <= 30; n++ {
		l = append(l, n)
	}
	return l
}

// isStripe fails if Stripe doesn't tell just these.
func isStripe(t *testing.T, key string, n, slots int, want ...int) {
	t.Helper()
	if got := place.Stripe(key, n, slots); !slices.Equal(got, want) {
		t.Errorf("Stripe(%.20q, %d, %d) = %v, not %v", key, n, slots, got, want)
	}
}

// isPosition fails if Position doesn't tell that place.
func isPosition(t *testing.T, key string, n, slots, slot, want int) {
	t.Helper()
	if got := place.Position(key, n, slots, slot); got != want {
		t.Errorf("Position(%.20q, %d, %d, %d) = %d, not %d", key, n, slots, slot, got, want)
	}
}

// isMetas fails if Metas doesn't tell just these.
func isMetas(t *testing.T, key string, m, slots int, want ...int) {
	t.Helper()
	if got := place.Metas(key, m, slots); !slices.Equal(got, want) {
		t.Errorf("Metas(%.20q, %d, %d) = %v, not %v", key, m, slots, got, want)
	}
}

// The limit is the document's, and the keys are what they are said to be.
func TestWhatIsTakenForGranted(t *testing.T) {
	if api.MaxN != 12 {
		t.Error("MaxN is", api.MaxN)
	}
	for key, h := range known() {
		if hash(key) != h || uint64(chain.Hash(key)) != h {
			t.Errorf("%q: %d, %d, not %d", key, hash(key), chain.Hash(key), h)
		}
	}
	for _, key := range keys() {
		if uint64(chain.Hash(key)) != hash(key) {
			t.Errorf("%.20q: %d, not %d", key, chain.Hash(key), hash(key))
		}
	}
}

// P16.1

func TestStripeOfKnownHashes(t *testing.T) {
	// 3826002220, 2166136261 and 3214735720, each by 1 to 12.
	for key, firsts := range map[string][12]int{
		"a":      {0, 0, 1, 0, 0, 4, 5, 4, 7, 0, 7, 4},
		"":       {0, 1, 1, 1, 1, 1, 2, 5, 7, 1, 3, 1},
		"foobar": {0, 0, 1, 0, 0, 4, 0, 0, 7, 0, 9, 4},
	} {
		for i, first := range firsts {
			isStripe(t, key, 1, i+1, first)
		}
	}
	isStripe(t, "a", 4, 6, 4, 5, 0, 1)
	isStripe(t, "a", 6, 6, 4, 5, 0, 1, 2, 3)
	isStripe(t, "a", 3, 12, 4, 5, 6)
	isStripe(t, "", 3, 9, 7, 8, 0)
	isStripe(t, "", 8, 8, 5, 6, 7, 0, 1, 2, 3, 4)
	isStripe(t, "foobar", 3, 11, 9, 10, 0)
	isStripe(t, "foobar", 12, 12, 4, 5, 6, 7, 8, 9, 10, 11, 0, 1, 2, 3)
}

func TestStripeAtEachEdge(t *testing.T) {
	// The hash of "a" by 12 is 4.
	for _, slots := range []int{math.MinInt, math.MinInt + 1, -12, -2, -1, 0, 13, 14, 256, 1 << 32, 1<<32 + 12, math.MaxInt - 1, math.MaxInt} {
		for _, n := range []int{math.MinInt, -1, 0, 1, 2, 12, 13, slots, math.MaxInt} {
			isStripe(t, "a", n, slots)
		}
	}
	for slots := 1; slots <= 12; slots++ {
		for _, n := range []int{math.MinInt, math.MinInt + 1, -slots, -1, 0, slots + 1, slots + 2, 13, 24, 1 << 32, 1<<32 + 1, math.MaxInt - 1, math.MaxInt} {
			isStripe(t, "a", n, slots)
		}
		for _, n := range []int{1, slots} {
			if got := place.Stripe("a", n, slots); len(got) != n || got[0] != 3826002220%slots {
				t.Errorf("Stripe(a, %d, %d) = %v", n, slots, got)
			}
		}
	}
	isStripe(t, "a", 1, 1, 0)
	isStripe(t, "a", 1, 12, 4)
	isStripe(t, "a", 12, 12, 4, 5, 6, 7, 8, 9, 10, 11, 0, 1, 2, 3)
}

// Each n of each count of slots, of many keys.
func TestStripeOfManyKeys(t *testing.T) {
	for _, key := range keys() {
		h := hash(key)
		for _, slots := range numbers() {
			for _, n := range numbers() {
				isStripe(t, key, n, slots, stripe(h, n, slots)...)
			}
		}
	}
	for i := range 20000 {
		key := "key " + strconv.Itoa(i)
		slots := 1 + i%12
		n := i / 12 % (slots + 1)
		isStripe(t, key, n, slots, stripe(hash(key), n, slots)...)
	}
}

// Hashes that are below 0 as numbers of 32 bits with a sign.
func TestStripeOfGreatHashes(t *testing.T) {
	for _, key := range append(hashed(1<<31, 1<<31+1<<20), hashed(1<<32-1<<20, 1<<32)...) {
		for slots := 1; slots <= 12; slots++ {
			l := place.Stripe(key, slots, slots)
			if len(l) != slots || uint64(l[0]) != hash(key)%uint64(slots) {
				t.Errorf("Stripe(%q, %d, %d) = %v, its hash being %d", key, slots, slots, l, hash(key))
			}
			for _, slot := range l {
				if slot < 0 || slot >= slots {
					t.Errorf("Stripe(%q, %d, %d) = %v", key, slots, slots, l)
				}
			}
		}
	}
}

// A shorter stripe is where a longer one begins.
func TestStripeOfFewerIsTheBeginning(t *testing.T) {
	for _, key := range keys() {
		for slots := 1; slots <= 12; slots++ {
			all := place.Stripe(key, slots, slots)
			for n := range slots + 1 {
				isStripe(t, key, n, slots, all[:n]...)
			}
		}
	}
}

// Each slot begins the stripe of some key, and no slot that of far more keys than another one.
func TestEachSlotComesFirst(t *testing.T) {
	for slots := 1; slots <= 12; slots++ {
		counts := make([]int, slots)
		for i := range 12000 {
			counts[place.Stripe("key "+strconv.Itoa(i), 1, slots)[0]]++
		}
		if most := 12000 / slots; slices.Min(counts) < most/2 || slices.Max(counts) > 2*most {
			t.Errorf("of %d slots: %v", slots, counts)
		}
	}
}

func TestPosition(t *testing.T) {
	// The stripe is 4, 5, 0, 1.
	for slot, want := range []int{2, 3, -1, -1, 0, 1} {
		isPosition(t, "a", 4, 6, slot, want)
	}
	for _, slot := range []int{math.MinInt, math.MinInt + 1, -6, -2, -1, 6, 7, 10, 12, 1 << 32, 1<<32 + 4, math.MaxInt - 1, math.MaxInt} {
		isPosition(t, "a", 4, 6, slot, -1)
		isPosition(t, "a", 6, 6, slot, -1)
	}
	isPosition(t, "a", 1, 1, 0, 0)
	isPosition(t, "a", 1, 1, 1, -1)
	isPosition(t, "a", 1, 1, -1, -1)
	isPosition(t, "a", 12, 12, 11, 7)
	isPosition(t, "a", 12, 12, 0, 8)
	isPosition(t, "a", 12, 12, 3, 11)
	isPosition(t, "a", 11, 12, 3, -1)
	isPosition(t, "a", 0, 12, 4, -1)
}

// Where there is no stripe, no slot stands, -1 and 0 neither.
func TestPositionWhereThereIsNoStripe(t *testing.T) {
	for _, slot := range []int{math.MinInt, -1, 0, 1, 4, 5, 12, 13, math.MaxInt} {
		for _, c := range [][2]int{{1, 0}, {0, 0}, {1, -1}, {-1, -1}, {1, 13}, {13, 13}, {0, 13}, {-1, 5}, {0, 5}, {6, 5}, {13, 12}, {math.MinInt, 5},
			{math.MaxInt, 5}, {1, math.MinInt}, {1, math.MaxInt}, {math.MaxInt, math.MaxInt}, {math.MinInt, math.MinInt}} {
			for _, key := range []string{"", "a", "\xff"} {
				isPosition(t, key, c[0], c[1], slot, -1)
			}
		}
	}
}

// Each slot of each stripe, of many keys, and each number about a limit.
func TestPositionOfManyKeys(t *testing.T) {
	for _, key := range keys() {
		h := hash(key)
		for slots := -1; slots <= 14; slots++ {
			for n := -1; n <= slots+1; n++ {
				l := stripe(h, n, slots)
				for _, slot := range numbers() {
					isPosition(t, key, n, slots, slot, slices.Index(l, slot))
				}
			}
		}
	}
}

// P16.2

func TestMetas(t *testing.T) {
	isMetas(t, "a", 0, 6, 4)
	isMetas(t, "a", 1, 6, 4, 5)
	isMetas(t, "a", 2, 6, 4, 5, 0)
	isMetas(t, "a", 5, 6, 4, 5, 0, 1, 2, 3)
	isMetas(t, "", 1, 8, 5, 6)
	isMetas(t, "", 0, 1, 0)
	isMetas(t, "foobar", 11, 12, 4, 5, 6, 7, 8, 9, 10, 11, 0, 1, 2, 3)
}

func TestMetasAtEachEdge(t *testing.T) {
	for slots := 1; slots <= 12; slots++ {
		for _, m := range []int{math.MinInt, math.MinInt + 1, -slots, -2, -1, slots, slots + 1, 12, 13, 1<<32 - 1, 1 << 32, math.MaxInt - 1, math.MaxInt} {
			isMetas(t, "a", m, slots)
		}
		for _, m := range []int{0, slots - 1} {
			isMetas(t, "a", m, slots, stripe(3826002220, m+1, slots)...)
		}
	}
	for _, slots := range []int{math.MinInt, math.MinInt + 1, -1, 0, 13, 14, 1<<32 + 5, math.MaxInt - 1, math.MaxInt} {
		for _, m := range []int{math.MinInt, -2, -1, 0, 1, 11, 12, 13, slots - 1, slots, math.MaxInt} {
			isMetas(t, "a", m, slots)
		}
	}
}

func TestMetasOfManyKeys(t *testing.T) {
	for _, key := range keys() {
		h := hash(key)
		for _, slots := range numbers() {
			for _, m := range numbers() {
				if m < 0 || m == math.MaxInt {
					isMetas(t, key, m, slots)
					continue
				}
				isMetas(t, key, m, slots, stripe(h, m+1, slots)...)
				isMetas(t, key, m, slots, place.Stripe(key, m+1, slots)...)
			}
		}
	}
}

// P16.3

func TestNoSlotStandsTwice(t *testing.T) {
	check := func(key string, n, slots int) {
		l := place.Stripe(key, n, slots)
		seen := make([]int, slots)
		for i, slot := range l {
			if seen[slot]++; seen[slot] > 1 {
				t.Fatalf("Stripe(%.20q, %d, %d) = %v: %d stands twice", key, n, slots, l, slot)
			}
			isPosition(t, key, n, slots, slot, i)
		}
		if len(l) != n || n == slots && slices.Contains(seen, 0) {
			t.Fatalf("Stripe(%.20q, %d, %d) = %v", key, n, slots, l)
		}
	}
	all := keys()
	for i := range 500 {
		all = append(all, "key "+strconv.Itoa(i))
	}
	for _, key := range all {
		for slots := 1; slots <= 12; slots++ {
			for n := range slots + 1 {
				check(key, n, slots)
			}
		}
	}
}

// R2: what is told is new memory, its spare room too; whatever is written there, other answers stay.
func TestWhatIsToldIsNewMemory(t *testing.T) {
	spoil := func(l []int) {
		l = l[:cap(l)]
		for i := range l {
			l[i] = -7
		}
	}
	for slots := 1; slots <= 12; slots++ {
		for n := range slots + 1 {
			want := stripe(hash("key"), n, slots)
			kept := place.Stripe("key", n, slots)
			spoil(place.Stripe("key", n, slots))
			spoil(place.Stripe("key", slots, slots))
			spoil(place.Metas("key", n-1, slots))
			if !slices.Equal(kept, want) {
				t.Errorf("what was told of %d, %d became %v", n, slots, kept)
			}
			isStripe(t, "key", n, slots, want...)
			isMetas(t, "key", n-1, slots, want...)
			held := place.Metas("key", n-1, slots)
			spoil(kept)
			spoil(place.Metas("key", n-1, slots))
			if !slices.Equal(held, want) {
				t.Errorf("what was told of %d, %d became %v", n-1, slots, held)
			}
			for at, slot := range want {
				isPosition(t, "key", n, slots, slot, at)
			}
		}
	}
}

// R4: the same key has the same stripe, whatever was asked between, and wherever its bytes stand.
func TestTheSameKeyHasTheSameStripe(t *testing.T) {
	for _, key := range keys() {
		first := place.Stripe(key, 5, 9)
		for i := range 50 {
			place.Stripe(strconv.Itoa(i), i%14, i%15)
			place.Position(key, i%14, i%15, i)
			place.Metas(key, i, 12)
			cut := ("x" + key + "y")[1 : 1+len(key)]
			isStripe(t, cut, 5, 9, first...)
			isMetas(t, cut, 4, 9, first...)
			isPosition(t, cut, 5, 9, first[i%5], i%5)
		}
	}
}

// Runs

func TestRuns(t *testing.T) {
	l := place.Stripe("a", 3, 5)
	if len(l) != 3 || l[1] != (l[0]+1)%5 || l[2] != (l[1]+1)%5 {
		t.Fatal(l)
	}
	isStripe(t, "a", 3, 5, 0, 1, 2)
	isPosition(t, "a", 3, 5, 1, 1)
	isMetas(t, "a", 1, 5, l[:2]...)
	isStripe(t, "a", 6, 5)
}
