package rs_test

import (
	"bytes"
	"math"
	"slices"
	"strings"
	"testing"

	"depot/api"
	"depot/gf"
	"depot/rs"
)

// begin is the code of k and m, which must be there.
func begin(t *testing.T, k, m int) *rs.Code {
	t.Helper()
	c, e := rs.New(k, m)
	if c == nil || e != api.OK {
		t.Fatalf("New(%d, %d) = %v, %d", k, m, c, e)
	}
	return c
}

// sizes is every k and m that a code has.
func sizes() [][2]int {
	var all [][2]int
	for k := 1; k <= api.MaxK; k++ {
		for m := 0; k+m <= api.MaxN; m++ {
			all = append(all, [2]int{k, m})
		}
	}
	return all
}

// filled is a value of n bytes that look like chance, but are the same each time.
func filled(n, seed int) string {
	b := make([]byte, n)
	x := uint32(seed)*2654435761 + 12345
	for i := range b {
		x = x*1664525 + 1013904223
		b[i] = byte(x >> 24)
	}
	return string(b)
}

// partsOf is the fragments at the places, in their order.
func partsOf(fragments []string, places ...int) []api.Part {
	var l []api.Part
	for _, at := range places {
		l = append(l, api.Part{At: at, Data: fragments[at]})
	}
	return l
}

// picks is each choice of k of the numbers below n.
func picks(n, k int) [][]int {
	var all [][]int
	for set := range 1 << n {
		var pick []int
		for i := range n {
			if set>>i&1 == 1 {
				pick = append(pick, i)
			}
		}
		if len(pick) == k {
			all = append(all, pick)
		}
	}
	return all
}

// turns is the pick rising, falling, and from its middle on.
func turns(pick []int) [][]int {
	falling := slices.Clone(pick)
	slices.Reverse(falling)
	half := len(pick) / 2
	return [][]int{pick, falling, slices.Concat(pick[half:], pick[:half])}
}

// byFormula is the fragments of a value, each byte reckoned by itself as P3.2 and P2.5 say.
func byFormula(k, m int, value string) []string {
	f := gf.Make()
	size := 0
	for size*k < len(value) {
		size++
	}
	at := func(row, place int) byte {
		if i := row*size + place; i < len(value) {
			return value[i]
		}
		return 0
	}
	fragments := make([]string, k+m)
	for i := range fragments {
		b := make([]byte, size)
		for place := range b {
			for j := range k {
				switch {
				case i >= k:
					b[place] ^= gf.Mul(&f, gf.Inv(&f, byte(i^j)), at(j, place))
				case i == j:
					b[place] = at(j, place)
				}
			}
		}
		fragments[i] = string(b)
	}
	return fragments
}

// mustDecode checks what Decode answers.
func mustDecode(t *testing.T, c *rs.Code, size int, l []api.Part, want string, wantE api.Errno) {
	t.Helper()
	if got, e := c.Decode(size, l...); got != want || e != wantE {
		t.Fatalf("k %d, n %d: Decode(%d, %#v) = %q, %d, want %q, %d", c.K(), c.N(), size, l, got, e, want, wantE)
	}
}

// mustRebuild checks what Rebuild answers.
func mustRebuild(t *testing.T, c *rs.Code, size, at int, l []api.Part, want string, wantE api.Errno) {
	t.Helper()
	if got, e := c.Rebuild(size, at, l...); got != want || e != wantE {
		t.Fatalf("k %d, n %d: Rebuild(%d, %d, %#v) = %q, %d, want %q, %d", c.K(), c.N(), size, at, l, got, e, want, wantE)
	}
}

// checkNew holds New against P3.1.
func checkNew(t *testing.T, k, m int, right bool) {
	t.Helper()
	c, e := rs.New(k, m)
	switch {
	case !right && (c != nil || e != api.ErrArg):
		t.Errorf("New(%d, %d) = %v, %d", k, m, c, e)
	case right && (c == nil || e != api.OK || c.K() != k || c.N() != k+m):
		t.Errorf("New(%d, %d) = %v, %d", k, m, c, e)
	}
}

// P3.1: k from below 1 to above MaxK, m from below 0 to above what k leaves; K and N of those that are.
func TestNew(t *testing.T) {
	for k := -2; k <= api.MaxN+2; k++ {
		for m := -2; m <= api.MaxN+2; m++ {
			checkNew(t, k, m, k >= 1 && k <= 8 && m >= 0 && k+m <= 12)
		}
	}
}

// P3.1: very great ones, whose sum wraps round to a small number, too.
func TestNewFarBeyondItsEnds(t *testing.T) {
	great := []int{math.MinInt, math.MinInt + 1, -1 << 32, -256, 256, 257, 1 << 32, 1<<32 + 2, 1 << 62, math.MaxInt - 1, math.MaxInt}
	for _, n := range great {
		for other := -1; other <= api.MaxN; other++ {
			checkNew(t, n, other, false)
			checkNew(t, other, n, false)
		}
		for _, m := range great {
			checkNew(t, n, m, false)
		}
	}
}

// P3.1: Size is the least that gives n bytes k times, and hangs on k alone.
func TestSize(t *testing.T) {
	for _, q := range sizes() {
		c := begin(t, q[0], q[1])
		want := 0
		for n := range 200 {
			if want*q[0] < n {
				want++
			}
			if got := c.Size(n); got != want {
				t.Errorf("k %d: Size(%d) = %d, want %d", q[0], n, got, want)
			}
		}
	}
}

// P3.1: Size of what is below 0, and of the greatest numbers, where a sum would wrap round.
func TestSizeAtItsEnds(t *testing.T) {
	for k := 1; k <= api.MaxK; k++ {
		c := begin(t, k, 2)
		for _, n := range []int{-1, -2, -k, -k - 1, -1 << 32, math.MinInt, math.MinInt + 1} {
			if got := c.Size(n); got != 0 {
				t.Errorf("k %d: Size(%d) = %d", k, n, got)
			}
		}
		for back := range 20 {
			n := math.MaxInt - back
			want := int((uint64(n) + uint64(k) - 1) / uint64(k))
			if got := c.Size(n); got != want {
				t.Errorf("k %d: Size(%d) = %d, want %d", k, n, got, want)
			}
		}
		if got := c.Size(api.MaxValue + 1); got != api.MaxValue/k+1 {
			t.Errorf("k %d: Size(MaxValue + 1) = %d", k, got)
		}
	}
}

// P3.2: each code, with lengths from nothing to some rows, those that k doesn't divide among them.
func TestEncode(t *testing.T) {
	for _, q := range sizes() {
		c := begin(t, q[0], q[1])
		for n := range 4*q[0] + 2 {
			value := filled(n, n+1)
			if got, want := c.Encode(value), byFormula(q[0], q[1], value); !slices.Equal(got, want) {
				t.Fatalf("%v: Encode(%q) = %q, want %q", q, value, got, want)
			}
		}
	}
}

// P3.2: each byte in each place of the value.
func TestEncodeOfEachByte(t *testing.T) {
	c := begin(t, 3, 4)
	for x := range 256 {
		for place := range 7 {
			b := make([]byte, 7)
			b[place] = byte(x)
			if got, want := c.Encode(string(b)), byFormula(3, 4, string(b)); !slices.Equal(got, want) {
				t.Fatalf("Encode(%q) = %q, want %q", b, got, want)
			}
		}
	}
}

// P3.2: N fragments of Size bytes, of which the first k are the value, with zeros behind it.
func TestEncodeBeginsWithTheValue(t *testing.T) {
	for _, q := range sizes() {
		c := begin(t, q[0], q[1])
		for _, n := range []int{0, 1, 2, 7, 8, 9, 63, 64, 65, 1000} {
			value := filled(n, 3)
			l := c.Encode(value)
			if len(l) != c.N() {
				t.Fatalf("%v: %d bytes have %d fragments", q, n, len(l))
			}
			for i, x := range l {
				if len(x) != c.Size(n) {
					t.Errorf("%v: the fragment %d of %d bytes has %d", q, i, n, len(x))
				}
			}
			zeros := strings.Repeat("\x00", c.K()*c.Size(n)-n)
			if strings.Join(l[:c.K()], "") != value+zeros {
				t.Errorf("%v: the first fragments of %q are %q", q, value, l[:c.K()])
			}
		}
	}
}

// P3.2: the empty value has N empty fragments.
func TestEncodeOfNothing(t *testing.T) {
	for _, q := range sizes() {
		c := begin(t, q[0], q[1])
		if l := c.Encode(""); !slices.Equal(l, make([]string, c.N())) {
			t.Errorf("%v: Encode of nothing = %q", q, l)
		}
	}
}

// P3.2 and P3.3: a value of MaxValue bytes comes back; Encode itself has no greatest length.
func TestGreatValues(t *testing.T) {
	for _, q := range [][2]int{{1, 1}, {2, 1}, {3, 2}, {8, 4}} {
		c := begin(t, q[0], q[1])
		value := filled(api.MaxValue, 9)
		l := c.Encode(value)
		places := []int{}
		for at := c.N() - 1; len(places) < c.K(); at-- {
			places = append(places, at)
		}
		if got, e := c.Decode(api.MaxValue, partsOf(l, places...)...); got != value || e != api.OK {
			t.Errorf("%v: MaxValue bytes don't come back: %d bytes, %d", q, len(got), e)
		}
		if got, e := c.Rebuild(api.MaxValue, 0, partsOf(l, places...)...); got != l[0] || e != api.OK {
			t.Errorf("%v: the fragment 0 of MaxValue bytes doesn't come back: %d bytes, %d", q, len(got), e)
		}
		longer := value + "x"
		joined := strings.Join(c.Encode(longer)[:c.K()], "")
		if !strings.HasPrefix(joined, longer) || len(joined) != c.K()*c.Size(len(longer)) {
			t.Errorf("%v: MaxValue + 1 bytes have fragments of %d bytes", q, len(joined))
		}
	}
}

// P3.3 and P3.5: each choice of k fragments tells the value, in whatever order they come.
func TestAnyKTell(t *testing.T) {
	for _, q := range sizes() {
		c := begin(t, q[0], q[1])
		for _, n := range []int{0, 1, q[0], 2*q[0] + 1} {
			value := filled(n, n+5)
			l := c.Encode(value)
			for _, pick := range picks(c.N(), c.K()) {
				for _, places := range turns(pick) {
					mustDecode(t, c, n, partsOf(l, places...), value, api.OK)
				}
			}
		}
	}
}

// P3.4 and P3.5: each fragment comes back of each choice of k others or of itself.
func TestEachComesBack(t *testing.T) {
	for _, q := range sizes() {
		c := begin(t, q[0], q[1])
		n := 2*q[0] + 1
		l := c.Encode(filled(n, 7))
		for i, pick := range picks(c.N(), c.K()) {
			places := turns(pick)[i%3]
			for at := range c.N() {
				mustRebuild(t, c, n, at, partsOf(l, places...), l[at], api.OK)
			}
		}
	}
}

// P3.3 and P3.4: fewer than k other Ats are too few, however often they came.
func TestTooFew(t *testing.T) {
	for _, q := range sizes() {
		c := begin(t, q[0], q[1])
		n := 3*q[0] - 1
		l := c.Encode(filled(n, 11))
		for few := range q[0] {
			var parts []api.Part
			for i := range few {
				parts = append(parts, partsOf(l, c.N()-1-i)...)
			}
			mustDecode(t, c, n, parts, "", api.ErrShort)
			mustRebuild(t, c, n, 0, parts, "", api.ErrShort)
			often := slices.Concat(parts, parts, parts, parts, parts, parts, parts, parts, parts)
			mustDecode(t, c, n, often, "", api.ErrShort)
			mustRebuild(t, c, n, 0, often, "", api.ErrShort)
		}
		mustDecode(t, c, 0, nil, "", api.ErrShort)
		mustDecode(t, c, 0, []api.Part{}, "", api.ErrShort)
		mustRebuild(t, c, 0, 0, nil, "", api.ErrShort)
	}
}

// P3.3: of an At that came twice the first counts, and the second isn't one of k.
func TestThoseThatCameTwice(t *testing.T) {
	for _, q := range sizes() {
		c := begin(t, q[0], q[1])
		n := 2 * q[0]
		value := filled(n, 13)
		l := c.Encode(value)
		for _, pick := range picks(c.N(), c.K()) {
			var parts []api.Part
			for i, at := range pick {
				parts = append(parts, partsOf(l, at)...)
				parts = append(parts, api.Part{At: at, Data: "??"}, api.Part{At: pick[0], Data: "!!"}, api.Part{At: pick[i/2], Data: "::"})
			}
			mustDecode(t, c, n, parts, value, api.OK)
			mustRebuild(t, c, n, c.N()-1, parts, l[c.N()-1], api.OK)
		}
	}
}

// P3.3: what comes behind the first k of other Ats plays no part, as long as it is in form.
func TestTheFirstKCount(t *testing.T) {
	for _, q := range sizes() {
		c := begin(t, q[0], q[1])
		n := 2 * q[0]
		value := filled(n, 17)
		l := c.Encode(value)
		for _, pick := range picks(c.N(), c.K()) {
			parts := partsOf(l, pick...)
			for at := range c.N() {
				parts = append(parts, api.Part{At: at, Data: "??"})
			}
			mustDecode(t, c, n, parts, value, api.OK)
			mustRebuild(t, c, n, 0, parts, l[0], api.OK)
		}
	}
}

// P3.3: whatever bytes k fragments have, what is told has these fragments, if k divides the size.
func TestTheValueHasTheseFragments(t *testing.T) {
	for _, q := range sizes() {
		c := begin(t, q[0], q[1])
		for seed, pick := range picks(c.N(), c.K()) {
			var parts []api.Part
			for _, at := range pick {
				parts = append(parts, api.Part{At: at, Data: filled(3, seed*100+at)})
			}
			value, e := c.Decode(3*q[0], parts...)
			if e != api.OK || len(value) != 3*q[0] {
				t.Fatalf("%v, %v: %q, %d", q, pick, value, e)
			}
			l := byFormula(q[0], q[1], value)
			if !slices.Equal(partsOf(l, pick...), parts) {
				t.Fatalf("%v: %q has not the fragments %#v", q, value, parts)
			}
			for at, want := range l {
				mustRebuild(t, c, 3*q[0], at, parts, want, api.OK)
			}
		}
	}
}

// P3.3: a byte behind size that isn't 0, at each place behind it, is not in form, whichever fragments tell it.
func TestBytesBehindTheValue(t *testing.T) {
	for _, q := range [][2]int{{2, 1}, {2, 4}, {3, 3}, {4, 2}, {5, 0}, {8, 4}} {
		c := begin(t, q[0], q[1])
		for size := range 3 * q[0] {
			whole := c.K() * c.Size(size)
			for place := size; place < whole; place++ {
				b := []byte(filled(size, 19) + strings.Repeat("\x00", whole-size))
				b[place] = byte(1 << (place % 8))
				l := c.Encode(string(b))
				for _, pick := range [][]int{picks(c.N(), c.K())[0], lastOnes(c)} {
					mustDecode(t, c, size, partsOf(l, pick...), "", api.ErrForm)
					mustRebuild(t, c, size, 0, partsOf(l, pick...), "", api.ErrForm)
					mustDecode(t, c, whole, partsOf(l, pick...), string(b), api.OK)
				}
			}
		}
	}
}

// lastOnes is the last k places.
func lastOnes(c *rs.Code) []int {
	var places []int
	for at := c.N() - c.K(); at < c.N(); at++ {
		places = append(places, at)
	}
	return places
}

// P3.3: a 0 that ends the value is told with it: the size says where it ends.
func TestZerosOfTheValue(t *testing.T) {
	c := begin(t, 3, 2)
	for size := range 10 {
		value := strings.Repeat("\x00", size)
		l := c.Encode(value)
		mustDecode(t, c, size, partsOf(l, 4, 1, 3), value, api.OK)
	}
	l := c.Encode("ab\x00")
	mustDecode(t, c, 3, partsOf(l, 4, 1, 3), "ab\x00", api.OK)
	mustDecode(t, c, 2, partsOf(l, 4, 1, 3), "ab", api.OK)
	mustDecode(t, c, 1, partsOf(l, 4, 1, 3), "", api.ErrForm)
}

// P3.3 and P3.4: a size that can't be comes ahead of all that is wrong with the fragments.
func TestSizesThatCantBe(t *testing.T) {
	c := begin(t, 2, 1)
	l := c.Encode("abc")
	lists := [][]api.Part{nil, partsOf(l, 0, 1), partsOf(l, 0), {{At: -1}}, {{At: 3, Data: "x"}, {At: 7}}, {{At: 0}, {At: 1}}}
	for _, size := range []int{-1, -3, math.MinInt, api.MaxValue + 1, api.MaxValue + 2, 1 << 32, 1<<32 + 3, math.MaxInt} {
		for _, parts := range lists {
			mustDecode(t, c, size, parts, "", api.ErrArg)
			mustRebuild(t, c, size, 0, parts, "", api.ErrArg)
		}
	}
	for _, size := range []int{0, 1, api.MaxValue - 1, api.MaxValue} {
		mustDecode(t, c, size, nil, "", api.ErrShort)
		mustRebuild(t, c, size, 2, nil, "", api.ErrShort)
	}
}

// P3.3: size 0 has fragments without bytes alone.
func TestSizeZero(t *testing.T) {
	for _, q := range sizes() {
		c := begin(t, q[0], q[1])
		var parts []api.Part
		for _, at := range lastOnes(c) {
			parts = append(parts, api.Part{At: at})
		}
		mustDecode(t, c, 0, parts, "", api.OK)
		mustRebuild(t, c, 0, 0, parts, "", api.OK)
		for i := range parts {
			wrong := slices.Clone(parts)
			wrong[i].Data = "\x00"
			mustDecode(t, c, 0, wrong, "", api.ErrForm)
			mustRebuild(t, c, 0, 0, wrong, "", api.ErrForm)
		}
	}
}

// faults is fragments that aren't in form for three bytes of the code of 2 and 1.
func faults() []api.Part {
	return []api.Part{
		{At: -1, Data: "xx"}, {At: 3, Data: "xx"}, {At: 4, Data: "xx"}, {At: 256, Data: "xx"},
		{At: 1 << 32, Data: "xx"}, {At: math.MinInt, Data: "xx"}, {At: math.MaxInt, Data: "xx"},
		{At: 0}, {At: 1, Data: "x"}, {At: 2, Data: "xxx"}, {At: 0, Data: "ab\x00"}, {At: 2, Data: strings.Repeat("x", 1000)},
		{At: -1}, {At: 3, Data: "xxx"},
	}
}

// P3.3 and P3.4: a fragment that isn't in form, wherever it stands: alone, ahead of too few, behind enough.
func TestFragmentsNotInForm(t *testing.T) {
	c := begin(t, 2, 1)
	l := c.Encode("abc")
	for _, wrong := range faults() {
		for _, good := range [][]api.Part{nil, partsOf(l, 0), partsOf(l, 0, 0, 0), partsOf(l, 0, 1), partsOf(l, 2, 1), partsOf(l, 0, 1, 2), partsOf(l, 0, 0, 1, 1, 2)} {
			for place := range len(good) + 1 {
				parts := slices.Insert(slices.Clone(good), place, wrong)
				mustDecode(t, c, 3, parts, "", api.ErrForm)
				for at := range 3 {
					mustRebuild(t, c, 3, at, parts, "", api.ErrForm)
				}
			}
		}
	}
}

// P3.3: how long a Data must be hangs on the size: one more or one fewer than it has is not in form.
func TestDataOfAnotherLength(t *testing.T) {
	for _, q := range sizes() {
		c := begin(t, q[0], q[1])
		for _, size := range []int{1, q[0], q[0] + 1, 40} {
			l := c.Encode(filled(size, 23))
			for _, other := range []int{size - 1, size + 1, size - q[0], size + q[0], 2 * size} {
				if other >= 0 && c.Size(other) != c.Size(size) {
					mustDecode(t, c, other, partsOf(l, lastOnes(c)...), "", api.ErrForm)
				}
			}
		}
	}
}

// P3.4: an at that is no fragment is ErrArg, whatever else is wrong.
func TestRebuildOfNoPlace(t *testing.T) {
	for _, q := range sizes() {
		c := begin(t, q[0], q[1])
		n := 2*q[0] - 1
		l := c.Encode(filled(n, 29))
		for _, at := range []int{-1, -2, -c.N(), c.N(), c.N() + 1, api.MaxN + 1, 256, 1 << 32, math.MinInt, math.MaxInt} {
			mustRebuild(t, c, n, at, partsOf(l, lastOnes(c)...), "", api.ErrArg)
			mustRebuild(t, c, n, at, nil, "", api.ErrArg)
			mustRebuild(t, c, n, at, []api.Part{{At: -1, Data: "x"}}, "", api.ErrArg)
			mustRebuild(t, c, -1, at, nil, "", api.ErrArg)
		}
		for _, at := range []int{0, c.N() - 1} {
			mustRebuild(t, c, n, at, partsOf(l, lastOnes(c)...), l[at], api.OK)
		}
	}
}

// sum is two fragments' sum.
func sum(a, b string) string {
	s := []byte(a)
	for i := range s {
		s[i] ^= b[i]
	}
	return string(s)
}

// times is a text, each byte times x.
func times(x byte, a string) string {
	f := gf.Make()
	s := []byte(a)
	for i := range s {
		s[i] = gf.Mul(&f, x, s[i])
	}
	return string(s)
}

// P3.5: the sum's fragments are the fragments' sums, a multiple's their multiples; so with what is told.
func TestLinear(t *testing.T) {
	for _, q := range sizes() {
		c := begin(t, q[0], q[1])
		for n := range 3 * q[0] {
			a, b, x := filled(n, n+31), filled(n, n+37), byte(n*41+2)
			la, lb, both, more := c.Encode(a), c.Encode(b), c.Encode(sum(a, b)), c.Encode(times(x, a))
			for i := range la {
				if both[i] != sum(la[i], lb[i]) || more[i] != times(x, la[i]) {
					t.Fatalf("%v: the fragment %d of %q and %q isn't linear", q, i, a, b)
				}
			}
			var parts []api.Part
			for _, at := range lastOnes(c) {
				parts = append(parts, api.Part{At: at, Data: sum(times(x, la[at]), lb[at])})
			}
			mustDecode(t, c, n, parts, sum(times(x, a), b), api.OK)
		}
	}
}

// other is how many fragments of the two differ.
func other(a, b []string) int {
	n := 0
	for i := range a {
		if a[i] != b[i] {
			n++
		}
	}
	return n
}

// P3.5: two values of one length that differ have at least m + 1 other fragments.
func TestValuesThatDiffer(t *testing.T) {
	for _, q := range sizes() {
		c := begin(t, q[0], q[1])
		n := 2*q[0] + 1
		value := filled(n, 43)
		l := c.Encode(value)
		for seed := range 200 {
			b := []byte(value)
			// Of few changes on to all: the fewer, the fewer fragments may differ.
			for i := range b {
				if seed < n && i == seed || seed >= n && filled(n, seed)[i]%byte(seed%5+1) == 0 {
					b[i] ^= byte(seed + 1)
				}
			}
			if string(b) == value {
				continue
			}
			if got := other(l, c.Encode(string(b))); got < q[1]+1 {
				t.Fatalf("%v: %q and %q have %d other fragments", q, value, b, got)
			}
		}
	}
}

// P3.5: one byte changed changes its own fragment and all m others, no more and no fewer.
func TestOneByteThatDiffers(t *testing.T) {
	for _, q := range sizes() {
		c := begin(t, q[0], q[1])
		n := 2 * q[0]
		value := filled(n, 47)
		l := c.Encode(value)
		for place := range n {
			b := []byte(value)
			b[place] ^= 0x40
			if got := other(l, c.Encode(string(b))); got != q[1]+1 {
				t.Errorf("%v: a change at %d has %d other fragments", q, place, got)
			}
		}
	}
}

// P3.5: the least number is met also by values that differ in all of the first fragments but few.
func TestValuesAsNearAsCanBe(t *testing.T) {
	for _, q := range sizes() {
		c := begin(t, q[0], q[1])
		zeros := c.Encode(strings.Repeat("\x00", q[0]))
		for _, pick := range picks(c.N(), c.K()) {
			// k fragments of which k - 1 are 0 tell the value nearest to zeros.
			parts := partsOf(zeros, pick...)
			parts[0].Data = "\x01"
			value, e := c.Decode(q[0], parts...)
			if got := other(zeros, c.Encode(value)); e != api.OK || got != q[1]+1 {
				t.Fatalf("%v, %v: %q has %d fragments that aren't 0", q, pick, value, got)
			}
		}
	}
}

// The chapter's runs.
func TestRuns(t *testing.T) {
	c := begin(t, 2, 1)
	l := c.Encode("abc")
	// The third is 8E times the first and F4 times the second.
	f := gf.Make()
	third := string([]byte{gf.Mul(&f, 0x8e, 'a') ^ gf.Mul(&f, 0xf4, 'c'), gf.Mul(&f, 0x8e, 'b')})
	if !slices.Equal(l, []string{"ab", "c\x00", third}) {
		t.Errorf("Encode(abc) = %q", l)
	}
	mustDecode(t, c, 3, partsOf(l, 2, 0), "abc", api.OK)
	mustRebuild(t, c, 3, 1, partsOf(l, 2, 0), "c\x00", api.OK)
	if c, e := rs.New(0, 1); c != nil || e != api.ErrArg {
		t.Errorf("New(0, 1) = %v, %d", c, e)
	}
	for at := range 3 {
		mustDecode(t, c, 3, partsOf(l, at), "", api.ErrShort)
	}
	if got := c.Encode(""); !slices.Equal(got, []string{"", "", ""}) {
		t.Errorf("Encode of nothing = %q", got)
	}
}

// R2: a list that is handed in stays as it was, the room behind it and its order included.
func TestWhatIsHandedInStays(t *testing.T) {
	for _, q := range sizes() {
		c := begin(t, q[0], q[1])
		n := 3*q[0] - 1
		l := c.Encode(filled(n, 53))
		full := append(partsOf(l, lastOnes(c)...), partsOf(l, 0, 0)...)
		slices.Reverse(full)
		full = append(full, api.Part{At: -7, Data: "behind"}, api.Part{At: -8, Data: "behind"})
		was := slices.Clone(full)
		for long := range len(full) + 1 {
			for _, size := range []int{-1, 0, n, n + 1, n + 2} {
				c.Decode(size, full[:long]...)
				c.Rebuild(size, 0, full[:long]...)
				c.Rebuild(size, c.N(), full[:long]...)
			}
		}
		if !slices.Equal(full, was) {
			t.Errorf("%v: the list is %#v, was %#v", q, full, was)
		}
	}
}

// R5: fragments behind a list's length aren't read.
func TestRoomBehindIsNotRead(t *testing.T) {
	c := begin(t, 3, 2)
	l := c.Encode("abcdefg")
	full := append(partsOf(l, 4, 1, 3), api.Part{At: 9, Data: "?"})
	mustDecode(t, c, 7, full[:3], "abcdefg", api.OK)
	mustDecode(t, c, 7, full[:2], "", api.ErrShort)
	mustDecode(t, c, 7, full, "", api.ErrForm)
}

// R2: an answer's list is the caller's: neither another answer nor the code hangs on it.
func TestAnswersAreNewMemory(t *testing.T) {
	c := begin(t, 3, 2)
	want := slices.Clone(c.Encode("abcdefgh"))
	first, second := c.Encode("abcdefgh"), c.Encode("abcdefgh")
	whole := first[:cap(first)]
	for i := range whole {
		whole[i] = "spoilt"
	}
	if third := c.Encode("abcdefgh"); !slices.Equal(second, want) || !slices.Equal(third, want) {
		t.Errorf("%q and %q, want %q", second, third, want)
	}
	mustDecode(t, c, 8, partsOf(want, 3, 4, 0), "abcdefgh", api.OK)
}

// R3: a call, refused or not, changes nothing of the code: each answers as a new code does.
func TestCallsLeaveTheCode(t *testing.T) {
	for _, q := range sizes() {
		c := begin(t, q[0], q[1])
		for n := range 20 {
			value := filled(n, 59)
			l := c.Encode(value)
			c.Decode(-1)
			c.Decode(n, api.Part{At: -1})
			c.Decode(n)
			c.Rebuild(n, -1)
			c.Rebuild(n, 0, partsOf(l, 0)...)
			mustDecode(t, c, n, partsOf(l, lastOnes(c)...), value, api.OK)
			if again := begin(t, q[0], q[1]).Encode(value); !slices.Equal(again, l) || !slices.Equal(c.Encode(value), l) {
				t.Fatalf("%v: %q, then %q", q, l, again)
			}
		}
		if c.K() != q[0] || c.N() != q[0]+q[1] {
			t.Errorf("%v: K %d, N %d", q, c.K(), c.N())
		}
	}
}

// R8: codes that were made beside each other don't touch each other.
func TestCodesBesideEachOther(t *testing.T) {
	var codes []*rs.Code
	for _, q := range sizes() {
		codes = append(codes, begin(t, q[0], q[1]))
	}
	value := filled(50, 61)
	for i, q := range sizes() {
		if got, want := codes[i].Encode(value), byFormula(q[0], q[1], value); !slices.Equal(got, want) {
			t.Errorf("%v: %q, want %q", q, got, want)
		}
	}
}

// R5: texts are bytes: what isn't UTF-8 comes back as it was.
func TestTextsAreBytes(t *testing.T) {
	all := make([]byte, 256)
	for i := range all {
		all[i] = byte(255 - i)
	}
	c := begin(t, 5, 3)
	l := c.Encode(string(all))
	got, e := c.Decode(256, partsOf(l, 7, 6, 5, 4, 3)...)
	if e != api.OK || !bytes.Equal([]byte(got), all) {
		t.Errorf("%q, %d", got, e)
	}
}
