package matrix_test

import (
	"bytes"
	"math"
	"slices"
	"testing"

	"depot/api"
	"depot/gf"
	"depot/matrix"
)

func same(a, b [][]byte) bool { return slices.EqualFunc(a, b, bytes.Equal) }

// filled is a matrix of numbers that look like chance, but are the same each time.
func filled(high, wide, seed int) [][]byte {
	m := make([][]byte, high)
	x := uint32(seed)*2654435761 + 12345
	for i := range m {
		m[i] = make([]byte, wide)
		for j := range m[i] {
			x = x*1664525 + 1013904223
			m[i][j] = byte(x >> 24)
		}
	}
	return m
}

// thin is filled, with the lowest bits alone: many zeros, many rows that hang together.
func thin(high, wide, seed int, bits byte) [][]byte {
	m := filled(high, wide, seed)
	for _, row := range m {
		for j := range row {
			row[j] &= bits
		}
	}
	return m
}

// minor is what m is without its row 0 and the column at the place.
func minor(m [][]byte, place int) [][]byte {
	var rest [][]byte
	for _, row := range m[1:] {
		rest = append(rest, slices.Delete(bytes.Clone(row), place, place+1))
	}
	return rest
}

// determinant goes along the first row; minus and plus are one in this field.
func determinant(f *api.Field, m [][]byte) byte {
	if len(m) == 0 {
		return 1
	}
	sum := byte(0)
	for place, x := range m[0] {
		if x != 0 {
			sum ^= gf.Mul(f, x, determinant(f, minor(m, place)))
		}
	}
	return sum
}

// picks is each choice of k of the numbers below n.
func picks(n, k int) [][]int {
	var all [][]int
	for set := range 1 << n {
		var pick []int
		for i := range n {
			if set>>i&1 == 1 {
				pick = append(pick, i)
			}
		}
		if len(pick) == k {
			all = append(all, pick)
		}
	}
	return all
}

// rowsOf is m's rows at the places.
func rowsOf(m [][]byte, places []int) [][]byte {
	var rows [][]byte
	for _, i := range places {
		rows = append(rows, bytes.Clone(m[i]))
	}
	return rows
}

// turned is m with rows for columns.
func turned(m [][]byte) [][]byte {
	t := make([][]byte, len(m[0]))
	for j := range t {
		for _, row := range m {
			t[j] = append(t[j], row[j])
		}
	}
	return t
}

// rankByMinors is the size of the greatest square of m's places whose determinant isn't 0.
func rankByMinors(f *api.Field, m [][]byte) int {
	for k := min(len(m), len(m[0])); k > 0; k-- {
		for _, rows := range picks(len(m), k) {
			for _, columns := range picks(len(m[0]), k) {
				if determinant(f, rowsOf(turned(rowsOf(m, rows)), columns)) != 0 {
					return k
				}
			}
		}
	}
	return 0
}

// notRight is what P2.1 refuses.
func notRight() map[string][][]byte {
	ragged := filled(3, 4, 1)
	ragged[2] = ragged[2][:3]
	longer := filled(3, 4, 1)
	longer[1] = filled(1, 5, 2)[0]
	return map[string][][]byte{
		"nil":                        nil,
		"no rows":                    {},
		"a nil row":                  {nil},
		"an empty row":               {{}},
		"empty rows":                 {{}, {}, {}},
		"the first row empty":        {{}, {1}},
		"the last row empty":         {{1}, {}},
		"the last row shorter":       ragged,
		"a middle row longer":        longer,
		"the first row longer":       {{1, 2}, {1}},
		"13 rows":                    filled(api.MaxN+1, 1, 3),
		"13 empty rows":              make([][]byte, api.MaxN+1),
		"13 places":                  filled(1, api.MaxN+1, 4),
		"13 rows of 13":              filled(api.MaxN+1, api.MaxN+1, 5),
		"12 rows of 13":              filled(api.MaxN, api.MaxN+1, 6),
		"13 rows of 12":              filled(api.MaxN+1, api.MaxN, 7),
		"many rows":                  filled(1000, 2, 8),
		"a long row":                 filled(1, 1000, 9),
		"a long row behind others":   {{1, 2}, {3, 4}, make([]byte, api.MaxN+1)},
		"the 12th row not as wide":   append(filled(11, 2, 10), []byte{1}),
		"the 12th row not there":     append(filled(11, 2, 11), nil),
		"only the first row shorter": {{1}, {1, 2}, {3, 4}},
	}
}

// P2.1: every size from 1 to MaxN.
func TestRight(t *testing.T) {
	for high := 1; high <= api.MaxN; high++ {
		for wide := 1; wide <= api.MaxN; wide++ {
			if !matrix.Right(filled(high, wide, 1)) {
				t.Errorf("%d rows of %d aren't right", high, wide)
			}
		}
	}
	if !matrix.Right([][]byte{{0}}) {
		t.Error("one 0 isn't right")
	}
}

// P2.1, and with it the refusals of P2.2 and P2.4.
func TestNotRight(t *testing.T) {
	f := gf.Make()
	for name, m := range notRight() {
		if matrix.Right(m) {
			t.Errorf("%s: right", name)
		}
		if x, ok := matrix.Invert(&f, m); ok || len(x) != 0 {
			t.Errorf("%s: Invert = %v, %v", name, x, ok)
		}
		if got := matrix.Rank(&f, m); got != 0 {
			t.Errorf("%s: Rank = %d", name, got)
		}
		for wide := 1; wide <= api.MaxN; wide++ {
			if x, ok := matrix.Times(&f, m, filled(wide, 2, 1)); ok || len(x) != 0 {
				t.Errorf("%s on the left: Times = %v, %v", name, x, ok)
			}
			if x, ok := matrix.Times(&f, filled(2, wide, 1), m); ok || len(x) != 0 {
				t.Errorf("%s on the right: Times = %v, %v", name, x, ok)
			}
		}
		if x, ok := matrix.Times(&f, m, m); ok || len(x) != 0 {
			t.Errorf("%s on both sides: Times = %v, %v", name, x, ok)
		}
	}
}

// R5: rows behind a list's length, and bytes behind a row's, are no part of it.
func TestRightWithRoomBehind(t *testing.T) {
	rows := [][]byte{make([]byte, 2, 40), make([]byte, 2, 3), {1}, nil}
	if !matrix.Right(rows[:2]) || matrix.Right(rows[:3]) || matrix.Right(rows[:0]) {
		t.Error("Right reads the room behind the rows")
	}
}

// P2.2: every place of the product, of every size that fits.
func TestTimes(t *testing.T) {
	f := gf.Make()
	for high := 1; high <= api.MaxN; high++ {
		for middle := 1; middle <= api.MaxN; middle++ {
			for wide := 1; wide <= api.MaxN; wide++ {
				a, b := filled(high, middle, wide), filled(middle, wide, high+100)
				want := make([][]byte, high)
				for i := range want {
					want[i] = make([]byte, wide)
					for j := range want[i] {
						for l := range middle {
							want[i][j] ^= gf.Mul(&f, a[i][l], b[l][j])
						}
					}
				}
				if got, ok := matrix.Times(&f, a, b); !ok || !same(got, want) {
					t.Fatalf("%d by %d by %d: %v, %v, want %v", high, middle, wide, got, ok, want)
				}
			}
		}
	}
}

// P2.2: a's rows as long as b has rows, or none.
func TestTimesOfSizesThatDontFit(t *testing.T) {
	f := gf.Make()
	for wide := 1; wide <= api.MaxN; wide++ {
		for high := 1; high <= api.MaxN; high++ {
			got, ok := matrix.Times(&f, filled(3, wide, 1), filled(high, 3, 2))
			if ok != (wide == high) || !ok && len(got) != 0 {
				t.Errorf("rows of %d with %d rows: %v, %v", wide, high, got, ok)
			}
		}
	}
	if _, ok := matrix.Times(&f, [][]byte{{1}, {2}}, [][]byte{{1}, {2}}); ok {
		t.Error("two columns have a product")
	}
}

// P2.2: the order of the two counts; Identity on either side leaves the other.
func TestTimesInOrder(t *testing.T) {
	f := gf.Make()
	a, b := [][]byte{{1, 1}, {0, 1}}, [][]byte{{1, 0}, {1, 1}}
	if got, ok := matrix.Times(&f, a, b); !ok || !same(got, [][]byte{{0, 1}, {1, 1}}) {
		t.Errorf("a b = %v, %v", got, ok)
	}
	if got, ok := matrix.Times(&f, b, a); !ok || !same(got, [][]byte{{1, 1}, {1, 0}}) {
		t.Errorf("b a = %v, %v", got, ok)
	}
	m := filled(5, 7, 3)
	left, _ := matrix.Times(&f, matrix.Identity(5), m)
	right, _ := matrix.Times(&f, m, matrix.Identity(7))
	if !same(left, m) || !same(right, m) {
		t.Errorf("with Identity: %v, %v, want %v", left, right, m)
	}
}

// P2.3: each n from 1 to MaxN.
func TestIdentity(t *testing.T) {
	for n := 1; n <= api.MaxN; n++ {
		m := matrix.Identity(n)
		if len(m) != n {
			t.Fatalf("Identity(%d) has %d rows", n, len(m))
		}
		for i, row := range m {
			want := make([]byte, n)
			want[i] = 1
			if !bytes.Equal(row, want) {
				t.Errorf("Identity(%d), row %d: %v", n, i, row)
			}
		}
	}
}

// P2.3: none below 1 and above MaxN.
func TestIdentityBeyondItsEnds(t *testing.T) {
	for _, n := range []int{0, -1, -12, math.MinInt, api.MaxN + 1, 14, 256, 257, 1 << 40, math.MaxInt} {
		if m := matrix.Identity(n); len(m) != 0 {
			t.Errorf("Identity(%d) = %v", n, m)
		}
	}
}

// checkInvert holds Invert of m against its determinant.
func checkInvert(t *testing.T, f *api.Field, m [][]byte) {
	t.Helper()
	x, ok := matrix.Invert(f, m)
	if ok != (determinant(f, m) != 0) {
		t.Fatalf("Invert(%v) = %v, %v", m, x, ok)
	}
	if !ok {
		if len(x) != 0 {
			t.Fatalf("Invert(%v) answers %v beside false", m, x)
		}
		return
	}
	left, _ := matrix.Times(f, x, m)
	right, _ := matrix.Times(f, m, x)
	if !same(left, matrix.Identity(len(m))) || !same(right, left) {
		t.Fatalf("Invert(%v) = %v: with m it gives %v and %v", m, x, left, right)
	}
	if back, ok := matrix.Invert(f, x); !ok || !same(back, m) {
		t.Fatalf("the inverse's inverse of %v is %v, %v", m, back, ok)
	}
}

// P2.4 and P2.6: every matrix of one byte, and every one of two by two of the bytes 0 to 4.
func TestInvertOfSmallOnes(t *testing.T) {
	f := gf.Make()
	for a := range 256 {
		checkInvert(t, &f, [][]byte{{byte(a)}})
	}
	for n := range 5 * 5 * 5 * 5 {
		m := [][]byte{{byte(n % 5), byte(n / 5 % 5)}, {byte(n / 25 % 5), byte(n / 125)}}
		checkInvert(t, &f, m)
	}
}

// P2.4 and P2.6: with many zeros, so that a pivot isn't where it is looked for first, or isn't at all.
func TestInvertOfThinOnes(t *testing.T) {
	f := gf.Make()
	for n := 2; n <= 6; n++ {
		for seed := range 300 {
			checkInvert(t, &f, thin(n, n, seed, 1))
			checkInvert(t, &f, thin(n, n, seed, 3))
			checkInvert(t, &f, filled(n, n, seed))
		}
	}
}

// P2.4: a matrix that moves the places is undone by the one with rows for columns.
func TestInvertOfMoves(t *testing.T) {
	f := gf.Make()
	for n := 1; n <= api.MaxN; n++ {
		m := make([][]byte, n)
		for i := range m {
			m[i] = make([]byte, n)
			m[i][(i+n-1)%n] = 1
		}
		if x, ok := matrix.Invert(&f, m); !ok || !same(x, turned(m)) {
			t.Errorf("%d places moved by one: %v, %v", n, x, ok)
		}
		if x, ok := matrix.Invert(&f, matrix.Identity(n)); !ok || !same(x, matrix.Identity(n)) {
			t.Errorf("Identity(%d): %v, %v", n, x, ok)
		}
	}
}

// P2.4: no inverse, at the largest size too: a row of zeros, a column of zeros, one row the multiple
// or the sum of others.
func TestInvertOfThoseWithout(t *testing.T) {
	f := gf.Make()
	for n := 3; n <= api.MaxN; n++ {
		row, column, twice, sum := filled(n, n, 1), filled(n, n, 2), filled(n, n, 3), filled(n, n, 4)
		for j := range n {
			row[n-1][j] = 0
			column[j][n-1] = 0
			twice[n-1][j] = gf.Mul(&f, 0x53, twice[0][j])
			sum[0][j] = gf.Mul(&f, 7, sum[1][j]) ^ gf.Mul(&f, 9, sum[n-1][j])
		}
		for i, m := range [][][]byte{row, column, twice, sum, make0(n, n)} {
			if x, ok := matrix.Invert(&f, m); ok || len(x) != 0 {
				t.Errorf("%d of size %d: %v, %v", i, n, x, ok)
			}
			if got := matrix.Rank(&f, m); got >= n {
				t.Errorf("%d of size %d: rank %d", i, n, got)
			}
		}
	}
}

// make0 is a matrix of zeros.
func make0(high, wide int) [][]byte {
	m := make([][]byte, high)
	for i := range m {
		m[i] = make([]byte, wide)
	}
	return m
}

// P2.4: what isn't as wide as high has no inverse, whatever it holds.
func TestInvertOfOtherShapes(t *testing.T) {
	f := gf.Make()
	for high := 1; high <= api.MaxN; high++ {
		for wide := 1; wide <= api.MaxN; wide++ {
			m := make0(high, wide)
			for i := range min(high, wide) {
				m[i][i] = 1
			}
			x, ok := matrix.Invert(&f, m)
			if ok != (high == wide) || !ok && len(x) != 0 {
				t.Errorf("%d rows of %d: %v, %v", high, wide, x, ok)
			}
		}
	}
}

// P2.4: Rank is the greatest square with a determinant, of every small size.
func TestRank(t *testing.T) {
	f := gf.Make()
	for high := 1; high <= 4; high++ {
		for wide := 1; wide <= 4; wide++ {
			for seed := range 40 {
				for _, bits := range []byte{0, 1, 3, 255} {
					m := thin(high, wide, seed, bits)
					if got, want := matrix.Rank(&f, m), rankByMinors(&f, m); got != want {
						t.Fatalf("Rank(%v) = %d, want %d", m, got, want)
					}
				}
			}
		}
	}
}

// P2.4: Rank of great ones, made of r rows that don't hang on each other and of sums of their multiples.
func TestRankOfGreatOnes(t *testing.T) {
	f := gf.Make()
	for r := 1; r <= api.MaxK; r++ {
		for high := r; high <= api.MaxN; high++ {
			for wide := r; wide <= api.MaxN; wide++ {
				tall := matrix.Cauchy(&f, r, high-r)
				flat := turned(matrix.Cauchy(&f, r, wide-r))
				slices.Reverse(tall)
				m, ok := matrix.Times(&f, tall, flat)
				if got := matrix.Rank(&f, m); !ok || got != r {
					t.Fatalf("%d rows of %d made of %d: Rank = %d", high, wide, r, got)
				}
			}
		}
	}
}

// P2.4: Rank of zeros is 0, of Identity its size, of equal rows 1.
func TestRankOfPlainOnes(t *testing.T) {
	f := gf.Make()
	for n := 1; n <= api.MaxN; n++ {
		equal := make([][]byte, n)
		for i := range equal {
			equal[i] = []byte{0, 0, 5}
		}
		zeros, one, few := matrix.Rank(&f, make0(n, 3)), matrix.Rank(&f, matrix.Identity(n)), matrix.Rank(&f, equal)
		if zeros != 0 || one != n || few != 1 {
			t.Errorf("%d rows: zeros %d, Identity %d, equal ones %d", n, zeros, one, few)
		}
	}
}

// P2.5: every k and m that fit.
func TestCauchy(t *testing.T) {
	f := gf.Make()
	for k := 1; k <= api.MaxK; k++ {
		for m := 0; k+m <= api.MaxN; m++ {
			c := matrix.Cauchy(&f, k, m)
			if len(c) != k+m || !same(c[:k], matrix.Identity(k)) {
				t.Fatalf("Cauchy(%d, %d) = %v", k, m, c)
			}
			for i, row := range c[k:] {
				if len(row) != k {
					t.Fatalf("Cauchy(%d, %d), row %d of the m: %v", k, m, i, row)
				}
				for j, x := range row {
					if gf.Mul(&f, x, byte((k+i)^j)) != 1 {
						t.Errorf("Cauchy(%d, %d), row %d of the m, place %d: %#x", k, m, i, j, x)
					}
				}
			}
		}
	}
}

// P2.5: k from below 1 to above MaxK, m from below 0 to above what k leaves, and both very great.
func TestCauchyAtAndBeyondItsEnds(t *testing.T) {
	f := gf.Make()
	for k := -2; k <= api.MaxN+2; k++ {
		for m := -2; m <= api.MaxN+2; m++ {
			right := k >= 1 && k <= api.MaxK && m >= 0 && k+m <= api.MaxN
			if got := matrix.Cauchy(&f, k, m); (len(got) != 0) != right {
				t.Errorf("Cauchy(%d, %d) = %v", k, m, got)
			}
		}
	}
	great := []int{math.MinInt, math.MinInt + 1, -1 << 32, -256, 256, 1 << 32, 1 << 62, math.MaxInt - 1, math.MaxInt}
	for _, n := range great {
		for other := -1; other <= api.MaxN; other++ {
			for _, c := range [][2]int{{n, other}, {other, n}} {
				if got := matrix.Cauchy(&f, c[0], c[1]); len(got) != 0 {
					t.Errorf("Cauchy(%d, %d) has %d rows", c[0], c[1], len(got))
				}
			}
		}
		for _, m := range great {
			if got := matrix.Cauchy(&f, n, m); len(got) != 0 {
				t.Errorf("Cauchy(%d, %d) has %d rows", n, m, len(got))
			}
		}
	}
}

// P2.6: each k rows of Cauchy have an inverse, whose inverse is those rows.
func TestEachChoiceOfCauchysRows(t *testing.T) {
	f := gf.Make()
	for k := 1; k <= api.MaxK; k++ {
		for m := 0; k+m <= api.MaxN; m++ {
			c := matrix.Cauchy(&f, k, m)
			for _, pick := range picks(k+m, k) {
				rows := rowsOf(c, pick)
				x, ok := matrix.Invert(&f, rows)
				if !ok || matrix.Rank(&f, rows) != k {
					t.Fatalf("Cauchy(%d, %d): the rows %v have no inverse", k, m, pick)
				}
				p, _ := matrix.Times(&f, x, rows)
				back, _ := matrix.Invert(&f, x)
				if !same(p, matrix.Identity(k)) || !same(back, rows) {
					t.Fatalf("Cauchy(%d, %d), rows %v: the inverse is %v", k, m, pick, x)
				}
			}
		}
	}
}

// P2.6: the rows of a choice may stand in any order.
func TestCauchysRowsInOtherOrders(t *testing.T) {
	f := gf.Make()
	for k := 1; k <= api.MaxK; k++ {
		c := matrix.Cauchy(&f, k, api.MaxN-k)
		slices.Reverse(c)
		for from := range api.MaxN {
			var rows [][]byte
			for i := range k {
				rows = append(rows, c[(from+5*i)%api.MaxN])
			}
			x, ok := matrix.Invert(&f, rows)
			p, _ := matrix.Times(&f, rows, x)
			if !ok || !same(p, matrix.Identity(k)) {
				t.Errorf("k %d, rows from %d on: %v, %v", k, from, x, ok)
			}
		}
	}
}

// The chapter's runs.
func TestRuns(t *testing.T) {
	f := gf.Make()
	if x, ok := matrix.Invert(&f, [][]byte{{1, 1}, {1, 0}}); !ok || !same(x, [][]byte{{0, 1}, {1, 1}}) {
		t.Errorf("Invert((1 1)(1 0)) = %v, %v", x, ok)
	}
	if x, ok := matrix.Invert(&f, [][]byte{{1, 2}, {1, 2}}); ok || len(x) != 0 {
		t.Errorf("Invert((1 2)(1 2)) = %v, %v", x, ok)
	}
	if got := matrix.Rank(&f, [][]byte{{1, 2}, {1, 2}}); got != 1 {
		t.Errorf("Rank((1 2)(1 2)) = %d", got)
	}
	if c := matrix.Cauchy(&f, 2, 1); !same(c, [][]byte{{1, 0}, {0, 1}, {0x8e, 0xf4}}) {
		t.Errorf("Cauchy(2, 1) = %x", c)
	}
	if m := matrix.Identity(13); len(m) != 0 {
		t.Errorf("Identity(13) = %v", m)
	}
}

// room is m with bytes behind each row and rows behind the last, all of them in one list of bytes.
func room(m [][]byte) ([][]byte, []byte) {
	var all []byte
	for _, row := range m {
		all = append(append(all, row...), 0xa1, 0xa2, 0xa3)
	}
	rows, at := make([][]byte, len(m)+2), 0
	for i, row := range m {
		rows[i] = all[at : at+len(row)]
		at += len(row) + 3
	}
	rows[len(m)] = all[:1]
	return rows[:len(m)], all
}

// R2: what is handed in stays as it was, the room behind it and the order of its rows included.
func TestWhatIsHandedInStays(t *testing.T) {
	f := gf.Make()
	field := f
	cases := [][][]byte{{{0, 2}, {3, 0}}, {{0, 1, 2}, {0, 2, 4}, {5, 0, 0}}, filled(5, 5, 1), filled(5, 3, 2), make0(3, 3), {{1, 2}, {3}}}
	for _, m := range cases {
		rows, all := room(m)
		wasRows, wasAll := slices.Clone(rows[:len(m)+2]), bytes.Clone(all)
		matrix.Right(rows)
		matrix.Invert(&f, rows)
		matrix.Rank(&f, rows)
		matrix.Times(&f, rows, rows)
		matrix.Times(&f, rows, filled(len(rows[0]), 2, 3))
		matrix.Times(&f, filled(2, len(rows), 4), rows)
		if !bytes.Equal(all, wasAll) {
			t.Errorf("%v: the bytes were changed: %x, want %x", m, all, wasAll)
		}
		for i, row := range rows[:len(m)+2] {
			if len(row) != len(wasRows[i]) || len(row) > 0 && &row[0] != &wasRows[i][0] {
				t.Errorf("%v: row %d is another one", m, i)
			}
		}
	}
	matrix.Cauchy(&f, 5, 4)
	if f != field {
		t.Error("the tables were changed")
	}
}

// spoil writes over all that a list of rows holds, the room behind included.
func spoil(m [][]byte) {
	for _, row := range m {
		row = row[:cap(row)]
		for j := range row {
			row[j] ^= 0xff
		}
	}
}

// R2: no answer shares memory with what was handed in, with another answer, or row with row.
func TestAnswersAreNewMemory(t *testing.T) {
	f := gf.Make()
	one := [][]byte{{7}}
	calls := map[string]func() [][]byte{
		"Identity": func() [][]byte { return matrix.Identity(4) },
		"Cauchy":   func() [][]byte { return matrix.Cauchy(&f, 4, 3) },
		"Cauchy 0": func() [][]byte { return matrix.Cauchy(&f, 4, 0) },
		"Invert": func() [][]byte {
			x, _ := matrix.Invert(&f, one)
			return x
		},
		"Invert of Identity": func() [][]byte {
			x, _ := matrix.Invert(&f, matrix.Identity(4))
			return x
		},
		"Times": func() [][]byte {
			x, _ := matrix.Times(&f, one, [][]byte{{1}})
			return x
		},
		"Times of more": func() [][]byte {
			x, _ := matrix.Times(&f, filled(4, 3, 1), filled(3, 5, 2))
			return x
		},
	}
	for name, call := range calls {
		want := call()
		for i := range want {
			m, other := call(), call()
			spoil(other)
			spoil(m[i : i+1])
			m[i] = want[i]
			if !same(m, want) || one[0][0] != 7 {
				t.Errorf("%s: row %d shares memory", name, i)
			}
		}
		if again := call(); !same(again, want) {
			t.Errorf("%s: the last answer is %v, the first was %v", name, again, want)
		}
	}
}

// R5: a row is as long as its length says, whatever stands behind it.
func TestRoomBehindIsNotRead(t *testing.T) {
	f := gf.Make()
	for seed := range 20 {
		m, b := filled(4, 4, seed), filled(4, 2, seed+50)
		rows, _ := room(m)
		plain, _ := matrix.Invert(&f, m)
		roomy, _ := matrix.Invert(&f, rows)
		plainProduct, _ := matrix.Times(&f, m, b)
		roomyProduct, _ := matrix.Times(&f, rows, b)
		if !same(plain, roomy) || !same(plainProduct, roomyProduct) || matrix.Rank(&f, m) != matrix.Rank(&f, rows) {
			t.Errorf("the room behind %v was read", m)
		}
	}
}

// R2: rows that are one and the same list are right, and reckoned as equal ones.
func TestRowsThatAreOneList(t *testing.T) {
	f := gf.Make()
	row := []byte{3, 4}
	m := [][]byte{row, row}
	if x, ok := matrix.Invert(&f, m); ok || len(x) != 0 || matrix.Rank(&f, m) != 1 || !bytes.Equal(row, []byte{3, 4}) {
		t.Errorf("Invert = %v, %v, row %v", x, ok, row)
	}
	want := [][]byte{{gf.Mul(&f, 3, 7), gf.Mul(&f, 4, 7)}, {gf.Mul(&f, 3, 7), gf.Mul(&f, 4, 7)}}
	if p, ok := matrix.Times(&f, m, m); !ok || !same(p, want) {
		t.Errorf("Times = %v, %v, want %v", p, ok, want)
	}
}
