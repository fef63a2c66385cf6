package gf_test

import (
	"bytes"
	"math"
	"testing"

	"depot/api"
	"depot/gf"
)

// product is the polynomials' product modulo Poly, worked out bit by bit without any table.
func product(a, b byte) byte {
	p := 0
	for i := range 8 {
		if b>>i&1 == 1 {
			p ^= int(a) << i
		}
	}
	for i := 14; i >= 8; i-- {
		if p>>i&1 == 1 {
			p ^= api.Poly << (i - 8)
		}
	}
	return byte(p)
}

// power is a, n times with itself, by squares.
func power(a byte, n uint64) byte {
	p := byte(1)
	for ; n > 0; n >>= 1 {
		if n&1 == 1 {
			p = product(p, a)
		}
		a = product(a, a)
	}
	return p
}

// eachPair calls look with every pair of bytes.
func eachPair(look func(a, b byte)) {
	for a := range 256 {
		for b := range 256 {
			look(byte(a), byte(b))
		}
	}
}

// P1.1: every product.
func TestMul(t *testing.T) {
	f := gf.Make()
	eachPair(func(a, b byte) {
		if got, want := gf.Mul(&f, a, b), product(a, b); got != want {
			t.Fatalf("Mul(%#x, %#x) = %#x, want %#x", a, b, got, want)
		}
	})
}

// P1.1: a product with 0 is 0 on either side, one with 1 is the other.
func TestMulByZeroAndOne(t *testing.T) {
	f := gf.Make()
	for i := range 256 {
		a := byte(i)
		if gf.Mul(&f, a, 0) != 0 || gf.Mul(&f, 0, a) != 0 {
			t.Errorf("the product of %#x and 0 isn't 0", a)
		}
		if gf.Mul(&f, a, 1) != a || gf.Mul(&f, 1, a) != a {
			t.Errorf("the product of %#x and 1 isn't %#x", a, a)
		}
	}
}

// P1.2: Inv of every byte, 0 and 1 among them.
func TestInv(t *testing.T) {
	f := gf.Make()
	if got := gf.Inv(&f, 0); got != 0 {
		t.Errorf("Inv(0) = %#x", got)
	}
	if got := gf.Inv(&f, 1); got != 1 {
		t.Errorf("Inv(1) = %#x", got)
	}
	for a := 1; a < 256; a++ {
		if got := gf.Inv(&f, byte(a)); product(byte(a), got) != 1 {
			t.Errorf("Inv(%#x) = %#x", a, got)
		}
	}
}

// P1.2: Div of every pair; by 0 it is 0.
func TestDiv(t *testing.T) {
	f := gf.Make()
	eachPair(func(a, b byte) {
		got := gf.Div(&f, a, b)
		if b == 0 && got != 0 {
			t.Fatalf("Div(%#x, 0) = %#x", a, got)
		}
		if b != 0 && product(got, b) != a {
			t.Fatalf("Div(%#x, %#x) = %#x", a, b, got)
		}
	})
}

// P1.2: Pow of every byte, more than two rounds far.
func TestPow(t *testing.T) {
	f := gf.Make()
	for i := range 256 {
		a, want := byte(i), byte(1)
		for n := range 600 {
			if got := gf.Pow(&f, a, n); got != want {
				t.Fatalf("Pow(%#x, %d) = %#x, want %#x", a, n, got, want)
			}
			want = product(want, a)
		}
	}
}

// P1.2: Pow of great n, the greatest among them, doesn't wrap round.
func TestPowOfGreatNumbers(t *testing.T) {
	f := gf.Make()
	great := []int{1 << 16, math.MaxInt32, 1 << 40, 1 << 62, math.MaxInt - 1, math.MaxInt, math.MaxInt / 255 * 255}
	for _, n := range great {
		for i := range 256 {
			a := byte(i)
			if got, want := gf.Pow(&f, a, n), power(a, uint64(n)); got != want {
				t.Fatalf("Pow(%#x, %d) = %#x, want %#x", a, n, got, want)
			}
		}
	}
}

// P1.2: Pow of n below 0 is 0, of n 0 it is 1, whatever a is.
func TestPowOfNoneAndLess(t *testing.T) {
	f := gf.Make()
	for i := range 256 {
		a := byte(i)
		if got := gf.Pow(&f, a, 0); got != 1 {
			t.Errorf("Pow(%#x, 0) = %#x", a, got)
		}
		for _, n := range []int{-1, -2, -254, -255, -256, -1 << 40, math.MinInt + 1, math.MinInt} {
			if got := gf.Pow(&f, a, n); got != 0 {
				t.Errorf("Pow(%#x, %d) = %#x", a, n, got)
			}
		}
	}
}

// P1.2: Dot of equal and of different lengths, of nil and of empty lists.
func TestDot(t *testing.T) {
	f := gf.Make()
	cases := []struct {
		a, b []byte
		want byte
	}{
		{nil, nil, 0},
		{nil, []byte{}, 0},
		{[]byte{}, []byte{}, 0},
		{nil, []byte{1, 2}, 0},
		{[]byte{1, 2}, nil, 0},
		{[]byte{}, []byte{9}, 0},
		{[]byte{9}, []byte{}, 0},
		{[]byte{0x80}, []byte{2}, 0x1d},
		{[]byte{1, 2}, []byte{3, 4, 5}, 0x0b},
		{[]byte{3, 4, 5}, []byte{1, 2}, 0x0b},
		{[]byte{7, 7}, []byte{5, 5}, 0},
		{[]byte{0, 7, 0}, []byte{9, 1, 0}, 7},
		{[]byte{1, 1, 1}, []byte{1, 2, 4}, 7},
	}
	for _, c := range cases {
		if got := gf.Dot(&f, c.a, c.b); got != c.want {
			t.Errorf("Dot(%v, %v) = %#x, want %#x", c.a, c.b, got, c.want)
		}
	}
}

// P1.2: Dot of long lists, every length up to theirs.
func TestDotOfLongLists(t *testing.T) {
	f := gf.Make()
	a, b := make([]byte, 700), make([]byte, 700)
	want := byte(0)
	for i := range a {
		a[i], b[i] = byte(i*7+1), byte(i*i+3)
		if got := gf.Dot(&f, a[:i], b); got != want {
			t.Fatalf("Dot of %d and %d bytes = %#x, want %#x", i, len(b), got, want)
		}
		if got := gf.Dot(&f, a, b[:i]); got != want {
			t.Fatalf("Dot of %d and %d bytes = %#x, want %#x", len(a), i, got, want)
		}
		want ^= product(a[i], b[i])
	}
}

// P1.3: Exp is the powers of 2, from its first place to its last.
func TestExp(t *testing.T) {
	f := gf.Make()
	want := byte(1)
	for i, got := range f.Exp {
		if got != want || gf.Pow(&f, 2, i) != want {
			t.Fatalf("Exp[%d] = %#x, Pow(2, %d) = %#x, want %#x", i, got, i, gf.Pow(&f, 2, i), want)
		}
		want = product(want, 2)
	}
	if f.Exp[0] != 1 || f.Exp[254] != 0x8e || f.Exp[255] != 1 || f.Exp[509] != 0x8e {
		t.Errorf("the ends of Exp: %#x %#x %#x %#x", f.Exp[0], f.Exp[254], f.Exp[255], f.Exp[509])
	}
}

// P1.3: Log is where a byte stands in the first round of Exp; of 0 it is 0.
func TestLog(t *testing.T) {
	f := gf.Make()
	want := [256]byte{}
	power := byte(1)
	for i := range 255 {
		want[power] = byte(i)
		power = product(power, 2)
	}
	if f.Log != want {
		t.Errorf("Log = %v, want %v", f.Log, want)
	}
	if f.Log[0] != 0 || f.Log[1] != 0 || f.Log[2] != 1 || f.Log[0x8e] != 254 {
		t.Errorf("the ends of Log: %d %d %d %d", f.Log[0], f.Log[1], f.Log[2], f.Log[0x8e])
	}
}

// P1.3: each Make answers the same tables, whatever became of those made ahead.
func TestMakeAgain(t *testing.T) {
	f, untouched := gf.Make(), gf.Make()
	f.Exp[3], f.Log[3] = 0, 0
	if gf.Make() != untouched {
		t.Error("Make answers other tables the second time")
	}
}

// P1.4: Mul is mutual, may be parted and goes over sums, of all triples.
func TestLaws(t *testing.T) {
	f := gf.Make()
	eachPair(func(a, b byte) {
		ab := gf.Mul(&f, a, b)
		if ab != gf.Mul(&f, b, a) {
			t.Fatalf("Mul isn't mutual: %#x, %#x", a, b)
		}
		for i := range 256 {
			c := byte(i)
			if gf.Mul(&f, ab, c) != gf.Mul(&f, a, gf.Mul(&f, b, c)) {
				t.Fatalf("Mul may not be parted: %#x, %#x, %#x", a, b, c)
			}
			if gf.Mul(&f, a^b, c) != gf.Mul(&f, a, c)^gf.Mul(&f, b, c) {
				t.Fatalf("Mul doesn't go over sums: %#x, %#x, %#x", a, b, c)
			}
		}
	})
}

// P1.4: what isn't 0 has an Inv, which isn't 0 and leads back.
func TestInverses(t *testing.T) {
	f := gf.Make()
	for i := 1; i < 256; i++ {
		a := byte(i)
		b := gf.Inv(&f, a)
		if b == 0 || gf.Mul(&f, a, b) != 1 || gf.Mul(&f, b, a) != 1 || gf.Inv(&f, b) != a {
			t.Errorf("Inv(%#x) = %#x", a, b)
		}
	}
}

// The chapter's runs.
func TestRuns(t *testing.T) {
	f := gf.Make()
	runs := []struct {
		name      string
		got, want byte
	}{
		{"Mul(80, 2)", gf.Mul(&f, 0x80, 2), 0x1d},
		{"Mul(3, 7)", gf.Mul(&f, 3, 7), 0x09},
		{"Inv(2)", gf.Inv(&f, 2), 0x8e},
		{"Pow(2, 255)", gf.Pow(&f, 2, 255), 0x01},
		{"Div(5, 0)", gf.Div(&f, 5, 0), 0},
		{"Pow(0, 0)", gf.Pow(&f, 0, 0), 1},
		{"Pow(3, -1)", gf.Pow(&f, 3, -1), 0},
		{"Dot(1 2, 3 4 5)", gf.Dot(&f, []byte{1, 2}, []byte{3, 4, 5}), 0x0b},
	}
	for _, r := range runs {
		if r.got != r.want {
			t.Errorf("%s = %02X, want %02X", r.name, r.got, r.want)
		}
	}
}

// R2: no call changes the tables.
func TestFieldStays(t *testing.T) {
	f := gf.Make()
	before := f
	eachPair(func(a, b byte) {
		gf.Mul(&f, a, b)
		gf.Inv(&f, a)
		gf.Div(&f, a, b)
		gf.Pow(&f, a, int(b)-9)
		gf.Dot(&f, []byte{a, b}, []byte{b})
	})
	if f != before {
		t.Error("the tables were changed")
	}
}

// R2 and R5: Dot changes neither list nor the room behind it, and doesn't read that room.
func TestListsStay(t *testing.T) {
	f := gf.Make()
	a, b := []byte{1, 2, 0xaa, 0xbb}, []byte{3, 4, 5, 0xcc}
	for _, room := range []byte{0, 1, 0xff} {
		a[2], a[3], b[3] = room, room, room
		wasA, wasB := bytes.Clone(a), bytes.Clone(b)
		if got := gf.Dot(&f, a[:2], b[:3]); got != 0x0b {
			t.Errorf("Dot with %#x behind its lists = %#x", room, got)
		}
		if !bytes.Equal(a, wasA) || !bytes.Equal(b, wasB) {
			t.Errorf("Dot changed what it was handed: %v, %v", a, b)
		}
	}
	if got := gf.Dot(&f, a[:3], a[:3]); got != 1^product(2, 2)^product(a[2], a[2]) {
		t.Errorf("Dot of a list and itself = %#x", got)
	}
}
