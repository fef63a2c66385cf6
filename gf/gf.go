// Package gf reckons in GF(2^8): bytes as polynomials over GF(2), modulo api.Poly.
package gf

import "depot/api"

// order is how many elements aren't 0: the powers of 2 come round after as many steps.
const order = 255

// Make answers the tables that the other calls are handed.
func Make() api.Field {
	var f api.Field
	x := 1
	for i := range f.Exp {
		f.Exp[i] = byte(x)
		// Exp goes round twice; a logarithm is the place in the first round.
		if i < order {
			f.Log[x] = byte(i)
		}
		x = double(x)
	}
	return f
}

// double is the product of 2 and x.
func double(x int) int {
	x <<= 1
	if x > 255 {
		x ^= api.Poly
	}
	return x
}

// Mul is the product of a and b.
func Mul(f *api.Field, a, b byte) byte {
	// 0 is no power of 2: its place in Log means nothing.
	if a == 0 || b == 0 {
		return 0
	}
	return f.Exp[int(f.Log[a])+int(f.Log[b])]
}

// Inv is what gives 1 with a, and 0 of 0.
func Inv(f *api.Field, a byte) byte {
	if a == 0 {
		return 0
	}
	return f.Exp[order-int(f.Log[a])]
}

// Div is the product of a and the inverse of b, so 0 where b is 0.
func Div(f *api.Field, a, b byte) byte {
	return Mul(f, a, Inv(f, b))
}

// Pow is a, n times with itself: 1 of n 0, 0 of n below 0.
func Pow(f *api.Field, a byte, n int) byte {
	if n == 0 {
		return 1
	}
	if n < 0 || a == 0 {
		return 0
	}
	// n is brought into one round first: the product with a great n would wrap round.
	return f.Exp[int(f.Log[a])*(n%order)%order]
}

// Dot is the sum of the products of a's and b's bytes at one place, as far as both go.
func Dot(f *api.Field, a, b []byte) byte {
	sum := byte(0)
	for i := range min(len(a), len(b)) {
		sum ^= Mul(f, a[i], b[i])
	}
	return sum
}
