package pack_test

import (
	"bytes"
	"math"
	"math/big"
	"slices"
	"strings"
	"testing"

	"depot/api"
	"depot/pack"
)

// written is the number's bytes as the chapter says them: reckoned with numbers that
// don't wrap round.
func written(n int) []byte {
	twice := big.NewInt(int64(n))
	if n < 0 {
		twice.Sub(big.NewInt(-1), twice)
	}
	twice.Add(twice, twice)
	if n < 0 {
		twice.Add(twice, big.NewInt(1))
	}
	var out []byte
	for {
		piece := new(big.Int)
		twice.DivMod(twice, big.NewInt(128), piece)
		out = append(out, byte(piece.Int64())+128)
		if twice.Sign() == 0 {
			out[len(out)-1] -= 128
			return out
		}
	}
}

// edges is the least and the greatest number, those near 0, and those at the ends of
// each count of bytes.
func edges() []int {
	all := []int{math.MinInt, math.MinInt + 1, math.MaxInt, math.MaxInt - 1, math.MinInt32, math.MaxInt32, 1 << 32}
	for n := -300; n <= 300; n++ {
		all = append(all, n)
	}
	for bits := 6; bits < 63; bits++ {
		for by := -2; by <= 2; by++ {
			all = append(all, 1<<bits+by, -1<<bits+by)
		}
	}
	return all
}

// texts is texts of many lengths: each byte is in one of them.
func texts() []string {
	var whole []byte
	for i := range 256 {
		whole = append(whole, byte(i))
	}
	all := []string{"", "a", "\x00", "\x80", "\xff\x00", string(whole)}
	for _, n := range []int{2, 62, 63, 64, 65, 127, 128, 8191, 8192, 8193, api.MaxValue} {
		all = append(all, strings.Repeat("xyz", n)[:n])
	}
	return all
}

// long is a number of that many bytes: 255 each, but the last one.
func long(size int, last byte) []byte {
	return append(bytes.Repeat([]byte{255}, size-1), last)
}

// read is what one call reads of b.
type read struct {
	n     int
	s     string
	at    int
	wrong api.Errno
}

// num is what Num reads of b.
func num(b []byte) read {
	r := pack.Read(b)
	n := r.Num()
	return read{n: n, at: r.At(), wrong: r.Wrong()}
}

// text is what Text reads of b.
func text(b []byte, most int) read {
	r := pack.Read(b)
	s := r.Text(most)
	return read{s: s, at: r.At(), wrong: r.Wrong()}
}

// stays fails if a call of r, which has an error, tells or changes anything.
func stays(t *testing.T, r *pack.Reader, at int, wrong api.Errno) {
	t.Helper()
	for range 2 {
		if n := r.Num(); n != 0 || r.At() != at || r.Wrong() != wrong {
			t.Errorf("Num behind an error = %d, at %d, %d, not 0, %d, %d", n, r.At(), r.Wrong(), at, wrong)
		}
		for _, most := range []int{math.MinInt, -1, 0, 1, 99, math.MaxInt} {
			if s := r.Text(most); s != "" || r.At() != at || r.Wrong() != wrong {
				t.Errorf("Text(%d) behind an error = %q, at %d, %d, not empty, %d, %d", most, s, r.At(), r.Wrong(), at, wrong)
			}
		}
		if e := r.End(); e != wrong || r.At() != at || r.Wrong() != wrong {
			t.Errorf("End behind an error = %d, at %d, %d, not %d, %d", e, r.At(), r.Wrong(), wrong, at)
		}
	}
}

// P4.1

func TestNumWrites(t *testing.T) {
	for _, n := range edges() {
		want := written(n)
		if got := pack.Num(nil, n); !bytes.Equal(got, want) {
			t.Errorf("Num(nil, %d) = % x, not % x", n, got, want)
		}
		if got := pack.Num([]byte{}, n); !bytes.Equal(got, want) {
			t.Errorf("Num of an empty list and %d = % x, not % x", n, got, want)
		}
		ahead := []byte{0, 128, 255, 7}
		if got := pack.Num(ahead, n); !bytes.Equal(got, slices.Concat(ahead, want)) {
			t.Errorf("Num(% x, %d) = % x", ahead, n, got)
		}
	}
}

func TestNumOfEachCountOfBytes(t *testing.T) {
	for _, c := range []struct {
		n    int
		want []byte
	}{
		{0, []byte{0}}, {-1, []byte{1}}, {1, []byte{2}}, {-2, []byte{3}},
		{63, []byte{126}}, {-64, []byte{127}},
		{64, []byte{128, 1}}, {-65, []byte{129, 1}},
		{8191, []byte{254, 127}}, {-8192, []byte{255, 127}},
		{8192, []byte{128, 128, 1}}, {-8193, []byte{129, 128, 1}},
		{math.MaxInt, append([]byte{254}, long(9, 1)...)},
		{math.MinInt, long(10, 1)},
	} {
		if got := pack.Num(nil, c.n); !bytes.Equal(got, c.want) {
			t.Errorf("Num(nil, %d) = % x, not % x", c.n, got, c.want)
		}
	}
	for size := 1; size <= 9; size++ {
		// Of size bytes are seven bits each, and the lowest of them is the sign.
		above := 1 << (7*size - 1)
		for n, want := range map[int]int{above - 1: size, above: size + 1, -above: size, -above - 1: size + 1} {
			if got := len(pack.Num(nil, n)); got != want {
				t.Errorf("Num(nil, %d) has %d bytes, not %d", n, got, want)
			}
		}
	}
}

func TestTextWrites(t *testing.T) {
	for _, s := range texts() {
		want := slices.Concat(written(len(s)), []byte(s))
		if got := pack.Text(nil, s); !bytes.Equal(got, want) {
			t.Errorf("Text(nil, ..) of %d bytes has %d", len(s), len(got))
		}
		ahead := []byte{0, 128, 255, 7}
		if got := pack.Text(ahead, s); !bytes.Equal(got, slices.Concat(ahead, want)) {
			t.Errorf("Text behind % x, of %d bytes, has %d", ahead, len(s), len(got))
		}
	}
	if got := pack.Text(nil, ""); !bytes.Equal(got, []byte{0}) {
		t.Errorf("Text(nil, the empty text) = % x", got)
	}
}

func TestWritesInNewMemory(t *testing.T) {
	for name, write := range map[string]func(b []byte) []byte{
		"Num of one byte":  func(b []byte) []byte { return pack.Num(b, 7) },
		"Num of ten bytes": func(b []byte) []byte { return pack.Num(b, math.MinInt) },
		"Text":             func(b []byte) []byte { return pack.Text(b, "xyz") },
		"the empty Text":   func(b []byte) []byte { return pack.Text(b, "") },
	} {
		room := bytes.Repeat([]byte{9}, 64)
		first := write(room[:3])
		keep := slices.Clone(first)
		second := write(room[:3])
		if !bytes.Equal(room, bytes.Repeat([]byte{9}, 64)) {
			t.Errorf("%s wrote into what was handed in: % x", name, room)
		}
		for _, got := range [][]byte{second[:cap(second)], room} {
			for i := range got {
				got[i] = 77
			}
		}
		if !bytes.Equal(first, keep) {
			t.Errorf("%s: what was answered shares memory", name)
		}
		for i := range first[:cap(first)] {
			first[:cap(first)][i] = 55
		}
		if !bytes.Equal(room, bytes.Repeat([]byte{77}, 64)) {
			t.Errorf("%s: what was answered shares memory with what was handed in", name)
		}
	}
}

// P4.2

func TestReadBeginsAtZero(t *testing.T) {
	for _, b := range [][]byte{nil, {}, {0}, {128, 0}, {1, 2, 3}} {
		r := pack.Read(b)
		if r.At() != 0 || r.Wrong() != api.OK {
			t.Errorf("Read(% x) is at %d, %d", b, r.At(), r.Wrong())
		}
	}
}

func TestPlaceGoesOnBehindEachOne(t *testing.T) {
	var b []byte
	var places []int
	for _, n := range edges() {
		b = pack.Num(b, n)
		places = append(places, len(b))
		b = pack.Text(b, "of some bytes")
		places = append(places, len(b))
	}
	r := pack.Read(b)
	for i, n := range edges() {
		if got := r.Num(); got != n || r.At() != places[2*i] || r.Wrong() != api.OK {
			t.Fatalf("Num = %d, at %d, %d, not %d, at %d", got, r.At(), r.Wrong(), n, places[2*i])
		}
		if got := r.Text(13); got != "of some bytes" || r.At() != places[2*i+1] || r.Wrong() != api.OK {
			t.Fatalf("Text = %q, at %d, %d, not at %d", got, r.At(), r.Wrong(), places[2*i+1])
		}
	}
	if e := r.End(); e != api.OK || r.At() != len(b) {
		t.Errorf("End = %d, at %d", e, r.At())
	}
}

func TestFirstErrorStays(t *testing.T) {
	for _, c := range []struct {
		name string
		b    []byte
		ask  func(r *pack.Reader)
		want api.Errno
	}{
		{"Num of nothing", nil, func(r *pack.Reader) { r.Num() }, api.ErrShort},
		{"Num of a byte that goes on", []byte{128}, func(r *pack.Reader) { r.Num() }, api.ErrShort},
		{"Num of a 0 behind", []byte{128, 0, 4, 5}, func(r *pack.Reader) { r.Num() }, api.ErrForm},
		{"Text of nothing", nil, func(r *pack.Reader) { r.Text(9) }, api.ErrShort},
		{"Text of a 0 behind", []byte{132, 0, 4, 5}, func(r *pack.Reader) { r.Text(9) }, api.ErrForm},
		{"Text above most", []byte{4, 'a', 'b', 0}, func(r *pack.Reader) { r.Text(1) }, api.ErrLong},
		{"Text of too few", []byte{4, 'a'}, func(r *pack.Reader) { r.Text(9) }, api.ErrShort},
		{"Text of two bytes' length, of too few", []byte{128, 1, 'a'}, func(r *pack.Reader) { r.Text(99) }, api.ErrShort},
		{"End with bytes left over", []byte{4, 2, 2}, func(r *pack.Reader) { r.End() }, api.ErrTail},
	} {
		for ahead := range 4 {
			r := pack.Read(slices.Concat(bytes.Repeat([]byte{6}, ahead), c.b))
			for range ahead {
				if r.Num() != 3 {
					t.Errorf("%s: Num ahead of it is wrong", c.name)
				}
			}
			c.ask(r)
			if r.Wrong() != c.want || r.At() != ahead {
				t.Errorf("%s: %d, at %d, not %d, %d", c.name, r.Wrong(), r.At(), c.want, ahead)
			}
			stays(t, r, ahead, c.want)
		}
	}
}

func TestWrongAndAtChangeNothing(t *testing.T) {
	r := pack.Read([]byte{4, 'a', 'b', 9})
	for range 3 {
		if r.Wrong() != api.OK || r.At() != 0 {
			t.Error("Wrong or At changed the reader")
		}
	}
	if r.Text(2) != "ab" || r.At() != 3 || r.Num() != -5 || r.At() != 4 || r.End() != api.OK {
		t.Error("Wrong or At changed what is read")
	}
}

func TestReadersKeepNothingOfWhatIsHandedIn(t *testing.T) {
	b := pack.Text(pack.Num(make([]byte, 0, 99), -300), "text")
	keep := slices.Clone(b[:cap(b)])
	r, other := pack.Read(b), pack.Read(b)
	first := r.Num()
	if !bytes.Equal(b[:cap(b)], keep) {
		t.Error("reading changed what is read")
	}
	for i := range b {
		b[i] = 255
	}
	if s := r.Text(4); first != -300 || s != "text" || r.End() != api.OK {
		t.Errorf("the reader saw what became of the bytes: %d, %q, %d", first, s, r.Wrong())
	}
	if other.At() != 0 || other.Num() != -300 || other.Text(4) != "text" || other.End() != api.OK {
		t.Error("one reader goes on with another")
	}
}

func TestRoomBehindIsNotRead(t *testing.T) {
	whole := []byte{4, 'a', 'b', 128, 1}
	if got := text(whole[:2], 9); got != (read{wrong: api.ErrShort}) {
		t.Errorf("Text read the room behind: %+v", got)
	}
	r := pack.Read(whole[3:4])
	if n := r.Num(); n != 0 || r.Wrong() != api.ErrShort {
		t.Errorf("Num read the room behind: %d, %d", n, r.Wrong())
	}
	if e := pack.Read(whole[:0]).End(); e != api.OK {
		t.Errorf("End counts the room behind: %d", e)
	}
}

// P4.3

func TestNumReads(t *testing.T) {
	for _, n := range edges() {
		b := written(n)
		if got, want := num(b), (read{n: n, at: len(b)}); got != want {
			t.Errorf("Num of % x: %+v, not %+v", b, got, want)
		}
		behind := slices.Concat(b, []byte{0, 128, 255})
		if got, want := num(behind), (read{n: n, at: len(b)}); got != want {
			t.Errorf("Num of % x: %+v, not %+v", behind, got, want)
		}
		for size := range b {
			if got, want := num(b[:size]), (read{wrong: api.ErrShort}); got != want {
				t.Errorf("Num of % x: %+v", b[:size], got)
			}
		}
	}
}

func TestNumRefuses(t *testing.T) {
	for size := 2; size <= 12; size++ {
		for _, ahead := range []byte{128, 129, 255} {
			b := append(bytes.Repeat([]byte{ahead}, size-1), 0)
			if got, want := num(b), (read{wrong: api.ErrForm}); got != want {
				t.Errorf("Num of % x: %+v", b, got)
			}
		}
	}
	for last := range 256 {
		want := read{wrong: api.ErrForm}
		if last == 1 {
			want = read{n: math.MinInt, at: 10}
		}
		if got := num(long(10, byte(last))); got != want {
			t.Errorf("Num with the tenth byte %d: %+v, not %+v", last, got, want)
		}
		if got := num(append(long(10, byte(last)), 5)); got != want {
			t.Errorf("Num with the tenth byte %d and one behind it: %+v, not %+v", last, got, want)
		}
	}
	for size := range 10 {
		if got, want := num(bytes.Repeat([]byte{255}, size)), (read{wrong: api.ErrShort}); got != want {
			t.Errorf("Num of %d bytes of 255: %+v", size, got)
		}
	}
	for _, size := range []int{10, 11, 1000} {
		if got, want := num(bytes.Repeat([]byte{128}, size)), (read{wrong: api.ErrForm}); got != want {
			t.Errorf("Num of %d bytes of 128: %+v", size, got)
		}
	}
}

func TestNumRefusesAsTheBytesCome(t *testing.T) {
	for _, c := range []struct {
		b    []byte
		want read
	}{
		// What stands behind a number's end isn't its own.
		{[]byte{5, 0, 0}, read{n: -3, at: 1}},
		{[]byte{0, 0}, read{at: 1}},
		// A byte of 128 isn't 0: others follow that tell something.
		{[]byte{128, 128, 1}, read{n: 8192, at: 3}},
		// The 0 comes ahead of the end of the bytes, and of the tenth.
		{[]byte{255, 0, 255}, read{wrong: api.ErrForm}},
		{append([]byte{128, 0}, bytes.Repeat([]byte{255}, 20)...), read{wrong: api.ErrForm}},
		// The tenth comes ahead of the end of the bytes.
		{long(10, 128), read{wrong: api.ErrForm}},
		{long(9, 255), read{wrong: api.ErrShort}},
	} {
		if got := num(c.b); got != c.want {
			t.Errorf("Num of % x: %+v, not %+v", c.b, got, c.want)
		}
	}
}

func TestTextReads(t *testing.T) {
	for _, s := range texts() {
		b := slices.Concat(written(len(s)), []byte(s))
		for _, most := range []int{len(s), len(s) + 1, math.MaxInt} {
			if got, want := text(b, most), (read{s: s, at: len(b)}); got != want {
				t.Errorf("Text(%d) of %d bytes: at %d, %d", most, len(s), got.at, got.wrong)
			}
			if got, want := text(append(b, 0, 7), most), (read{s: s, at: len(b)}); got != want {
				t.Errorf("Text(%d) of %d bytes and more behind: at %d, %d", most, len(s), got.at, got.wrong)
			}
		}
		for _, most := range []int{len(s) - 1, -1, math.MinInt} {
			if got, want := text(b, most), (read{wrong: api.ErrLong}); got != want {
				t.Errorf("Text(%d) of %d bytes: at %d, %d", most, len(s), got.at, got.wrong)
			}
		}
		for _, size := range []int{len(b) - 1, len(b) - len(s)} {
			if len(s) == 0 {
				continue
			}
			if got, want := text(b[:size], len(s)), (read{wrong: api.ErrShort}); got != want {
				t.Errorf("Text of %d bytes, of which some lack: at %d, %d", len(s), got.at, got.wrong)
			}
		}
	}
}

func TestTextRefusesInOrder(t *testing.T) {
	for _, c := range []struct {
		name string
		b    []byte
		most int
		want api.Errno
	}{
		{"Num's ErrShort, of nothing", nil, 9, api.ErrShort},
		{"Num's ErrShort ahead of most", []byte{128}, -1, api.ErrShort},
		{"Num's ErrForm ahead of most", []byte{128, 0}, -1, api.ErrForm},
		{"Num's ErrForm at the tenth", long(10, 2), 9, api.ErrForm},
		{"a length of -1", []byte{1}, 9, api.ErrLong},
		{"a length of -1, and bytes behind", []byte{1, 'a', 'b'}, math.MaxInt, api.ErrLong},
		{"a length of -1, most of -1", []byte{1, 'a', 'b'}, -1, api.ErrLong},
		{"a length of -2, most of -1", []byte{3, 'a', 'b'}, -1, api.ErrLong},
		{"the least length", written(math.MinInt), math.MaxInt, api.ErrLong},
		{"the least length, the least most", written(math.MinInt), math.MinInt, api.ErrLong},
		{"a length above most ahead of too few bytes", []byte{4, 'a'}, 1, api.ErrLong},
		{"a length of 0 above a most below 0", []byte{0}, -1, api.ErrLong},
		{"a length of 1 above 0", []byte{2, 'a'}, 0, api.ErrLong},
		{"one byte too few", []byte{6, 'a', 'b'}, 3, api.ErrShort},
		{"no bytes", []byte{2}, 1, api.ErrShort},
		{"the greatest length", append(written(math.MaxInt), 'a'), math.MaxInt, api.ErrShort},
		{"the greatest length, above most", append(written(math.MaxInt), 'a'), math.MaxInt - 1, api.ErrLong},
		{"a length of 2^32", append(written(1<<32), 'a'), math.MaxInt, api.ErrShort},
		{"a length of 2^32 and 1", append(written(1<<32+1), 'a'), math.MaxInt, api.ErrShort},
	} {
		if got, want := text(c.b, c.most), (read{wrong: c.want}); got != want {
			t.Errorf("%s: %+v, not %+v", c.name, got, want)
		}
	}
	if got, want := text([]byte{0}, 0), (read{at: 1}); got != want {
		t.Errorf("the empty text, of at most 0: %+v", got)
	}
}

func TestTextHoldsAgainstEachMost(t *testing.T) {
	for length := -3; length <= 70; length++ {
		for most := -3; most <= 70; most++ {
			for there := range 70 {
				b := append(written(length), strings.Repeat("q", there)...)
				want := read{}
				switch {
				case length < 0 || length > most:
					want.wrong = api.ErrLong
				case there < length:
					want.wrong = api.ErrShort
				default:
					want.s, want.at = strings.Repeat("q", length), len(b)-there+length
				}
				if got := text(b, most); got != want {
					t.Fatalf("Text(%d) of a length %d with %d bytes: %+v, not %+v", most, length, there, got, want)
				}
			}
		}
	}
}

// P4.4

func TestEnd(t *testing.T) {
	for _, b := range [][]byte{nil, {}} {
		r := pack.Read(b)
		if r.End() != api.OK || r.End() != api.OK || r.Wrong() != api.OK || r.At() != 0 {
			t.Errorf("End of nothing: %d, at %d", r.Wrong(), r.At())
		}
	}
	for _, b := range [][]byte{{0}, {128}, {128, 0}, {5, 6, 7}} {
		r := pack.Read(b)
		if r.End() != api.ErrTail || r.Wrong() != api.ErrTail || r.At() != 0 {
			t.Errorf("End of % x: %d, at %d", b, r.Wrong(), r.At())
		}
		stays(t, r, 0, api.ErrTail)
	}
	r := pack.Read([]byte{5, 6})
	r.Num()
	if r.End() != api.ErrTail || r.At() != 1 {
		t.Errorf("End with one byte left over: %d, at %d", r.Wrong(), r.At())
	}
	stays(t, r, 1, api.ErrTail)
}

func TestEndBehindAnError(t *testing.T) {
	r := pack.Read([]byte{7, 128, 0})
	r.Num()
	r.Num()
	if r.End() != api.ErrForm || r.At() != 1 {
		t.Errorf("End behind ErrForm: %d, at %d", r.Wrong(), r.At())
	}
	stays(t, r, 1, api.ErrForm)
	r = pack.Read(nil)
	r.Num()
	if r.End() != api.ErrShort || r.At() != 0 {
		t.Errorf("End behind ErrShort, with nothing left over: %d, at %d", r.Wrong(), r.At())
	}
}

func TestEndAtTheEndGoesOn(t *testing.T) {
	r := pack.Read([]byte{7})
	if r.Num() != -4 || r.End() != api.OK || r.End() != api.OK || r.At() != 1 {
		t.Errorf("End at the end: %d, at %d", r.Wrong(), r.At())
	}
	if r.Num() != 0 || r.Wrong() != api.ErrShort || r.End() != api.ErrShort || r.At() != 1 {
		t.Errorf("Num at the end: %d, at %d", r.Wrong(), r.At())
	}
}

// P4.5

func TestWhatIsWrittenIsRead(t *testing.T) {
	var b []byte
	for _, s := range texts() {
		b = pack.Text(b, s)
		b = pack.Num(b, len(s)*7919-1e6)
	}
	r := pack.Read(b)
	for _, s := range texts() {
		if got := r.Text(len(s)); got != s {
			t.Errorf("a text of %d bytes is read as one of %d", len(s), len(got))
		}
		if got := r.Num(); got != len(s)*7919-1e6 {
			t.Errorf("%d is read as %d", len(s)*7919-1e6, got)
		}
	}
	if r.End() != api.OK || r.At() != len(b) {
		t.Errorf("%d, at %d", r.Wrong(), r.At())
	}
}

// holds fails if a reader takes b whole, but it isn't what is written of what was read.
func holds(t *testing.T, b []byte) {
	t.Helper()
	r := pack.Read(b)
	if n := r.Num(); r.End() == api.OK && !bytes.Equal(pack.Num(nil, n), b) {
		t.Fatalf("% x is taken for %d", b, n)
	}
	r = pack.Read(b)
	if s := r.Text(math.MaxInt); r.End() == api.OK && !bytes.Equal(pack.Text(nil, s), b) {
		t.Fatalf("% x is taken for %q", b, s)
	}
}

func TestWhatIsTakenWholeHasJustTheseBytes(t *testing.T) {
	taken := 0
	for i := range 1 << 16 {
		b := []byte{byte(i), byte(i >> 8)}
		holds(t, b[:1])
		holds(t, b)
		for _, behind := range [][]byte{{0}, {1}, {127}, {128}, {255}, {128, 0}, {128, 1}, {129, 128, 0}} {
			holds(t, slices.Concat(b, behind))
		}
		r := pack.Read(b)
		if r.Num(); r.End() == api.OK {
			taken++
		}
	}
	// The first goes on, the second is 1 to 127.
	if taken != 128*127 {
		t.Errorf("%d numbers have two bytes", taken)
	}
	ends := []byte{0, 1, 2, 127, 128, 129, 255}
	for size := 8; size <= 12; size++ {
		for _, first := range ends {
			for _, middle := range ends {
				for _, last := range ends {
					b := bytes.Repeat([]byte{middle}, size)
					b[0], b[size-1] = first, last
					holds(t, b)
				}
			}
		}
	}
}

// The chapter's runs.

func TestRuns(t *testing.T) {
	if got := pack.Num(nil, -1); !bytes.Equal(got, []byte{0x01}) {
		t.Errorf("Num(nothing, -1) = % x", got)
	}
	if got := pack.Num(nil, 64); !bytes.Equal(got, []byte{0x80, 0x01}) {
		t.Errorf("Num(nothing, 64) = % x", got)
	}
	if got := pack.Text(nil, "ab"); !bytes.Equal(got, []byte{0x04, 0x61, 0x62}) {
		t.Errorf("Text(nothing, ab) = % x", got)
	}
	if got := num([]byte{0x80, 0x00}); got != (read{wrong: api.ErrForm}) {
		t.Errorf("Num of 80 00: %+v", got)
	}
	if got := num([]byte{0x80}); got != (read{wrong: api.ErrShort}) {
		t.Errorf("Num of 80: %+v", got)
	}
	if got := text([]byte{0x04, 0x61, 0x62}, 1); got != (read{wrong: api.ErrLong}) {
		t.Errorf("Text(1) of 04 61 62: %+v", got)
	}
}
