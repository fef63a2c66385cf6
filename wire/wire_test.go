package wire_test

import (
	"bytes"
	"fmt"
	"math"
	"slices"
	"strings"
	"testing"

	"depot/api"
	"depot/wire"
)

// bare is frames that are right, one of each kind and role that go together, with
// nothing else in them.
func bare() []api.Frame {
	return []api.Frame{
		{Kind: api.FPut, Role: api.RMeta},
		{Kind: api.FPut, Role: api.RPart},
		{Kind: api.FGet, Role: api.RMeta},
		{Kind: api.FGet, Role: api.RPart},
		{Kind: api.FDrop, Role: api.RMeta},
		{Kind: api.FDrop, Role: api.RPart},
		{Kind: api.FScan},
		{Kind: api.FReset},
		{Kind: api.FAnswer},
		{Kind: api.FAnswer, Role: api.RMeta},
		{Kind: api.FAnswer, Role: api.RPart},
		{Kind: api.FRefused},
	}
}

// full is the frames of bare, each with other fields that all differ.
func full() []api.Frame {
	all := bare()
	for i := range all {
		f := &all[i]
		f.Slot = i
		f.Inc, f.Rid, f.Floor, f.Version = 100+i, 20000+i, 3000000+i, 400000000+i
		f.Key, f.Data = fmt.Sprint("key ", i), fmt.Sprint("\x00\x80\xffdata ", i)
	}
	return all
}

// text is a text of that many bytes.
func text(length int) string {
	return strings.Repeat("0123456789", length/10+1)[:length]
}

// brief tells a frame in few letters, however long its texts are.
func brief(f api.Frame) string {
	return fmt.Sprintf("{kind %d slot %d inc %d rid %d floor %d role %d key %.12q of %d version %d data %.12q of %d}",
		f.Kind, f.Slot, f.Inc, f.Rid, f.Floor, f.Role, f.Key, len(f.Key), f.Version, f.Data, len(f.Data))
}

// start tells the first bytes, however many there are.
func start(b []byte) string {
	return fmt.Sprintf("% x of %d", b[:min(len(b), 40)], len(b))
}

// right fails if Right of f, and whether Put writes it, isn't want.
func right(t *testing.T, f api.Frame, want bool) {
	t.Helper()
	if got := wire.Right(f); got != want {
		t.Errorf("Right(%s) = %v", brief(f), got)
	}
	if b := wire.Put(f); len(b) > 0 != want {
		t.Errorf("Put(%s) = %s", brief(f), start(b))
	}
}

// numbers is a frame's numbers ahead of its key, in the order in which they are written.
func numbers(f *api.Frame) []*int {
	return []*int{&f.Kind, &f.Slot, &f.Inc, &f.Rid, &f.Floor, &f.Role}
}

// spelled is the number's bytes, as chapter 4 says them.
func spelled(n int) []byte {
	twice := uint64(n) * 2
	if n < 0 {
		twice = uint64(-1-n)*2 + 1
	}
	var out []byte
	for ; twice > 127; twice /= 128 {
		out = append(out, byte(twice%128)+128)
	}
	return append(out, byte(twice))
}

// written is the bytes that tell f, be it right or not.
func written(f api.Frame) []byte {
	var out []byte
	for _, n := range numbers(&f) {
		out = append(out, spelled(*n)...)
	}
	out = append(append(out, spelled(len(f.Key))...), f.Key...)
	out = append(out, spelled(f.Version)...)
	return append(append(out, spelled(len(f.Data))...), f.Data...)
}

// reading is a plain reader of bytes, as chapter 4 says it.
type reading struct {
	left []byte
	e    api.Errno
}

// num reads a number.
func (r *reading) num() int {
	var twice uint64
	for i, piece := range r.left {
		if r.e != api.OK {
			return 0
		}
		if i > 0 && piece == 0 || i == 9 && piece > 1 {
			r.e = api.ErrForm
			return 0
		}
		twice += uint64(piece%128) << (7 * i)
		if piece < 128 {
			r.left = r.left[i+1:]
			if twice%2 == 1 {
				return -1 - int(twice/2)
			}
			return int(twice / 2)
		}
	}
	if r.e == api.OK {
		r.e = api.ErrShort
	}
	return 0
}

// text reads a text.
func (r *reading) text(most int) string {
	length := r.num()
	switch {
	case r.e != api.OK:
	case length < 0 || length > most:
		r.e = api.ErrLong
	case length > len(r.left):
		r.e = api.ErrShort
	default:
		s := string(r.left[:length])
		r.left = r.left[length:]
		return s
	}
	return ""
}

// told is what Get must tell of b.
func told(b []byte) (api.Frame, api.Errno) {
	r := &reading{left: b}
	var f api.Frame
	for _, n := range numbers(&f) {
		*n = r.num()
	}
	f.Key = r.text(api.MaxKey)
	f.Version = r.num()
	f.Data = r.text(api.MaxData)
	if r.e == api.OK && len(r.left) > 0 {
		r.e = api.ErrTail
	}
	if r.e == api.OK && !may(f) {
		r.e = api.ErrForm
	}
	if r.e != api.OK {
		return api.Frame{}, r.e
	}
	return f, api.OK
}

// may is whether a frame with numbers and texts of any kind is right.
func may(f api.Frame) bool {
	for _, n := range []int{f.Inc, f.Rid, f.Floor, f.Version} {
		if n < 0 || n > 1<<40 {
			return false
		}
	}
	if f.Slot < 0 || f.Slot > 11 || len(f.Key) > 250 || len(f.Data) > 1<<20+1024 {
		return false
	}
	return slices.ContainsFunc(bare(), func(x api.Frame) bool { return x.Kind == f.Kind && x.Role == f.Role })
}

// gets fails if Get doesn't tell that of b.
func gets(t *testing.T, b []byte, want api.Frame, wrong api.Errno) {
	t.Helper()
	if f, e := wire.Get(b); f != want || e != wrong {
		t.Errorf("Get(%s) = %s, %d, not %s, %d", start(b), brief(f), e, brief(want), wrong)
	}
}

// refuses fails if Get doesn't refuse b with that error.
func refuses(t *testing.T, b []byte, wrong api.Errno) {
	t.Helper()
	gets(t, b, api.Frame{}, wrong)
}

// chance is a row of numbers that is the same in each run.
type chance uint64

// below is a number from 0 to n - 1.
func (c *chance) below(n int) int {
	*c ^= *c << 13
	*c ^= *c >> 7
	*c ^= *c << 17
	return int(uint64(*c) >> 11 % uint64(n))
}

// one is one of those.
func one[T any](c *chance, of ...T) T {
	return of[c.below(len(of))]
}

// bytes is n bytes.
func (c *chance) bytes(n int) []byte {
	out := make([]byte, n)
	for i := range out {
		out[i] = byte(c.below(256))
	}
	return out
}

// number is one from 0 to MaxRid, of each count of bytes.
func (c *chance) number() int {
	return one(c, 0, api.MaxRid, c.below(64), c.below(1<<13), c.below(1<<20), c.below(api.MaxRid))
}

// frame is one that is right.
func (c *chance) frame() api.Frame {
	f := one(c, bare()...)
	f.Slot = c.below(api.MaxN)
	f.Inc, f.Rid, f.Floor, f.Version = c.number(), c.number(), c.number(), c.number()
	f.Key = string(c.bytes(one(c, 0, 1, 63, 64, api.MaxKey, c.below(api.MaxKey+1))))
	f.Data = string(c.bytes(one(c, 0, 1, 63, 64, c.below(400))))
	return f
}

// P9.1

func TestRightOfKindsAndRoles(t *testing.T) {
	roles := []int{math.MinInt, -2, -1, 0, api.RMeta, api.RPart, 3, 4, math.MaxInt}
	for kind := -3; kind <= 12; kind++ {
		for _, role := range roles {
			f := api.Frame{Kind: kind, Role: role}
			right(t, f, slices.Contains(bare(), f))
		}
	}
	for _, kind := range []int{math.MinInt, math.MinInt32, 256 + api.FPut, 1<<32 + api.FPut, math.MaxInt} {
		for _, role := range roles {
			right(t, api.Frame{Kind: kind, Role: role}, false)
		}
	}
	right(t, api.Frame{}, false)
}

func TestRightOfSlots(t *testing.T) {
	for _, f := range append(bare(), full()...) {
		for slot := -2; slot <= api.MaxN+2; slot++ {
			f.Slot = slot
			right(t, f, slot >= 0 && slot < api.MaxN)
		}
		for _, slot := range []int{math.MinInt, 256, 1 << 32, math.MaxInt} {
			f.Slot = slot
			right(t, f, false)
		}
	}
}

func TestRightOfNumbers(t *testing.T) {
	fields := []func(*api.Frame) *int{
		func(f *api.Frame) *int { return &f.Inc },
		func(f *api.Frame) *int { return &f.Rid },
		func(f *api.Frame) *int { return &f.Floor },
		func(f *api.Frame) *int { return &f.Version },
	}
	for _, f := range append(bare(), full()...) {
		for _, field := range fields {
			x := f
			for _, n := range []int{0, 1, 1 << 32, api.MaxRid - 1, api.MaxRid} {
				*field(&x) = n
				right(t, x, true)
			}
			for _, n := range []int{math.MinInt, -api.MaxRid, -1, api.MaxRid + 1, math.MaxInt} {
				*field(&x) = n
				right(t, x, false)
			}
		}
	}
}

func TestRightOfAllAtTheirMost(t *testing.T) {
	for _, f := range bare() {
		f.Slot = api.MaxN - 1
		f.Inc, f.Rid, f.Floor, f.Version = api.MaxRid, api.MaxRid, api.MaxRid, api.MaxRid
		f.Key, f.Data = text(api.MaxKey), text(api.MaxData)
		right(t, f, true)
	}
}

func TestRightOfKeys(t *testing.T) {
	for _, f := range append(bare(), full()...) {
		for length := range api.MaxKey + 5 {
			f.Key = text(length)
			right(t, f, length <= api.MaxKey)
		}
		f.Key = text(api.MaxData)
		right(t, f, false)
	}
}

func TestRightOfData(t *testing.T) {
	for _, f := range bare() {
		for _, length := range []int{0, 1, api.MaxKey + 1, api.MaxValue, api.MaxValue + 1, api.MaxData - 1, api.MaxData} {
			f.Data = text(length)
			right(t, f, true)
		}
		for _, length := range []int{api.MaxData + 1, api.MaxData + 2, 2 * api.MaxData} {
			f.Data = text(length)
			right(t, f, false)
		}
	}
}

// A key or data may be of any bytes: texts are bytes.
func TestRightOfTextsOfEachByte(t *testing.T) {
	for i := range 256 {
		s := string([]byte{byte(i)})
		right(t, api.Frame{Kind: api.FPut, Role: api.RPart, Key: s, Data: s}, true)
	}
}

// P9.2

func TestPutWrites(t *testing.T) {
	for _, f := range append(bare(), full()...) {
		if got, want := wire.Put(f), written(f); !bytes.Equal(got, want) {
			t.Errorf("Put(%s) = % x, not % x", brief(f), got, want)
		}
	}
	f := api.Frame{Kind: api.FPut, Slot: 11, Inc: 64, Rid: api.MaxRid, Floor: 3, Role: api.RPart, Key: "key", Version: 9, Data: "\x00d"}
	want := []byte{2, 22, 0x80, 1, 0x80, 0x80, 0x80, 0x80, 0x80, 0x40, 6, 4, 6, 'k', 'e', 'y', 18, 4, 0, 'd'}
	if got := wire.Put(f); !bytes.Equal(got, want) {
		t.Errorf("Put(%s) = % x, not % x", brief(f), got, want)
	}
}

func TestPutWritesTextsOfEachLength(t *testing.T) {
	f := api.Frame{Kind: api.FAnswer, Slot: 5, Version: 77}
	for key := range api.MaxKey + 1 {
		f.Key = text(key)
		for _, data := range []int{0, 1, 63, 64, 300, 8191, 8192} {
			f.Data = text(data)
			if got, want := wire.Put(f), written(f); !bytes.Equal(got, want) {
				t.Fatalf("Put(%s) = %s, not %s", brief(f), start(got), start(want))
			}
		}
	}
	for _, data := range []int{api.MaxValue, api.MaxData - 1, api.MaxData} {
		f.Data = text(data)
		if got, want := wire.Put(f), written(f); !bytes.Equal(got, want) {
			t.Fatalf("Put(%s) = %s, not %s", brief(f), start(got), start(want))
		}
	}
}

// What isn't right in one field alone is told by right; here more than one field is wrong.
func TestPutOfWhatIsNotRight(t *testing.T) {
	for _, f := range []api.Frame{
		{},
		{Kind: -1, Slot: -1, Inc: -1, Rid: -1, Floor: -1, Role: -1, Version: -1},
		{Kind: 8, Slot: 12, Role: 3},
		{Key: text(api.MaxKey + 1), Data: text(api.MaxData + 1)},
		{Kind: math.MaxInt, Slot: math.MaxInt, Inc: math.MaxInt, Rid: math.MaxInt, Floor: math.MaxInt, Role: math.MaxInt, Version: math.MaxInt},
		{Kind: math.MinInt, Slot: math.MinInt, Inc: math.MinInt, Rid: math.MinInt, Floor: math.MinInt, Role: math.MinInt, Version: math.MinInt},
	} {
		right(t, f, false)
	}
}

func TestPutIsNewMemory(t *testing.T) {
	for _, f := range full() {
		want := written(f)
		a, b := wire.Put(f), wire.Put(f)
		room := a[:cap(a)]
		for i := range room {
			room[i] = 0xee
		}
		if !bytes.Equal(b, want) || !bytes.Equal(wire.Put(f), want) {
			t.Errorf("Put(%s) shares memory with another answer", brief(f))
		}
	}
}

// P9.3

func TestGetOfFrames(t *testing.T) {
	for _, f := range append(bare(), full()...) {
		gets(t, written(f), f, api.OK)
	}
	f := api.Frame{Kind: api.FPut, Slot: 11, Inc: 64, Rid: api.MaxRid, Floor: 3, Role: api.RPart, Key: "key", Version: 9, Data: "\x00d"}
	gets(t, []byte{2, 22, 0x80, 1, 0x80, 0x80, 0x80, 0x80, 0x80, 0x40, 6, 4, 6, 'k', 'e', 'y', 18, 4, 0, 'd'}, f, api.OK)
}

func TestGetOfNothing(t *testing.T) {
	refuses(t, nil, api.ErrShort)
	refuses(t, []byte{}, api.ErrShort)
	refuses(t, written(full()[0])[:0], api.ErrShort)
}

func TestGetOfBeginnings(t *testing.T) {
	for _, f := range append(bare(), full()...) {
		b := written(f)
		for n := range b {
			// The rest stands in the room behind it, which isn't read.
			refuses(t, b[:n], api.ErrShort)
			refuses(t, slices.Clip(b[:n]), api.ErrShort)
		}
	}
	b := written(api.Frame{Kind: api.FAnswer, Data: text(api.MaxData)})
	for _, n := range []int{1, 12, len(b) - api.MaxData, len(b) / 2, len(b) - 1} {
		refuses(t, b[:n], api.ErrShort)
	}
}

func TestGetOfATail(t *testing.T) {
	for _, f := range append(bare(), full()...) {
		b := written(f)
		for i := range 256 {
			refuses(t, append(b, byte(i)), api.ErrTail)
		}
		refuses(t, append(b, b...), api.ErrTail)
		refuses(t, append(b, 0, 0, 0), api.ErrTail)
	}
}

// End is asked ahead of whether the frame is right.
func TestGetOfATailOfAFrameThatIsNotRight(t *testing.T) {
	f := api.Frame{Kind: 9, Slot: -1, Inc: -7, Role: 5, Key: "a"}
	refuses(t, written(f), api.ErrForm)
	refuses(t, append(written(f), 0), api.ErrTail)
	b := written(f)
	refuses(t, b[:len(b)-1], api.ErrShort)
}

func TestGetOfAFrameThatIsNotRight(t *testing.T) {
	for _, f := range append(bare(), full()...) {
		for i := range 7 {
			x := f
			field := append(numbers(&x), &x.Version)[i]
			for _, n := range []int{math.MinInt, -api.MaxRid, -2, -1, api.MaxRid + 1, math.MaxInt} {
				*field = n
				refuses(t, written(x), api.ErrForm)
			}
		}
		for _, slot := range []int{-1, api.MaxN, api.MaxN + 1} {
			x := f
			x.Slot = slot
			refuses(t, written(x), api.ErrForm)
		}
	}
	for kind := -3; kind <= 12; kind++ {
		for role := -3; role <= 6; role++ {
			f := api.Frame{Kind: kind, Role: role}
			if !slices.Contains(bare(), f) {
				refuses(t, written(f), api.ErrForm)
			}
		}
	}
}

// A number in more pieces than it needs, or with more bits than there are, is none:
// wherever in the frame it stands.
func TestGetOfNumbersThatAreNone(t *testing.T) {
	f := full()[0]
	long := bytes.Repeat([]byte{0xff}, 9)
	for i := range 9 {
		head, tail := cutAt(f, i)
		refuses(t, slices.Concat(head, []byte{0x80, 0}, tail), api.ErrForm)
		refuses(t, slices.Concat(head, []byte{0x82, 0x80, 0}, tail), api.ErrForm)
		refuses(t, slices.Concat(head, []byte{0x84, 0}), api.ErrForm)
		refuses(t, slices.Concat(head, long, []byte{2}, tail), api.ErrForm)
		refuses(t, slices.Concat(head, long, []byte{0x81, 0}, tail), api.ErrForm)
		refuses(t, slices.Concat(head, long, []byte{0xff}), api.ErrForm)
		refuses(t, slices.Concat(head, long), api.ErrShort)
		refuses(t, slices.Concat(head, []byte{0x80}), api.ErrShort)
	}
}

// cutAt is the bytes of f's fields ahead of the one at that place, and the bytes behind
// its number.
func cutAt(f api.Frame, place int) (head, tail []byte) {
	var parts [][]byte
	for _, n := range numbers(&f) {
		parts = append(parts, spelled(*n), nil)
	}
	parts = append(parts, spelled(len(f.Key)), []byte(f.Key), spelled(f.Version), nil, spelled(len(f.Data)), []byte(f.Data))
	return slices.Concat(parts[:2*place]...), slices.Concat(parts[2*place+1:]...)
}

func TestGetOfTextsThatAreTooLong(t *testing.T) {
	f := full()[1]
	for _, at := range []struct{ place, most int }{{6, api.MaxKey}, {8, api.MaxData}} {
		head, _ := cutAt(f, at.place)
		for _, length := range []int{math.MinInt, -api.MaxRid, -1, at.most + 1, at.most + 2, api.MaxRid, math.MaxInt} {
			refuses(t, slices.Concat(head, spelled(length)), api.ErrLong)
			refuses(t, slices.Concat(head, spelled(length), []byte(text(at.most+2)), []byte{0, 0}), api.ErrLong)
		}
		for _, length := range []int{1, at.most - 1, at.most} {
			refuses(t, slices.Concat(head, spelled(length)), api.ErrShort)
			refuses(t, slices.Concat(head, spelled(length), []byte(text(length-1))), api.ErrShort)
		}
	}
	f.Key = text(api.MaxKey + 1)
	refuses(t, written(f), api.ErrLong)
	refuses(t, append(written(f), 0), api.ErrLong)
	f.Key, f.Data = "k", text(api.MaxData+1)
	refuses(t, written(f), api.ErrLong)
	refuses(t, append(written(f), 0), api.ErrLong)
}

func TestGetOfTextsAtTheirMost(t *testing.T) {
	f := full()[1]
	f.Key = text(api.MaxKey)
	gets(t, written(f), f, api.OK)
	f.Data = text(api.MaxData)
	gets(t, written(f), f, api.OK)
}

// The first error stays, whatever comes behind it.
func TestGetTellsTheFirstError(t *testing.T) {
	head, _ := cutAt(full()[2], 6)
	tooLong := spelled(api.MaxKey + 1)
	refuses(t, []byte{0x80, 0, 0x80}, api.ErrForm)
	refuses(t, slices.Concat(head, tooLong, []byte{0x80, 0}), api.ErrLong)
	refuses(t, slices.Concat(head, []byte{0x80, 0}, tooLong), api.ErrForm)
	refuses(t, slices.Concat(head, []byte{2, 'a', 0x80, 0}, spelled(-1)), api.ErrForm)
	refuses(t, slices.Concat(head, []byte{2, 'a', 0}, spelled(-1), []byte{0x80, 0}), api.ErrLong)
	refuses(t, slices.Concat(head, []byte{6, 'a', 'b'}), api.ErrShort)
}

func TestGetOfBytesWithOneTurned(t *testing.T) {
	for _, f := range append(bare(), full()...) {
		b := written(f)
		for at := range b {
			was := b[at]
			for i := range 256 {
				b[at] = byte(i)
				want, wrong := told(b)
				gets(t, b, want, wrong)
				if byte(i) != was && want == f {
					t.Errorf("%s has two forms: % x", brief(f), b)
				}
			}
			b[at] = was
		}
	}
}

func TestGetLeavesTheBytes(t *testing.T) {
	for _, f := range full() {
		b := written(f)
		for _, size := range []int{0, 1, 7, len(b) - 1, len(b), len(b) + 1} {
			room := append(slices.Clone(b), bytes.Repeat([]byte{0xee}, 20)...)
			before := slices.Clone(room)
			wire.Get(room[:size])
			if !bytes.Equal(room, before) {
				t.Errorf("Get of %d bytes changed % x to % x", size, before, room)
			}
		}
	}
}

func TestGetKeepsNothingOfTheBytes(t *testing.T) {
	for _, f := range full() {
		b := written(f)
		got, e := wire.Get(b)
		for i := range b {
			b[i] = '#'
		}
		if got != f || e != api.OK {
			t.Errorf("%s, %d is told behind a change of the bytes, not %s, 0", brief(got), e, brief(f))
		}
	}
}

// P9.4

func TestGetOfPutIsTheFrame(t *testing.T) {
	for _, f := range append(bare(), full()...) {
		gets(t, wire.Put(f), f, api.OK)
	}
	f := full()[0]
	for _, length := range []int{api.MaxValue, api.MaxData - 1, api.MaxData} {
		f.Data = text(length)
		gets(t, wire.Put(f), f, api.OK)
	}
	c := chance(9)
	for range 3000 {
		f := c.frame()
		right(t, f, true)
		gets(t, wire.Put(f), f, api.OK)
	}
}

func TestWhatGetTakesIsPutOfIt(t *testing.T) {
	c := chance(99)
	taken := 0
	for range 60000 {
		b := spoiled(&c, written(c.frame()))
		want, wrong := told(b)
		gets(t, b, want, wrong)
		if f, e := wire.Get(b); e == api.OK {
			taken++
			if got := wire.Put(f); !bytes.Equal(got, b) {
				t.Fatalf("Get takes %s, Put writes %s", start(b), start(got))
			}
		}
	}
	if taken < 10000 || taken > 50000 {
		t.Errorf("%d of 60000 were taken", taken)
	}
}

// spoiled is b with up to two places changed, which leaves it a frame's bytes at times.
func spoiled(c *chance, b []byte) []byte {
	for range c.below(3) {
		at := c.below(len(b) + 1)
		// The places of the numbers ahead of the key are met more often.
		if c.below(2) == 0 {
			at = min(at, c.below(12))
		}
		switch c.below(5) {
		case 0:
			b = slices.Insert(b, at, byte(c.below(256)))
		case 1:
			b = slices.Delete(b, at, min(at+1, len(b)))
		case 2:
			b = slices.Insert(b, at, 0x80)
		default:
			if at < len(b) {
				b[at] ^= 1 << c.below(8)
			}
		}
	}
	return b
}

func TestGetOfAnyBytes(t *testing.T) {
	c := chance(999)
	for range 60000 {
		b := c.bytes(c.below(30))
		for i := range b {
			// Small numbers come further than others.
			if c.below(4) > 0 {
				b[i] %= 16
			}
		}
		want, wrong := told(b)
		gets(t, b, want, wrong)
		if wrong == api.OK && !bytes.Equal(wire.Put(want), b) {
			t.Fatalf("Get takes %s, Put writes %s", start(b), start(wire.Put(want)))
		}
	}
}

func TestABeginningIsNone(t *testing.T) {
	c := chance(7)
	for range 200 {
		b := wire.Put(c.frame())
		for n := range b {
			refuses(t, b[:n], api.ErrShort)
		}
	}
}

// No two frames have the same bytes, and none's are the beginning of another's.
func TestFramesDiffer(t *testing.T) {
	c := chance(77)
	all := append(bare(), full()...)
	for range 300 {
		all = append(all, c.frame())
	}
	for i, f := range all {
		for _, g := range all[:i] {
			if f != g && (bytes.HasPrefix(wire.Put(f), wire.Put(g)) || bytes.HasPrefix(wire.Put(g), wire.Put(f))) {
				t.Errorf("%s and %s are one", brief(f), brief(g))
			}
		}
	}
}

// Runs

func TestRuns(t *testing.T) {
	f := api.Frame{Kind: api.FGet, Slot: 1, Role: api.RMeta, Key: "a"}
	want := []byte{0x04, 0x02, 0x00, 0x00, 0x00, 0x02, 0x02, 0x61, 0x00, 0x00}
	b := wire.Put(f)
	if !bytes.Equal(b, want) {
		t.Fatalf("Put(%s) = % x, not % x", brief(f), b, want)
	}
	gets(t, b, f, api.OK)
	refuses(t, b[:len(b)-1], api.ErrShort)
	b[0] = 18
	refuses(t, b, api.ErrForm)
	// The number 18, which is written as 36, is no kind either.
	b[0] = 36
	refuses(t, b, api.ErrForm)
}

// R4

func TestTheSameCallsTellTheSame(t *testing.T) {
	c := chance(5)
	for range 500 {
		f := c.frame()
		one, two := wire.Put(f), wire.Put(f)
		if !bytes.Equal(one, two) {
			t.Errorf("Put(%s) = %s, then %s", brief(f), start(one), start(two))
		}
		b := spoiled(&c, one)
		x, e := wire.Get(b)
		y, g := wire.Get(append(slices.Clone(b), 1, 2, 3)[:len(b)])
		if x != y || e != g {
			t.Errorf("Get(%s) = %s, %d, then %s, %d", start(b), brief(x), e, brief(y), g)
		}
	}
}
